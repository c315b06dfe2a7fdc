package wire

import "reliquary/api"

// writer gathers bytes.
type writer struct {
	out []byte
}

// put writes the numbers, each as so many bytes, and the text that stands behind them:
// a length and what has it go in one call.
func (w *writer) put(size int, text []byte, ahead ...int) {
	for _, n := range ahead {
		for shift := 8 * (size - 1); shift >= 0; shift -= 8 {
			w.out = append(w.out, byte(n>>shift))
		}
	}
	w.out = append(w.out, text...)
}

// points writes keys or sigs, that must be of one suite. What suite tells as bytes it has
// checked: a check ahead would be the same work twice.
func points[T any](w *writer, l []T, tell func(T) ([]byte, api.Errno), of func(T) bool) api.Errno {
	w.put(countSize, nil, len(l))
	for _, k := range l {
		b, fault := tell(k)
		if fault != api.OK {
			return fault
		}
		if !of(k) {
			return api.ErrArg
		}
		w.out = append(w.out, b...)
	}
	return api.OK
}
