package wire

import (
	"reliquary/api"
	"reliquary/suite"
	"reliquary/words"
)

// How many bytes an entry has for a kind, a node or a suite; for a count, or the length
// of a name; for the length of its text; for a small number.
const (
	kindSize  = 1
	countSize = 1
	bodySize  = 2
	smallSize = 4
)

// sizes are how many bytes a scalar, a key and a sig have.
type sizes struct {
	num, key, sig int
}

// sizesOf tells the sizes of a suite.
func sizesOf(s api.Suite) sizes {
	switch s {
	case api.Great:
		return sizes{num: 32, key: 48, sig: 96}
	default:
		return sizes{num: 8, key: 17, sig: 17}
	}
}

// Check tells whether an entry may be written.
func Check(e api.Entry) api.Errno {
	_, fault := Entry(e)
	return fault
}

// Entry tells its bytes.
func Entry(e api.Entry) ([]byte, api.Errno) {
	if fault := bounds(e); fault != api.OK {
		return nil, fault
	}
	var w writer
	w.put(kindSize, nil, e.Kind, e.Node)
	for _, name := range []string{e.Who, e.Tenant, e.Name} {
		w.put(countSize, []byte(name), len(name))
	}
	w.put(bodySize, e.Text, len(e.Text))
	w.put(countSize, nil, len(e.Ints))
	w.put(smallSize, nil, e.Ints...)
	w.put(kindSize, nil, int(e.Suite))
	w.put(countSize, nil, len(e.Nums))
	for _, n := range e.Nums {
		b := words.Bytes(n)
		w.out = append(w.out, b[len(b)-sizesOf(e.Suite).num:]...)
	}
	fault := points(&w, e.Keys, suite.KeyBytes, func(k api.Key) bool { return k.S == e.Suite })
	if fault != api.OK {
		return nil, fault
	}
	fault = points(&w, e.Sigs, suite.SigBytes, func(k api.Sig) bool { return k.S == e.Suite })
	if fault != api.OK {
		return nil, fault
	}
	return w.out, api.OK
}

// ReadEntry reads them.
func ReadEntry(b []byte) (api.Entry, api.Errno) {
	var e api.Entry
	r := reader{rest: b}
	e.Kind = r.number(kindSize, api.MaxKind)
	e.Node = r.number(kindSize, maxNode)
	e.Who = string(r.text(countSize, api.MaxName))
	e.Tenant = string(r.text(countSize, api.MaxName))
	e.Name = string(r.text(countSize, api.MaxName))
	e.Text = fresh(r.text(bodySize, api.MaxBody))
	e.Ints = many(&r, countSize, api.MaxInts, func() int { return r.number(smallSize, maxSmall) })
	e.Suite = api.Suite(r.number(kindSize, int(api.Middle)))
	size := sizesOf(e.Suite)
	e.Nums = many(&r, countSize, api.MaxMany, func() api.Num {
		return r.scalar(e.Suite, size.num)
	})
	e.Keys = many(&r, countSize, api.MaxMany, func() api.Key {
		k, fault := suite.ReadKey(e.Suite, r.take(size.key))
		r.hold(fault)
		return k
	})
	e.Sigs = many(&r, countSize, api.MaxMany, func() api.Sig {
		k, fault := suite.ReadSig(e.Suite, r.take(size.sig))
		r.hold(fault)
		return k
	})
	if !r.whole() {
		return api.Entry{}, api.ErrBytes
	}
	return e, api.OK
}
