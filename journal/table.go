package journal

// turner is what a number is xored with where a 1 fell out of it.
const turner = 0xEDB88320

// table tells of each byte what eight shifts make of it: so a check takes one step a
// byte, and not eight.
type table [256]uint32

// newTable makes a table. It is too long to stand at package level: a journal keeps one,
// and a call that has no journal makes one.
func newTable() table {
	var t table
	for i := range t {
		n := uint32(i)
		for range 8 {
			n = shifted(n)
		}
		t[i] = n
	}
	return t
}

// shifted tells a number shifted right by 1, and turned, if a 1 fell out.
func shifted(n uint32) uint32 {
	if n&1 == 1 {
		return n>>1 ^ turner
	}
	return n >> 1
}

// check tells the check of bytes.
func (t *table) check(b []byte) uint32 {
	n := ^uint32(0)
	for _, c := range b {
		n = n>>8 ^ t[byte(n)^c]
	}
	return ^n
}
