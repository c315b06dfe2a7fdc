package disk

// maxName is how many bytes a file's name may have.
const maxName = 64

// operation is what is to become of a file's bytes: the first ones stay, and others
// stand behind them. Of an append all stay; of a cut nothing stands behind.
type operation struct {
	stay   int
	behind []byte
}

// upon tells what the operation makes of bytes, in their memory.
func (o operation) upon(b []byte) []byte { return append(b[:o.stay], o.behind...) }

// file is a file: its bytes, and the operations that a crash may undo, in order.
type file struct {
	safe  []byte
	under []operation
	fresh bool // what is under way made it: no sync, no crash has left it there
}

// begin puts an operation behind those that are under way.
func (f *file) begin(o operation) { f.under = append(f.under, o) }

// size tells how many bytes the content has.
func (f *file) size() int {
	if n := len(f.under); n > 0 {
		last := f.under[n-1]
		return last.stay + len(last.behind)
	}
	return len(f.safe)
}

// content tells what the operations make of the safe bytes, in memory of its own.
func (f *file) content() []byte {
	b := append(make([]byte, 0, f.size()), f.safe...)
	for _, o := range f.under {
		b = o.upon(b)
	}
	return b
}

// settle does so many operations from the front, puts so many bytes of the next one
// behind them and drops what is left. It tells whether the file is there then.
func (f *file) settle(ops, bytes int) bool {
	done := within(ops, len(f.under))
	for _, o := range f.under[:done] {
		f.safe = o.upon(f.safe)
	}
	torn := 0
	if left := f.under[done:]; len(left) > 0 {
		// A cut has no bytes: what is torn of it is nothing.
		torn = within(bytes, len(left[0].behind))
		f.safe = append(f.safe, left[0].behind[:torn]...)
	}
	there := !f.fresh || done+torn > 0
	f.under, f.fresh = nil, false
	return there
}

// within tells a number from 0 to the most, the nearest to n.
func within(n, most int) int { return min(max(n, 0), most) }

// named tells whether a text may be a file's name.
func named(name string) bool {
	if len(name) < 1 || len(name) > maxName {
		return false
	}
	for i := range len(name) {
		if !letter(name[i]) {
			return false
		}
	}
	return true
}

// letter tells whether a byte may stand in a file's name.
func letter(c byte) bool {
	return 'a' <= c && c <= 'z' || '0' <= c && c <= '9' || c == '.' || c == '-'
}
