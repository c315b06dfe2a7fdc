package channel

import (
	"slices"

	"reliquary/api"
	"reliquary/cipher"
	"reliquary/mac"
	"reliquary/wire"
)

// How many bytes a key of a side, of an epoch or of a box has; a message's number; a
// nonce; a tag; and a message at the least.
const (
	keySize      = 32
	numberSize   = 8
	nonceSize    = 12
	tagSize      = 16
	leastMessage = numberSize + tagSize
)

// epochInfo is what the info of an epoch's key begins with.
const epochInfo = "epoch"

// direction is what one side says to the other: that side's key, and the highest number
// of its messages that was sealed, or opened. The bits tell which of the last were
// opened, the lowest one being that of the highest number: at the other side alone.
type direction struct {
	key     [keySize]byte
	highest int
	opened  uint64
}

// mayCome tells whether a message of this number may be opened.
func (d *direction) mayCome(n int) bool {
	back := d.highest - n
	return back < 0 || back < api.Window && d.opened>>back&1 == 0
}

// note notes that a message was opened that could come.
func (d *direction) note(n int) {
	if n > d.highest {
		// Beyond the word's length all bits fall out.
		d.opened <<= n - d.highest
		d.highest = n
	}
	d.opened |= 1 << (d.highest - n)
}

// seal tells the message of this number.
func (d *direction) seal(n int, text, more []byte) ([]byte, api.Errno) {
	number, e := wire.Int(n)
	if e != api.OK {
		return nil, e
	}
	key, e := d.epochKey(n)
	if e != api.OK {
		return nil, e
	}
	sealed, e := cipher.Seal(key, nonce(number), text, more)
	if e != api.OK {
		return nil, e
	}
	return slices.Concat(number, sealed), api.OK
}

// open tells the text of a message that has a number, whether it may come or not.
func (d *direction) open(b, more []byte) ([]byte, api.Errno) {
	n, ok := numberOf(b)
	if !ok {
		return nil, api.ErrBytes
	}
	key, e := d.epochKey(n)
	if e != api.OK {
		return nil, e
	}
	return cipher.Open(key, nonce(b[:numberSize]), b[numberSize:], more)
}

// epochKey tells the key of the epoch to which a number belongs.
func (d *direction) epochKey(n int) ([]byte, api.Errno) {
	epoch, e := wire.Int((n - 1) / api.Epoch)
	if e != api.OK {
		return nil, e
	}
	return mac.Expand(d.key[:], slices.Concat([]byte(epochInfo), epoch), keySize)
}

// nonce tells the nonce of a number's bytes.
func nonce(number []byte) []byte {
	b := make([]byte, nonceSize)
	copy(b[nonceSize-numberSize:], number)
	return b
}

// numberOf tells the number of a message, and whether it is long enough for one and the
// number may be.
func numberOf(b []byte) (int, bool) {
	if len(b) < leastMessage {
		return 0, false
	}
	n, e := wire.ReadInt(b[:numberSize])
	return n, e == api.OK && n >= 1 && n <= api.MaxSeq
}
