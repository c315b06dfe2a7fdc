package channel

import (
	"reliquary/api"
	"reliquary/cipher"
	"reliquary/mac"
	"reliquary/suite"
)

// boxSalt is the salt of a box's key.
const boxSalt = "reliquary box"

// Key tells a secret's key.
func Key(s api.Suite, secret api.Num) (api.Key, api.Errno) {
	g, e := suite.Gen(s)
	if e != api.OK {
		return api.Key{}, e
	}
	return Point(secret, g)
}

// Point tells what two sides share.
func Point(secret api.Num, theirs api.Key) (api.Key, api.Errno) {
	if zero(theirs) {
		return api.Key{}, api.ErrPoint
	}
	p, e := suite.KeyMul(theirs, secret)
	if e == api.OK && secret == (api.Num{}) {
		return api.Key{}, api.ErrArg
	}
	return p, e
}

// SealPoint seals a box.
func SealPoint(point api.Key, text, more []byte) ([]byte, api.Errno) {
	key, e := boxKey(point)
	if e != api.OK {
		return nil, e
	}
	if len(text) > api.MaxPlain || len(more) > api.MaxPlain {
		return nil, api.ErrLong
	}
	return cipher.Seal(key, make([]byte, nonceSize), text, more)
}

// OpenPoint opens it.
func OpenPoint(point api.Key, b, more []byte) ([]byte, api.Errno) {
	key, e := boxKey(point)
	if e != api.OK {
		return nil, e
	}
	if len(more) > api.MaxPlain || len(b) > api.MaxPlain+tagSize {
		return nil, api.ErrLong
	}
	return cipher.Open(key, make([]byte, nonceSize), b, more)
}

// boxKey tells the key of the box of a point, which may be the zero.
func boxKey(point api.Key) ([]byte, api.Errno) {
	b, e := suite.KeyBytes(point)
	if e != api.OK {
		return nil, e
	}
	return mac.Derive([]byte(boxSalt), b, nil, keySize)
}

// zero tells whether a key says that it is the zero: it is, or it may not be at all.
func zero(k api.Key) bool { return k.P.Zero || k.L.Zero }

// another tells whether a key may be another's, of this suite.
func another(s api.Suite, k api.Key) bool {
	return k.S == s && !zero(k) && suite.KeyCheck(k)
}

// readAnother reads a key that may be another's, and tells whether it is one.
func readAnother(s api.Suite, b []byte) (api.Key, bool) {
	k, e := suite.ReadKey(s, b)
	return k, e == api.OK && !zero(k)
}
