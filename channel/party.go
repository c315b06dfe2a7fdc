package channel

import (
	"reliquary/api"
	"reliquary/mac"
	"reliquary/suite"
	"reliquary/wire"
)

// channelSalt is the salt of the two keys of a channel.
const channelSalt = "reliquary channel"

// party is what a side has ahead of a channel: its secret and a fresh one, the keys of
// both, and the other side's key.
type party struct {
	secret, fresh api.Num
	key, freshKey api.Key
	theirs        api.Key
}

// product is a key, still to be multiplied by a secret.
type product struct {
	secret api.Num
	key    api.Key
}

// partyOf tells a side, or why there is none.
func partyOf(s api.Suite, secret api.Num, theirs api.Key, fresh api.Num) (party, api.Errno) {
	key, e := Key(s, secret)
	if e != api.OK {
		return party{}, e
	}
	freshKey, e := Key(s, fresh)
	if e != api.OK {
		return party{}, e
	}
	if !another(s, theirs) {
		return party{}, api.ErrPoint
	}
	return party{secret: secret, fresh: fresh, key: key, freshKey: freshKey, theirs: theirs}, api.OK
}

// beginning tells the channel of who begins, when the other side's fresh key came.
func (p party) beginning(second api.Key) (*Channel, api.Errno) {
	return agreed(
		[]product{{p.fresh, second}, {p.fresh, p.theirs}, {p.secret, second}},
		[]api.Key{p.key, p.theirs, p.freshKey, second},
	)
}

// answering tells the channel of who answers, when the other side's fresh key came.
func (p party) answering(first api.Key) (*Channel, api.Errno) {
	c, e := agreed(
		[]product{{p.fresh, first}, {p.secret, first}, {p.fresh, p.theirs}},
		[]api.Key{p.theirs, p.key, first, p.freshKey},
	)
	if e != api.OK {
		return nil, e
	}
	c.out, c.in = c.in, c.out
	return c, api.OK
}

// agreed tells the channel of who begins, by what is shared and what it is bound to.
func agreed(shared []product, bound []api.Key) (*Channel, api.Errno) {
	points := make([]api.Key, 0, len(shared))
	for _, s := range shared {
		p, e := Point(s.secret, s.key)
		if e != api.OK {
			return nil, e
		}
		points = append(points, p)
	}
	material, e := keysText(points)
	if e != api.OK {
		return nil, e
	}
	info, e := keysText(bound)
	if e != api.OK {
		return nil, e
	}
	both, e := mac.Derive([]byte(channelSalt), material, info, 2*keySize)
	if e != api.OK {
		return nil, e
	}
	out := direction{key: [keySize]byte(both[:keySize])}
	in := direction{key: [keySize]byte(both[keySize:])}
	return &Channel{made: true, out: out, in: in}, api.OK
}

// keysText tells the bytes of keys, as fields of one text.
func keysText(l []api.Key) ([]byte, api.Errno) {
	fields := make([][]byte, 0, len(l))
	for _, k := range l {
		b, e := suite.KeyBytes(k)
		if e != api.OK {
			return nil, e
		}
		fields = append(fields, b)
	}
	return wire.Fields(fields)
}

// cutReply tells the fresh key of a reply, whose bytes are so many, and the message
// behind it, and whether it is a reply.
func cutReply(s api.Suite, size int, reply []byte) (api.Key, []byte, bool) {
	if len(reply) < size {
		return api.Key{}, nil, false
	}
	message := reply[size:]
	if n, ok := numberOf(message); !ok || n != 1 {
		return api.Key{}, nil, false
	}
	second, ok := readAnother(s, reply[:size])
	return second, message, ok
}
