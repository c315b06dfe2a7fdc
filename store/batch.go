package store

import (
	"slices"

	"reliquary/api"
	"reliquary/journal"
	"reliquary/wire"
)

// parts is how many fields of a batch's record a change has.
const parts = 3

// The byte that a change begins with in a batch's record.
const (
	stays = 0
	gone  = 1
)

// bounded tells why changes may not be done together.
func bounded(l []api.Change) api.Errno {
	if len(l) > api.MaxBatch {
		return api.ErrLong
	}
	for _, c := range l {
		if e := fits(c); e != api.OK {
			return e
		}
	}
	return api.OK
}

// fits tells why a change may not be done.
func fits(c api.Change) api.Errno {
	if c.Key == "" || c.Gone && len(c.Value) > 0 {
		return api.ErrArg
	}
	if len(c.Key) > api.MaxKey || len(c.Value) > api.MaxValue {
		return api.ErrLong
	}
	return api.OK
}

// record tells the record of a batch.
func record(l []api.Change) ([]byte, api.Errno) {
	fields := make([][]byte, 0, parts*len(l))
	for _, c := range l {
		mark := []byte{stays}
		if c.Gone {
			mark[0] = gone
		}
		fields = append(fields, mark, []byte(c.Key), c.Value)
	}
	return wire.Fields(fields)
}

// readBatch reads a batch's record, and tells whether it is one.
func readBatch(b []byte) ([]api.Change, bool) {
	fields, e := wire.ReadFields(b)
	if e != api.OK || len(fields)%parts != 0 {
		return nil, false
	}
	var l []api.Change
	for three := range slices.Chunk(fields, parts) {
		mark := three[0]
		if len(mark) != 1 || mark[0] != stays && mark[0] != gone {
			return nil, false
		}
		l = append(l, api.Change{Key: string(three[1]), Value: three[2], Gone: mark[0] == gone})
	}
	return l, bounded(l) == api.OK
}

// readLog opens the generation's log, and hands its batches on to be done, till one may
// not be.
func (s *Store) readLog(do func(l []api.Change) bool) api.Errno {
	log, records, e := journal.Open(s.drive, s.logName(s.generation))
	if e != api.OK {
		return e
	}
	for _, b := range records {
		l, ok := readBatch(b)
		if !ok || !do(l) {
			return api.ErrBroken
		}
	}
	s.log = log
	return api.OK
}
