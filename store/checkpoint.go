package store

import (
	"reliquary/api"
	"reliquary/journal"
	"reliquary/wire"
)

// checkpointBytes tells the bytes of a checkpoint of a generation.
func (s *Store) checkpointBytes(generation int) ([]byte, api.Errno) {
	first, e := wire.Int(generation)
	if e != api.OK {
		return nil, e
	}
	b, e := journal.Frame(first)
	if e != api.OK {
		return nil, e
	}
	for _, key := range s.keys() {
		f, e := pairFrame(key, s.values[key])
		if e != api.OK {
			return nil, e
		}
		// Told at the first byte too many, since all of the pairs may be far more.
		if len(b)+len(f) > api.MaxFile {
			return nil, api.ErrLong
		}
		b = append(b, f...)
	}
	return b, api.OK
}

// pairFrame tells the frame of a key and its value.
func pairFrame(key string, value []byte) ([]byte, api.Errno) {
	b, e := wire.Fields([][]byte{[]byte(key), value})
	if e != api.OK {
		return nil, e
	}
	return journal.Frame(b)
}

// replace puts a checkpoint's bytes in the place of the checkpoint that is there, and
// tells the log that goes on behind it. Till the last step, which is done at once or not
// at all, nothing is touched that is read when the store is opened.
func (s *Store) replace(b []byte, generation int) (*journal.Journal, api.Errno) {
	if e := s.removeAny(s.tmpName()); e != api.OK {
		return nil, e
	}
	if e := s.removeAny(s.logName(generation)); e != api.OK {
		return nil, e
	}
	// No operation: there is no such file any more.
	log, _, e := journal.Open(s.drive, s.logName(generation))
	if e != api.OK {
		return nil, e
	}
	if e := s.drive.Append(s.tmpName(), b); e != api.OK {
		return nil, e
	}
	if e := s.drive.Sync(s.tmpName()); e != api.OK {
		return nil, e
	}
	return log, s.drive.Rename(s.tmpName(), s.snapName())
}

// readCheckpoint takes the checkpoint's generation, and hands its pairs on to be done,
// each as a batch of its own, till one may not be. A store without one is as it is.
func (s *Store) readCheckpoint(do func(l []api.Change) bool) api.Errno {
	b, e := s.drive.Read(s.snapName())
	if e == api.ErrMissing {
		return api.OK
	}
	if e != api.OK {
		return e
	}
	records, size, e := journal.Read(b)
	if e != api.OK || size < len(b) || len(records) == 0 {
		return api.ErrBroken
	}
	if s.generation, e = wire.ReadInt(records[0]); e != api.OK {
		return api.ErrBroken
	}
	below := "" // no key is as low
	for _, r := range records[1:] {
		c, ok := readPair(r)
		if !ok || c.Key <= below || !do([]api.Change{c}) {
			return api.ErrBroken
		}
		below = c.Key
	}
	return api.OK
}

// readPair reads a key and its value, as the change that puts them, and tells whether
// that may be done.
func readPair(b []byte) (api.Change, bool) {
	fields, e := wire.ReadFields(b)
	if e != api.OK || len(fields) != 2 {
		return api.Change{}, false
	}
	c := api.Change{Key: string(fields[0]), Value: fields[1]}
	return c, fits(c) == api.OK
}
