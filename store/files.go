package store

import (
	"slices"
	"strconv"

	"reliquary/api"
	"reliquary/disk"
)

// maxBase is how many bytes a store's name may have.
const maxBase = 40

// snapName tells the name of the checkpoint.
func (s *Store) snapName() string { return s.base + ".snap" }

// tmpName tells the name of a checkpoint that is being made.
func (s *Store) tmpName() string { return s.base + ".tmp" }

// logName tells the name of a generation's log.
func (s *Store) logName(generation int) string {
	return s.base + ".log." + strconv.Itoa(generation)
}

// removeAny removes a file, if it is there.
func (s *Store) removeAny(name string) api.Errno {
	if !slices.Contains(s.drive.Names(), name) {
		return api.OK
	}
	return s.drive.Remove(name)
}

// working tells whether a disk is one. No file has a name without bytes: so none is read.
func working(d *disk.Disk) bool {
	_, e := d.Read("")
	return e != api.ErrNil
}

// named tells whether a text may be a store's name. Which may be a file's is said by disk
// alone: so a disk without files is asked, one that is thrown away, since the store's own
// would count the call.
func named(base string) bool {
	if len(base) > maxBase {
		return false
	}
	d, _ := disk.New(nil)
	return d.Append(base, nil) == api.OK
}
