package store

import (
	"stanchion/api"
	"stanchion/space"
)

// group is the changes that are pending: how many, and when the first of them came.
type group struct {
	size  int
	first uint64
}

// changed counts one more change, and commits the group, if it is whole.
func (s *Store) changed() api.Errno {
	if s.size == 0 {
		s.first = s.now
	}
	s.size++
	if s.size < s.limits.Batch {
		return api.OK
	}
	return s.commit()
}

// commit lets all changes last, at once.
func (s *Store) commit() api.Errno {
	no, e := s.space.Alloc()
	if e != api.OK {
		return s.fail(e)
	}
	s.space.Free(s.last.Map)
	next, taken := s.next(no), s.space.Bytes()
	if e := s.write(next, taken); e != api.OK {
		return s.fail(e)
	}
	s.space.Commit()
	s.last, s.taken = next, taken
	s.group = group{}
	s.begin()
	return api.OK
}

// next is the superblock of all changes, whose map is page no.
func (s *Store) next(no int) superblock {
	root, height := s.tree.Root()
	gen := s.last.gen + 1
	return superblock{
		Super: api.Super{
			Root:   root,
			Height: height,
			Map:    no,
			Clock:  s.now,
			Groups: s.last.Groups + 1,
			Keys:   s.keys,
		},
		sectors: s.last.sectors,
		gen:     gen,
		no:      int(gen % supers),
	}
}

// write lets all that the cache holds last, with the map taken, and then next, which speaks of it.
func (s *Store) write(next superblock, taken []byte) api.Errno {
	if e := s.cache.Put(next.Map, next.mapPage(taken)); e != api.OK {
		return e
	}
	if e := s.cache.Sync(); e != api.OK {
		return e
	}
	return next.write(s.device)
}

// fail goes back to what was committed last, for good, and tells e, which is why.
func (s *Store) fail(e api.Errno) api.Errno {
	s.failed = true
	pages, _ := space.Load(s.taken, s.last.sectors)
	s.open(pages)
	return e
}
