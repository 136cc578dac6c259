package store

import (
	"slices"

	"stanchion/api"
	"stanchion/cache"
	"stanchion/dev"
	"stanchion/page"
	"stanchion/space"
	"stanchion/tree"
)

const (
	supers   = 2      // the sectors ahead of all others are superblocks
	firstMap = supers // where an empty store has its map
	firstGen = 1      // the generation of an empty store
)

// Format lays an empty store.
func Format(d *dev.Device, l api.Limits) (*Store, api.Errno) {
	if d == nil || !limitsMayBe(l) {
		return nil, api.ErrArg
	}
	pages, e := space.New(d.Len(), firstMap+1)
	if e != api.OK {
		return nil, e
	}
	s := made(d, l, superblock{
		Super:   api.Super{Map: firstMap},
		sectors: d.Len(),
		gen:     firstGen,
		no:      firstGen % supers,
	}, pages)
	if e := s.lay(); e != api.OK {
		return nil, e
	}
	s.begin()
	return s, api.OK
}

// Mount finds the store that d has. It writes nothing.
func Mount(d *dev.Device, l api.Limits) (*Store, api.Errno) {
	if d == nil || !limitsMayBe(l) {
		return nil, api.ErrArg
	}
	found, e := superblocks(d)
	if e != api.OK {
		return nil, e
	}
	pages, e := readMap(d, found[0].Map)
	if e != api.OK {
		return nil, e
	}
	s := made(d, l, found[0], pages)
	if e := s.verify(); e != api.OK {
		return nil, e
	}
	if len(found) == supers {
		if e := s.spare(found[1]); e != api.OK {
			return nil, e
		}
	}
	s.begin()
	return s, api.OK
}

func limitsMayBe(l api.Limits) bool {
	return l.Frames >= api.MinFrames && l.Frames <= api.MaxFrames &&
		l.Batch >= 1 && l.Batch <= api.MaxBatch &&
		l.Delay >= 1 && l.Delay <= api.MaxDelay
}

// made is the store over d of which last is the superblock, and pages what is taken.
func made(d *dev.Device, l api.Limits, last superblock, pages *space.Space) *Store {
	s := &Store{device: d, limits: l, last: last, taken: pages.Bytes(), now: last.Clock}
	s.open(pages)
	return s
}

// open lets all be as it was committed last. What the elder cache holds is never written then.
func (s *Store) open(pages *space.Space) {
	frames, _ := cache.New(s.device, s.limits.Frames)
	t, _ := tree.New(frames, pages, s.last.gen, s.last.Root, s.last.Height)
	s.work = work{frames, pages, t, s.last.Keys}
	s.group = group{}
}

// begin lets the pages of further changes be of the generation that they are committed as.
func (s *Store) begin() {
	s.tree.Begin(s.last.gen + 1)
}

// lay writes s, of which nothing is on the device yet: its superblock once all else lasts, and no elder one is there any more.
func (s *Store) lay() api.Errno {
	for no, b := range [][]byte{empty(), empty(), s.last.mapPage(s.taken)} {
		if e := s.device.Write(no, b); e != api.OK {
			return e
		}
	}
	if e := s.device.Flush(); e != api.OK {
		return e
	}
	return s.last.write(s.device)
}

// verify tells what is wrong with s, which was found, and in which nothing has changed yet.
func (s *Store) verify() api.Errno {
	pages, keys, e := s.tree.Check()
	switch {
	case e == api.ErrIO:
		return e
	case e != api.OK || keys != s.last.Keys || !s.justTaken(pages):
		return api.ErrForm
	}
	return api.OK
}

// justTaken is whether just the superblocks, the map and pages, which are the tree's, are taken.
func (s *Store) justTaken(pages []int) bool {
	all := append([]int{0, 1, s.last.Map}, pages...)
	slices.Sort(all)
	return slices.Equal(all, s.space.Used())
}

// spare keeps the pages of the elder superblock from being given, while s's own waits to last: as long as nothing is flushed, a crash may bring the elder one back.
func (s *Store) spare(elder superblock) api.Errno {
	if !slices.Contains(s.device.Waiting(), s.last.no) {
		return api.OK
	}
	pages, e := readMap(s.device, elder.Map)
	if e == api.ErrIO {
		return e
	}
	if e != api.OK {
		// It could not be mounted, so there is nothing to keep.
		return api.OK
	}
	both := pages.Bytes()
	for i, b := range s.taken {
		both[i] |= b
	}
	// What is freed is not given again ahead of the next commit.
	pages, _ = space.Load(both, s.last.sectors)
	for _, no := range pages.Used() {
		if !s.space.Taken(no) {
			pages.Free(no)
		}
	}
	s.open(pages)
	return api.OK
}

// readMap is the pages that are taken, as the map in page no says.
func readMap(d *dev.Device, no int) (*space.Space, api.Errno) {
	b, e := d.Read(no)
	if e != api.OK {
		return nil, e
	}
	p, e := page.Decode(no, b)
	if e != api.OK {
		return nil, e
	}
	if p.Kind != api.PageMap {
		return nil, api.ErrForm
	}
	return space.Load(p.Body, d.Len())
}
