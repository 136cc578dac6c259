package store_test

import (
	"fmt"
	"slices"
	"testing"

	"stanchion/api"
	"stanchion/dev"
	"stanchion/node"
	"stanchion/page"
	"stanchion/store"
)

// mounts holds what Mount of d tells, and that nothing is written.
func mounts(t *testing.T, d *dev.Device, want api.Errno) *store.Store {
	t.Helper()
	writes := d.Writes()
	waiting := fmt.Sprint(d.Waiting())
	s, e := store.Mount(d, few)
	if e != want || (s != nil) != (want == api.OK) {
		t.Fatalf("Mount is %v, %v, not %v", s, e, want)
	}
	if d.Writes() != writes || fmt.Sprint(d.Waiting()) != waiting {
		t.Fatal("Mount writes")
	}
	return s
}

// made is a device of 40 sectors on which a store is laid by hand: a leaf of a, b and c in page 3, the map in page 5, of the generation 8, which change may change ahead of that.
type made struct {
	super
	// elder is the other superblock, if there is one.
	elder *super
	// used is the pages that the map says, bits of how many it has, kind and gen that page's.
	used    []int
	pages   int
	kind    byte
	gen     uint64
	longer  int
	leaf    []byte
	leafGen uint64
}

// lay lays it.
func (m made) lay(t *testing.T) *dev.Device {
	t.Helper()
	d := device(t, 40)
	write(t, d, m.no, m.super.bytes())
	if m.elder != nil {
		write(t, d, m.elder.no, m.elder.bytes())
	}
	body := append(bits(m.pages, m.used), make([]byte, m.longer)...)
	write(t, d, 5, sector(5, m.kind, m.gen, body))
	write(t, d, 3, sector(3, api.PageLeaf, m.leafGen, m.leaf))
	return d
}

// abc is such a device.
func abc(change func(m *made)) made {
	leaf := []byte("\x03\x01a\x011\x01b\x012\x01c\x013")
	m := made{
		super:   super{root: 3, height: 1, mapAt: 5, sectors: 40, clock: 77, groups: 9, keys: 3, gen: 8, kind: api.PageSuper},
		used:    []int{0, 1, 3, 5},
		pages:   40,
		kind:    api.PageMap,
		gen:     8,
		leaf:    leaf,
		leafGen: 8,
	}
	change(&m)
	return m
}

// other is the elder superblock of an empty store, of generation 7, changed.
func other(change func(u *super)) *super {
	u := super{mapAt: 9, sectors: 40, clock: 5, groups: 1, gen: 7, no: 1, kind: api.PageSuper}
	change(&u)
	return &u
}

// P9.3: what a store may be like, and what not.
func TestMount(t *testing.T) {
	asIs := func(*super) {}
	cases := []struct {
		name   string
		change func(m *made)
		want   api.Errno
	}{
		{"as it is", func(m *made) {}, api.OK},
		{"an elder superblock", func(m *made) { m.elder = other(asIs) }, api.OK},
		{"an elder one whose map and root are none", func(m *made) { m.elder = other(func(u *super) { u.root, u.height, u.keys = 1, 12, 99 }) }, api.OK},
		{"an elder one of generation 0", func(m *made) { m.elder = other(func(u *super) { u.gen = 0 }) }, api.OK},
		{"a newer one whose map is none", func(m *made) { m.elder = other(func(u *super) { u.gen = 9 }) }, api.ErrForm},
		{"an elder one of more sectors", func(m *made) { m.elder = other(func(u *super) { u.sectors = 41 }) }, api.ErrForm},
		{"an elder one of fewer sectors", func(m *made) { m.elder = other(func(u *super) { u.sectors = 39 }) }, api.ErrForm},
		{"an elder one whose map is below 2", func(m *made) { m.elder = other(func(u *super) { u.mapAt = 1 }) }, api.ErrForm},
		{"an elder one whose tree is none", func(m *made) { m.elder = other(func(u *super) { u.root = 3 }) }, api.ErrForm},
		{"an elder one of another kind", func(m *made) { m.elder = other(func(u *super) { u.kind = api.PageMap }) }, api.ErrForm},
		{"more sectors", func(m *made) { m.sectors = 41 }, api.ErrForm},
		{"fewer sectors", func(m *made) { m.sectors = 39 }, api.ErrForm},
		{"the map elsewhere", func(m *made) { m.mapAt = 6 }, api.ErrForm},
		{"a map that is a leaf's page", func(m *made) { m.mapAt = 3 }, api.ErrForm},
		{"a map of another kind", func(m *made) { m.kind = api.PageLeaf }, api.ErrForm},
		{"a map of no kind", func(m *made) { m.kind = 0 }, api.ErrForm},
		{"a map for as many bytes", func(m *made) { m.pages = 33 }, api.OK},
		{"a map for fewer pages", func(m *made) { m.pages = 32 }, api.ErrForm},
		{"a map for more pages", func(m *made) { m.pages = 41 }, api.ErrForm},
		{"a map with a byte behind it", func(m *made) { m.longer = 1 }, api.ErrForm},
		{"a map of an elder generation", func(m *made) { m.gen = 1 }, api.OK},
		{"a map without page 0", func(m *made) { m.used = []int{1, 3, 5} }, api.ErrForm},
		{"a map without page 1", func(m *made) { m.used = []int{0, 3, 5} }, api.ErrForm},
		{"a map without itself", func(m *made) { m.used = []int{0, 1, 3} }, api.ErrForm},
		{"a map without the tree", func(m *made) { m.used = []int{0, 1, 5} }, api.ErrForm},
		{"a map with one page more", func(m *made) { m.used = []int{0, 1, 3, 5, 39} }, api.ErrForm},
		{"a map of one page more, and one less", func(m *made) { m.used = []int{0, 1, 2, 5} }, api.ErrForm},
		{"a map of all pages", func(m *made) { m.used = all(40) }, api.ErrForm},
		{"a map of none", func(m *made) { m.used = nil }, api.ErrForm},
		{"fewer keys", func(m *made) { m.keys = 2 }, api.ErrForm},
		{"more keys", func(m *made) { m.keys = 4 }, api.ErrForm},
		{"no keys", func(m *made) { m.keys = 0 }, api.ErrForm},
		{"no tree", func(m *made) { m.root, m.height = 0, 0 }, api.ErrForm},
		{"no tree, and neither its page nor its keys", func(m *made) { m.root, m.height, m.keys, m.used = 0, 0, 0, []int{0, 1, 5} }, api.OK},
		{"a tree of height 2", func(m *made) { m.height = 2 }, api.ErrForm},
		{"a root that is the map", func(m *made) { m.root = 5 }, api.ErrForm},
		{"a root that is a superblock", func(m *made) { m.root = 1 }, api.ErrForm},
		{"a root without bytes", func(m *made) { m.root = 4 }, api.ErrForm},
		{"a leaf that is none", func(m *made) { m.leaf = []byte{3} }, api.ErrForm},
		{"a leaf that is none, without keys, and not taken", func(m *made) { m.leaf, m.keys, m.used = []byte{3}, 0, []int{0, 1, 5} }, api.ErrForm},
		{"a leaf without keys, and not taken", func(m *made) { m.leaf, m.keys, m.used = []byte{0}, 0, []int{0, 1, 5} }, api.ErrForm},
		{"a leaf without keys", func(m *made) { m.leaf, m.keys = []byte{0}, 0 }, api.OK},
		{"a leaf of an elder generation", func(m *made) { m.leafGen = 0 }, api.OK},
		{"a leaf of the next generation", func(m *made) { m.leafGen = 9 }, api.ErrForm},
		{"the superblock in the other sector", func(m *made) { m.no = 1 }, api.OK},
	}
	for _, c := range cases {
		t.Run(c.name, func(t *testing.T) {
			m := abc(c.change)
			s := mounts(t, m.lay(t), c.want)
			if c.want != api.OK {
				return
			}
			if u := s.Super(); u.Clock != 77 || u.Groups != 9 || u.Keys != int(m.keys) || u.Map != 5 || s.Now() != 77 || s.Keys() != int(m.keys) {
				t.Errorf("%+v, %d, %d", u, s.Now(), s.Keys())
			}
			if l, e := s.Scan(nil, nil, 9); len(l) != int(m.keys) || e != api.OK {
				t.Error(l, e)
			}
		})
	}
}

// all is all of n pages.
func all(n int) []int {
	var l []int
	for no := range n {
		l = append(l, no)
	}
	return l
}

// P9.3: what was found by hand goes on as any store: the next generation, one group more, what was free is given.
func TestMountGoesOn(t *testing.T) {
	d := abc(func(m *made) {}).lay(t)
	x := &bench{t: t, d: d, l: few, model: map[string]string{"a": "1", "b": "2", "c": "3"}, clock: 77}
	x.s = mounts(t, d, api.OK)
	if n := x.s.Room(); n != 40-4-6 {
		t.Errorf("Room is %d", n)
	}
	x.tick(50)
	if n := x.s.Now(); n != 77 {
		t.Errorf("Now is %d", n)
	}
	x.made = make([]moment, 10)
	x.group()
	for i, key := range []string{"a", "d", "e", "f"} {
		x.tick(uint64(78 + i))
		x.put(key, value(i))
	}
	if len(x.made) != 12 {
		t.Fatal(len(x.made))
	}
	u, m := look(t, d)
	if u.gen != 9 || u.no != 1 || u.groups != 10 || u.clock != 81 || u.keys != 6 || len(m) != 6 {
		t.Errorf("%+v, %q", u, m)
	}
	if s := x.s.Super(); s.Groups != 10 || s.Clock != 81 || s.Keys != 6 {
		t.Errorf("%+v", s)
	}
	x.has(x.model)
	// The elder superblock, and what it speaks of, is as it was.
	if v := parsed(t, 0, read(t, d, 0)); v.gen != 8 {
		t.Errorf("%+v", v)
	}
	if e := x.s.Check(); e != api.OK {
		t.Error(e)
	}
}

// P9.3: of the superblocks that of the greater generation, in whichever sector; of two of one generation that of sector 0.
func TestMountNewest(t *testing.T) {
	for _, c := range []struct {
		gens [2]uint64
		want int
	}{{[2]uint64{1, 2}, 1}, {[2]uint64{2, 1}, 0}, {[2]uint64{255, 256}, 1}, {[2]uint64{1 << 63, 1<<63 - 1}, 0}, {[2]uint64{0, 1}, 1}, {[2]uint64{4, 9}, 1}, {[2]uint64{9, 4}, 0}, {[2]uint64{6, 6}, 0}} {
		d := device(t, 40)
		for no, gen := range c.gens {
			mapAt := 2 + no
			u := super{mapAt: uint32(mapAt), sectors: 40, clock: uint64(no), groups: 5, gen: gen, no: no, kind: api.PageSuper}
			write(t, d, no, u.bytes())
			write(t, d, mapAt, sector(mapAt, api.PageMap, gen, bits(40, []int{0, 1, mapAt})))
		}
		s := mounts(t, d, api.OK)
		if u := s.Super(); u.Map != 2+c.want || u.Clock != uint64(c.want) {
			t.Errorf("of %v there is %+v", c.gens, u)
		}
		// Each is found alone, too.
		for no := range 2 {
			b := read(t, d, no)
			write(t, d, no, make([]byte, 256))
			if u := mounts(t, d, api.OK).Super(); u.Map != 3-no {
				t.Errorf("without sector %d there is %+v", no, u)
			}
			write(t, d, no, b)
		}
	}
}

// P9.3: a device without a store.
func TestMountNone(t *testing.T) {
	for _, sectors := range []int{16, 1600} {
		d := device(t, sectors)
		mounts(t, d, api.ErrNone)
		write(t, d, 2, sector(2, api.PageMap, 1, bits(sectors, []int{0, 1, 2})))
		mounts(t, d, api.ErrNone)
	}
	for no := range 2 {
		for _, at := range []int{0, 1, 128, 255} {
			d := device(t, 16)
			d.Spoil(no, at, 1)
			mounts(t, d, api.ErrForm)
		}
	}
}

// P9.3: a superblock that is spoilt is what ReadSuper errs, the elder one too, sector 0 ahead of sector 1.
func TestMountSpoilt(t *testing.T) {
	errs := map[int]api.Errno{0: api.ErrForm, 4: api.ErrVersion, 5: api.ErrSum, 8: api.ErrSum, 20: api.ErrSum, 24: api.ErrSum, 57: api.ErrSum, 255: api.ErrSum}
	for groups := range 4 {
		for at, want := range errs {
			for no := range 2 {
				x := filled(t, 60, 9, few)
				for range groups {
					x.sync()
				}
				x.d.Spoil(no, at, 0x40)
				mounts(t, x.d, want)
				x.d.Spoil(no, at, 0x40)
				mounts(t, x.d, api.OK)
			}
			x := filled(t, 60, 9, few)
			x.d.Spoil(0, 4, 1)
			x.d.Spoil(1, at, 1)
			mounts(t, x.d, api.ErrVersion)
		}
	}
	// A superblock of the other sector.
	x := filled(t, 60, 9, few)
	write(t, x.d, 0, read(t, x.d, 1))
	mounts(t, x.d, api.ErrArg)
	// That one can't be read comes first.
	x = filled(t, 60, 9, few)
	x.d.Spoil(0, 4, 1)
	x.d.Fail(api.FailRead, 1)
	mounts(t, x.d, api.ErrIO)
	mounts(t, x.d, api.ErrVersion)
}

// P9.3: a map that is spoilt is what its page errs; a page of the tree that is spoilt is ErrForm, whichever it is.
func TestMountSpoiltPages(t *testing.T) {
	x := filled(t, 200, 60, slow)
	u, _ := look(t, x.d)
	if u.height < 3 {
		t.Fatal(u.height)
	}
	pages := inTree(t, x.d)
	for no := 2; no < x.d.Len(); no++ {
		for at, want := range map[int]api.Errno{0: api.ErrForm, 4: api.ErrVersion, 5: api.ErrSum, 60: api.ErrSum} {
			x.d.Spoil(no, at, 3)
			switch {
			case no == int(u.mapAt):
				mounts(t, x.d, want)
			case slices.Contains(pages, no):
				mounts(t, x.d, api.ErrForm)
			default:
				mounts(t, x.d, api.OK)
			}
			x.d.Spoil(no, at, 3)
		}
	}
	x.mount()
	x.tells()
}

// P9.3: a tree two of whose pages have changed places, or which has one twice, is none.
func TestMountChanged(t *testing.T) {
	x := filled(t, 60, 9, slow)
	u, _ := look(t, x.d)
	n := decoded(t, x.d, int(u.root))
	lay := func() {
		b, e := node.Encode(n)
		if e != api.OK {
			t.Fatal(e)
		}
		write(t, x.d, int(u.root), sector(int(u.root), api.PageInner, u.gen, b))
	}
	n.Kids[0], n.Kids[1] = n.Kids[1], n.Kids[0]
	lay()
	mounts(t, x.d, api.ErrForm)
	n.Kids[0], n.Kids[1] = n.Kids[1], n.Kids[0]
	lay()
	mounts(t, x.d, api.OK)
	n.Kids[1] = n.Kids[0]
	lay()
	mounts(t, x.d, api.ErrForm)
}

// P9.3: a device that fails each Read in turn: ErrIO, and nothing is written; then all is found.
func TestMountFails(t *testing.T) {
	for _, keys := range []int{0, 1, 12, 60} {
		x := filled(t, 200, keys, slow)
		pages := 3 + len(inTree(t, x.d))
		reads := 0
		for ; ; reads++ {
			x.d.Fail(api.FailRead, reads)
			s, e := store.Mount(x.d, few)
			x.d.Fail(api.FailRead, 1<<30)
			if e == api.OK {
				break
			}
			if s != nil || e != api.ErrIO {
				t.Fatalf("Read %d that fails is %v, %v", reads, s, e)
			}
		}
		// The superblocks, the map and each page of the tree have to be read.
		if reads < pages {
			t.Errorf("%d pages are found with %d Reads", pages, reads)
		}
		x.d.Fail(api.FailWrite, 0)
		x.d.Fail(api.FailFlush, 0)
		x.mount()
		x.has(x.model)
	}
}

// P9.3: what a store was told that was not committed is not found; what was is, with other limits too.
func TestMountAgain(t *testing.T) {
	x := laid(t, 100, api.Limits{Frames: 64, Batch: 5, Delay: 3})
	for i := range 23 {
		x.put(long(i), value(i))
		x.tick(uint64(i))
	}
	x.put("pending", "")
	x.tells()
	x.mount()
	x.tells()
	x.l = slow
	x.mount()
	x.tells()
	for i := range 23 {
		x.put(long(2*i), value(i))
	}
	x.tells()
	x.sync()
	x.lasts()
	x.mount()
	x.tells()
}

// inTree is the pages of the newest tree of d, rising.
func inTree(t *testing.T, d *dev.Device) []int {
	t.Helper()
	u, _ := look(t, d)
	var l []int
	for no, used := 2, taken(t, d, u); no < d.Len(); no++ {
		if used[no/8]>>(no%8)&1 == 1 && no != int(u.mapAt) {
			l = append(l, no)
		}
	}
	return l
}

// P9.3: a map that was laid for another sector is what its page errs.
func TestMountMapOfOther(t *testing.T) {
	x := filled(t, 60, 9, slow)
	elder := x.s.Super().Map
	x.sync()
	now := x.s.Super().Map
	if elder == now {
		t.Fatal(elder)
	}
	write(t, x.d, now, read(t, x.d, elder))
	mounts(t, x.d, api.ErrArg)
}

// P9.6: Check of a sound store, and of one with a page that is spoilt, or can't be read: what errs is told, the store does not fail, and all is there when the page is.
func TestCheck(t *testing.T) {
	x := filled(t, 200, 60, slow)
	told := map[api.Errno]int{}
	for i, no := range inTree(t, x.d) {
		x.mount()
		x.d.Spoil(no, 77, 9)
		// A frame may hold what was read ahead of that.
		e := x.s.Check()
		told[e]++
		if e != api.ErrSum && e != api.OK || x.s.Failed() {
			t.Fatal(e, x.s.Failed())
		}
		x.d.Spoil(no, 77, 9)
		x.mount()
		x.d.Fail(api.FailRead, i)
		e = x.s.Check()
		told[e]++
		if e != api.ErrIO && e != api.OK || x.s.Failed() {
			t.Fatal(e, x.s.Failed())
		}
		x.d.Fail(api.FailRead, 1<<30)
		x.tells()
	}
	if told[api.ErrSum] == 0 || told[api.ErrIO] == 0 {
		t.Error(told)
	}
}

// P9.6: Check tells pages that are taken, and not the tree's. A store gets none by its calls, so a kid is taken out of a node of its tree below it.
func TestCheckTaken(t *testing.T) {
	x := filled(t, 200, 60, slow)
	u, _ := look(t, x.d)
	root := decoded(t, x.d, int(u.root))
	told := map[api.Errno]int{}
	for _, no := range root.Kids {
		x.mount()
		was, kid := read(t, x.d, no), decoded(t, x.d, no)
		last := len(kid.Keys) - 1
		kid.Keys, kid.Kids = kid.Keys[:last], kid.Kids[:last+1]
		b, e := node.Encode(kid)
		if e != api.OK {
			t.Fatal(e)
		}
		write(t, x.d, no, sector(no, api.PageInner, u.gen, b))
		told[x.s.Check()]++
		mounts(t, x.d, api.ErrForm)
		write(t, x.d, no, was)
		mounts(t, x.d, api.OK)
	}
	// A frame may hold what was read ahead of that.
	if told[api.ErrForm] == 0 || told[api.ErrForm]+told[api.OK] != len(root.Kids) {
		t.Error(told)
	}
}

// decoded is the inner node in page no of d.
func decoded(t *testing.T, d *dev.Device, no int) api.Node {
	t.Helper()
	p, e := page.Decode(no, read(t, d, no))
	if e != api.OK {
		t.Fatal(e)
	}
	n, e := node.Decode(false, p.Body)
	if e != api.OK {
		t.Fatal(e)
	}
	return n
}
