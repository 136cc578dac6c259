package fsck_test

import (
	"fmt"
	"math/rand"
	"testing"

	"stanchion/api"
	"stanchion/cache"
	"stanchion/fsck"
	"stanchion/page"
	"stanchion/space"
	"stanchion/store"
	"stanchion/tree"
)

// worked is a store on a disk, and mixed calls on it.
type worked struct {
	disk
	l    api.Limits
	s    *store.Store
	r    *rand.Rand
	keys int
	now  uint64
}

// work is an empty store.
func work(t testing.TB, sectors, keys int, l api.Limits, seed int64) *worked {
	t.Helper()
	x := &worked{disk: blank(t, sectors), l: l, r: rand.New(rand.NewSource(seed)), keys: keys}
	s, e := store.Format(x.d, l)
	if e != api.OK {
		t.Fatal(e)
	}
	x.s = s
	return x
}

// step is one call, and what it errs.
func (x *worked) step() api.Errno {
	k := fmt.Appendf(nil, "key %04d, as long as may", x.r.Intn(x.keys))
	switch n := x.r.Intn(20); {
	case n < 10:
		return x.s.Put(k, make([]byte, x.r.Intn(25)))
	case n < 17:
		_, e := x.s.Delete(k)
		return e
	case n < 19:
		x.now = max(x.now, x.s.Now()) + uint64(x.r.Intn(4))
		return x.s.Tick(x.now)
	}
	return x.s.Sync()
}

// fill puts all keys, in few groups, and goes on till there is a group for which all is free that the one ahead of it lost.
func (x *worked) fill() {
	x.t.Helper()
	for i := range x.keys {
		if e := x.s.Put(fmt.Appendf(nil, "key %04d, as long as may", i), make([]byte, i%25)); e != api.OK {
			x.t.Fatal(e)
		}
	}
	for range 2 {
		if e := x.s.Sync(); e != api.OK {
			x.t.Fatal(e)
		}
	}
}

// mount lets the store be what Mount finds.
func (x *worked) mount() {
	x.t.Helper()
	s, e := store.Mount(x.d, x.l)
	if e != api.OK {
		x.t.Fatalf("Mount is %v", e)
	}
	x.s = s
}

// committed is the look at the disk by what the store says of what was committed last.
func (x *worked) committed() api.Look {
	x.t.Helper()
	u := x.s.Super()
	gen := u.Groups + 1
	p, e := page.Decode(u.Map, x.sector(u.Map))
	if e != api.OK {
		x.t.Fatalf("the map is %v", e)
	}
	held, e := space.Load(p.Body, x.d.Len())
	if e != api.OK {
		x.t.Fatalf("the map is %v", e)
	}
	c, _ := cache.New(x.d, api.MaxFrames)
	t, e := tree.New(c, held, gen, u.Root, u.Height)
	if e != api.OK {
		x.t.Fatalf("the tree is %v", e)
	}
	pages, keys, e := t.Check()
	if e != api.OK || keys != u.Keys {
		x.t.Fatalf("the tree is %v, of %d keys, not %d", e, keys, u.Keys)
	}
	l := api.Look{Newest: int(gen % 2), Pages: len(pages), Keys: keys}
	l.Super[l.Newest], l.Gen[l.Newest] = api.SuperGood, gen
	if gen > 1 {
		l.Super[1-l.Newest], l.Gen[1-l.Newest] = api.SuperGood, gen-1
	}
	return l
}

// limits is some by which stores work.
func limits() []api.Limits {
	return []api.Limits{
		{Frames: 8, Batch: 1, Delay: 3},
		{Frames: 8, Batch: 7, Delay: 6},
		{Frames: 64, Batch: 30, Delay: 100},
		{Frames: 8, Batch: api.MaxBatch, Delay: api.MaxDelay},
	}
}

// P10.4: what is mounted is clean, behind each of mixed calls, and is what was committed last; what is pending is neither lost nor wild.
func TestMounted(t *testing.T) {
	for seed, l := range limits() {
		x := work(t, 300, 60, l, int64(seed))
		x.told(x.committed())
		height, keys := 0, 0
		for i := range 600 {
			if e := x.step(); e != api.OK {
				t.Fatal(e)
			}
			want := x.committed()
			x.told(want)
			if i%50 == 0 {
				x.is(want)
				x.mount()
				x.is(x.committed())
			}
			height, keys = max(height, x.s.Super().Height), max(keys, want.Keys)
		}
		if height < 2 || keys < 10 {
			t.Errorf("the trees had a height of %d at most, %d keys", height, keys)
		}
	}
}

// P10.4: behind each commit, from an empty store to one of all keys, and back.
func TestEachCommit(t *testing.T) {
	x := work(t, 400, 1, limits()[3], 1)
	sync := func(keys int) {
		if e := x.s.Sync(); e != api.OK {
			t.Fatal(e)
		}
		want := x.committed()
		if want.Keys != keys {
			t.Fatalf("%d keys are there, not %d", want.Keys, keys)
		}
		x.told(want)
	}
	const keys = 80
	for i := range keys {
		x.s.Put(key(i), make([]byte, 24))
		sync(i + 1)
	}
	for i := range keys {
		x.s.Delete(key(i))
		sync(keys - 1 - i)
	}
	x.is(x.committed())
}

// lasting is how many Writes of each of these sectors last, of n that wait: nothing, all, superblocks alone, all else alone, or some.
func lasting(waiting []int, r *rand.Rand, way int) []int {
	var l []int
	for _, no := range waiting {
		l = append(l, []int{0, 1 << 20, max(0, 2-no) << 10, min(1, no/2) << 10, r.Intn(4) - 1}[way])
	}
	return l
}

// P10.4: behind a power loss at each write and each flush, whatever lasts; and ahead of it, too.
func TestPowerLoss(t *testing.T) {
	for seed, l := range limits()[:3] {
		for _, what := range []int{api.FailWrite, api.FailFlush} {
			failed := true
			for at := 0; failed; at++ {
				for way := range 5 {
					x := work(t, 150, 20, l, int64(seed))
					x.d.Fail(what, at)
					for range 50 {
						if x.step() != api.OK {
							break
						}
					}
					failed = x.s.Failed()
					x.now = 0
					x.mount()
					x.told(x.committed())
					x.d.Crash(lasting(x.d.Waiting(), x.r, way))
					x.mount()
					x.told(x.committed())
					for range 5 {
						if e := x.step(); e != api.OK {
							t.Fatal(e)
						}
						x.told(x.committed())
					}
				}
			}
		}
	}
}

// P10.4: where Format fails at each write and each flush, or power goes there, what can be mounted is clean; what can't be is not.
func TestFormatFails(t *testing.T) {
	for _, elder := range []bool{false, true} {
		mounted := 0
		for _, what := range []int{api.FailWrite, api.FailFlush} {
			for at := range 6 {
				for way := range 5 {
					x := work(t, 100, 20, limits()[1], 1)
					x.fill()
					if !elder {
						x.disk = blank(t, 100)
					}
					x.d.Fail(what, at)
					store.Format(x.d, x.l)
					for range 2 {
						l := x.model()
						x.is(l)
						s, e := store.Mount(x.d, x.l)
						if (e == api.OK) != fsck.Clean(l) {
							t.Fatalf("Mount is %v, and the look %+v", e, l)
						}
						if e == api.OK {
							mounted++
							x.s = s
							want := x.committed()
							// The other superblock may be empty already.
							want.Super[1-l.Newest], want.Gen[1-l.Newest] = l.Super[1-l.Newest], l.Gen[1-l.Newest]
							x.told(want)
						}
						x.d.Crash(lasting(x.d.Waiting(), x.r, way))
					}
				}
			}
		}
		if mounted == 0 {
			t.Error("none was mounted")
		}
	}
}

// P10.1, P10.2: the disk of a store with one byte spoilt, for every sector: what that sector was is what is wrong.
func TestOneByteSpoilt(t *testing.T) {
	x := work(t, 100, 60, limits()[2], 1)
	x.fill()
	good := x.committed()
	u := x.s.Super()
	if u.Height < 3 {
		t.Fatalf("the tree has a height of %d", u.Height)
	}
	elder, parts := 1-good.Newest, map[int]part{}
	x.parts(parts, u.Root, u.Height)
	x.is(good)
	for no := range x.d.Len() {
		for _, at := range []int{0, 3, 4, 5, 7, 11, 12, 19, 20, 23, 24, 100, 255} {
			by := byte(1 << (at % 8))
			x.d.Spoil(no, at, by)
			l := x.model()
			x.told(l)
			want := good
			switch {
			case no == elder:
				want.Super[no], want.Gen[no] = api.SuperBad, 0
			case no == good.Newest:
				// The group ahead changed nothing, so the elder superblock has the same tree.
				want.Super[no], want.Gen[no], want.Newest = api.SuperBad, 0, elder
			case no == u.Map:
				want.Bad = 1
			default:
				part, is := parts[no]
				if is {
					want.Bad = 1
				}
				want.Pages, want.Keys, want.Lost = good.Pages-part.pages, good.Keys-part.keys, part.pages
			}
			if l != want {
				t.Errorf("byte %d of sector %d is spoilt: %+v, not %+v", at, no, l, want)
			}
			if _, e := store.Mount(x.d, x.l); e == api.OK != fsck.Clean(l) {
				t.Errorf("byte %d of sector %d is spoilt: Mount is %v, and the look %+v", at, no, e, l)
			}
			x.d.Spoil(no, at, by)
		}
	}
	x.is(good)
}

// part is how many pages and keys a part of a tree has.
type part struct{ pages, keys int }

// parts is those of the tree of that root and height, by the page that is the part's root; it tells that of all.
func (x *worked) parts(parts map[int]part, root, height int) part {
	p, _ := pageOf(root, x.sector(root))
	keys, kids, _ := nodeOf(height == 1, p.body)
	all := part{pages: 1}
	if height == 1 {
		all.keys = keys
	}
	for _, kid := range kids {
		below := x.parts(parts, kid, height-1)
		all.pages, all.keys = all.pages+below.pages, all.keys+below.keys
	}
	parts[root] = all
	return all
}
