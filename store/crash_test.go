package store_test

import (
	"fmt"
	"maps"
	"math/rand"
	"slices"
	"testing"

	"stanchion/api"
	"stanchion/store"
)

// lasting tells of what waits how much lasts: for each of these sectors how many of its Writes.
type lasting struct {
	name string
	of   func(waiting []int, r *rand.Rand) []int
}

// lastings is what may last behind a power loss.
func lastings() []lasting {
	each := func(of func(no int, r *rand.Rand) int) func([]int, *rand.Rand) []int {
		return func(waiting []int, r *rand.Rand) []int {
			var l []int
			for _, no := range waiting {
				l = append(l, of(no, r))
			}
			return l
		}
	}
	return []lasting{
		{"nothing", func([]int, *rand.Rand) []int { return nil }},
		{"all", each(func(int, *rand.Rand) int { return 1 << 30 })},
		{"superblocks", each(func(no int, _ *rand.Rand) int { return max(0, 2-no) << 10 })},
		{"all but superblocks", each(func(no int, _ *rand.Rand) int { return min(1, no/2) << 10 })},
		{"some", each(func(_ int, r *rand.Rand) int { return r.Intn(4) - 1 })},
		{"some others", each(func(_ int, r *rand.Rand) int { return r.Intn(2) << 10 })},
		{"the first half", func(waiting []int, _ *rand.Rand) []int {
			return slices.Repeat([]int{1 << 10}, len(waiting)/2)
		}},
	}
}

// script is mixed calls, from the store's beginning on, and what may fail of them.
type script struct {
	*bench
	r    *rand.Rand
	keys int
	// sure is how many groups' calls were OK, of all that are in made.
	sure int
}

// scripted is a script over an empty store.
func scripted(t *testing.T, sectors, keys int, l api.Limits, seed int64) *script {
	return &script{bench: laid(t, sectors, l), r: rand.New(rand.NewSource(seed)), keys: keys}
}

// step is one call. A false says that the store failed; what was under way is one group more, of which nothing need last.
func (x *script) step() bool {
	x.t.Helper()
	var e api.Errno
	committed := len(x.made)
	key := long(x.r.Intn(x.keys))
	switch n := x.r.Intn(20); {
	case n < 9:
		val := value(x.r.Intn(100))[:x.r.Intn(25)]
		if e = x.s.Put([]byte(key), []byte(val)); e != api.ErrRead && e != api.ErrFull {
			x.model[key] = val
			x.change()
		}
	case n < 17:
		var was bool
		if was, e = x.s.Delete([]byte(key)); e != api.ErrRead && e != api.ErrFull && (was || e == api.ErrIO) {
			delete(x.model, key)
			x.change()
		}
	case n < 19:
		by := uint64(x.r.Intn(5))
		e = x.s.Tick(x.clock + by)
		x.clock += by
		if x.pending > 0 && x.clock-x.first >= x.l.Delay {
			x.group()
		}
	default:
		e = x.s.Sync()
		x.group()
	}
	switch e {
	case api.OK:
		if len(x.made) > committed {
			x.sure = len(x.made) - 1
		}
		x.counts()
		return true
	case api.ErrIO:
		if !x.s.Failed() {
			x.t.Fatalf("a call is %v, and the store did not fail", e)
		}
		return false
	}
	x.t.Fatalf("a call is %v", e)
	return false
}

// crash loses power, and mounts what lasted: just what the first groups made, all of those whose call was OK among them.
func (x *script) crash(l lasting) {
	x.t.Helper()
	x.d.Crash(l.of(x.d.Waiting(), x.r))
	x.find(l.name)
}

// find mounts what there is.
func (x *script) find(lasts string) {
	x.t.Helper()
	s, e := store.Mount(x.d, x.l)
	if e != api.OK {
		x.t.Fatalf("Mount is %v, as %s lasted", e, lasts)
	}
	k := int(s.Super().Groups)
	if k < x.sure || k >= len(x.made) {
		x.t.Fatalf("there are %d groups, as %s lasted: of %d all but %d were told", k, lasts, len(x.made)-1, len(x.made)-1-x.sure)
	}
	x.s, x.made = s, x.made[:k+1]
	x.back()
	x.tells()
}

// P9.8: power is lost behind each write and each flush of mixed calls, whatever of what was not flushed lasts.
func TestPowerLoss(t *testing.T) {
	limits := []api.Limits{{Frames: 8, Batch: 1, Delay: 3}, {Frames: 8, Batch: 7, Delay: 6}, {Frames: 64, Batch: 30, Delay: 100}}
	for seed, l := range limits {
		for _, what := range []int{api.FailWrite, api.FailFlush} {
			found := map[int]int{}
			for at := 0; ; at++ {
				done := false
				for _, last := range lastings() {
					x := scripted(t, 150, 20, l, int64(seed))
					x.d.Fail(what, at)
					steps := 0
					for steps < 60 && x.step() {
						steps++
					}
					done = steps == 60
					under := len(x.made) - 1 - x.sure
					x.crash(last)
					found[2*under+len(x.made)-1-x.sure]++
					for range 15 {
						x.step()
					}
					x.crash(last)
				}
				if done {
					break
				}
			}
			// With a group under way it is there at times, and at times not, if just its superblock's flush fails.
			if found[2] == 0 || what == api.FailFlush && found[3] == 0 || what == api.FailWrite && found[3] > 0 {
				t.Errorf("with %+v, kind %d: %v", l, what, found)
			}
		}
	}
}

// P9.8: power is lost between two calls, wherever: just what was committed is there.
func TestPowerLossBetween(t *testing.T) {
	for seed, l := range []api.Limits{{Frames: 8, Batch: 1000, Delay: 40}, {Frames: 8, Batch: 3, Delay: 2}, {Frames: 9, Batch: 50, Delay: 1 << 20}} {
		for steps := 0; steps < 120; steps += 3 {
			for _, last := range lastings() {
				x := scripted(t, 250, 40, l, int64(10+seed))
				for range steps {
					x.step()
				}
				groups := len(x.made) - 1
				x.crash(last)
				if n := int(x.s.Super().Groups); n != groups || x.s.Pending() != 0 {
					t.Fatalf("%d groups are there, of %d; %d changes", n, groups, x.s.Pending())
				}
				x.sure = groups
				x.step()
			}
		}
	}
}

// P9.8: power is lost over and over, and the device fails; at times what failed is mounted without a power loss.
func TestOverAndOver(t *testing.T) {
	for seed := range int64(12) {
		r := rand.New(rand.NewSource(seed))
		l := api.Limits{Frames: 8 + r.Intn(20), Batch: 1 + r.Intn(30), Delay: uint64(1 + r.Intn(20))}
		x := scripted(t, 200, 5+r.Intn(30), l, seed)
		crashes, mounts, lost := 0, 0, 0
		for range 300 {
			if r.Intn(2) == 0 {
				x.d.Fail(api.FailRead+r.Intn(3), r.Intn(12))
			}
			works := true
			for range r.Intn(40) {
				if works = x.step(); !works {
					break
				}
			}
			for what := api.FailRead; what <= api.FailFlush; what++ {
				x.d.Fail(what, 1<<30)
			}
			switch {
			case works && r.Intn(3) > 0:
				x.tells()
			case r.Intn(2) == 0:
				groups := len(x.made) - 1
				x.crash(lastings()[r.Intn(len(lastings()))])
				crashes++
				lost += groups - (len(x.made) - 1)
				x.sure = len(x.made) - 1
			default:
				x.find("all, without a crash,")
				mounts++
			}
		}
		if crashes < 40 || mounts < 40 || lost == 0 {
			t.Errorf("%d crashes, %d Mounts, %d groups lost", crashes, mounts, lost)
		}
	}
}

// unflushed is a store the last flush of whose last commit failed, mounted anew, and how many groups were committed ahead of that one.
func unflushed(t *testing.T) (x *bench, sure int) {
	t.Helper()
	x = filled(t, 150, 30, slow)
	sure = len(x.made) - 1
	for i := range 30 {
		x.put(long(i), "under way")
	}
	x.unflush()
	return x, sure
}

// unflush is a Sync whose last flush fails, and a Mount.
func (x *bench) unflush() {
	x.t.Helper()
	x.d.Fail(api.FailFlush, 1)
	if e := x.s.Sync(); e != api.ErrIO {
		x.t.Fatal(e)
	}
	x.group()
	x.mount()
	x.tells()
}

// P9.8: behind a commit whose last flush failed the device may be mounted, as the new superblock is there; that one may be lost still, and then the elder one's pages are all there, whatever was changed and written meanwhile.
func TestUnflushedSuper(t *testing.T) {
	for _, sync := range []bool{false, true} {
		for _, last := range lastings() {
			x, sure := unflushed(t)
			x.churn()
			if sync {
				x.d.Fail(api.FailFlush, 0)
				if e := x.s.Sync(); e != api.ErrIO {
					t.Fatal(e)
				}
				x.mount()
				x.tells()
			}
			y := &script{bench: x, r: rand.New(rand.NewSource(1)), sure: sure}
			y.crash(last)
			if k := len(y.made) - 1; last.name == "nothing" && k != sure || last.name == "all" && k != sure+1 {
				t.Errorf("%d groups are there, as %s lasted", k, last.name)
			}
			x.goesOn()
		}
	}
}

// churn changes all keys over and over, so that many sectors are written.
func (x *bench) churn() {
	x.t.Helper()
	for round := range 4 {
		for i := range 30 {
			x.put(long(i), value(i+round))
		}
	}
	x.tells()
	if l := x.d.Waiting(); len(l) < 10 {
		x.t.Fatalf("just the sectors %v wait", l)
	}
}

// P9.8: the same, where the device fails each Read of that Mount in turn.
func TestUnflushedSuperFails(t *testing.T) {
	for after := 0; ; after++ {
		x, sure := unflushed(t)
		x.d.Fail(api.FailRead, after)
		s, e := store.Mount(x.d, x.l)
		x.d.Fail(api.FailRead, 1<<30)
		if e != api.OK {
			if s != nil || e != api.ErrIO {
				t.Fatal(s, e)
			}
			continue
		}
		x.s = s
		x.churn()
		y := &script{bench: x, r: rand.New(rand.NewSource(1)), sure: sure}
		y.crash(lasting{"all but superblocks", lastings()[3].of})
		if k := len(y.made) - 1; k != sure {
			t.Errorf("%d groups are there, of %d", k, sure)
		}
		return
	}
}

// P9.5, P9.6: the elder superblock's pages are kept just till the next commit, and are not taken; a store that fails goes back to what the newer one says.
func TestUnflushedSuperThen(t *testing.T) {
	x, _ := unflushed(t)
	x.sync()
	if n := x.s.Room(); n != x.room() {
		t.Errorf("Room is %d, not %d", n, x.room())
	}
	x.goesOn()
	x.unflush()
	x.put("a", "1")
	x.d.Fail(api.FailFlush, 0)
	if e := x.s.Sync(); e != api.ErrIO {
		t.Fatal(e)
	}
	x.back()
	x.gone(x.room())
}

// P9.3: an elder superblock whose map is none has nothing that could be kept.
func TestUnflushedSuperSpoilt(t *testing.T) {
	x := filled(t, 150, 30, slow)
	elder := x.s.Super()
	x.put("a", "1")
	x.unflush()
	for _, at := range []int{0, 4, 100} {
		x.d.Spoil(elder.Map, at, 1)
		x.mount()
		x.tells()
		if n := x.s.Room(); n != x.room() {
			t.Errorf("Room is %d, not %d", n, x.room())
		}
		x.d.Spoil(elder.Map, at, 1)
	}
	x.mount()
	x.goesOn()
}

// P9.9: with c keys at most, and a device of 4 c + 64 sectors, no change is refused for want of room.
func TestRoomEnough(t *testing.T) {
	for seed, c := range []int{1, 2, 3, 5, 8, 13, 30, 80, 200, 384} {
		for _, l := range []api.Limits{{Frames: 8, Batch: 1, Delay: 1}, {Frames: 20, Batch: 1000, Delay: 1 << 20}, {Frames: 8, Batch: 40, Delay: 9}} {
			x := laid(t, 4*c+64, l)
			r := rand.New(rand.NewSource(int64(seed)))
			least := x.s.Room()
			for range 500 + 3*c {
				key := long(r.Intn(3 * c))
				_, is := x.model[key]
				switch {
				case is && r.Intn(2) == 0:
					x.del(key)
				case is || len(x.model) < c:
					x.put(key, value(r.Intn(99))[:r.Intn(25)])
				default:
					x.del(slices.Sorted(maps.Keys(x.model))[r.Intn(len(x.model))])
				}
				if r.Intn(30) == 0 {
					x.tick(x.clock + uint64(r.Intn(9)))
				}
				least = min(least, x.s.Room())
			}
			if least == 0 {
				t.Errorf("with %d keys Room was 0", c)
			}
			x.tells()
			x.sync()
			x.lasts()
		}
	}
}

// P9.9, P9.8: the same while power is lost, and commits fail.
func TestRoomEnoughThroughFailures(t *testing.T) {
	for seed, c := range []int{1, 4, 10, 40} {
		for _, batch := range []int{1, 20, 1000} {
			x := scripted(t, 4*c+64, c, api.Limits{Frames: 8, Batch: batch, Delay: 30}, int64(seed))
			for i := range 200 {
				x.d.Fail(api.FailFlush, x.r.Intn(4))
				for range 30 {
					// A change that is refused is an error to step.
					if !x.step() {
						break
					}
				}
				x.d.Fail(api.FailFlush, 1<<30)
				if i%5 == 4 {
					x.crash(lastings()[x.r.Intn(len(lastings()))])
					x.sure = len(x.made) - 1
				} else {
					x.find(fmt.Sprint("all, with ", c, " keys,"))
				}
			}
		}
	}
}
