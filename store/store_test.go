package store_test

import (
	"bytes"
	"fmt"
	"maps"
	"math"
	"slices"
	"strings"
	"testing"

	"stanchion/api"
	"stanchion/dev"
	"stanchion/page"
	"stanchion/store"
)

// The chapter's example.
func TestExample(t *testing.T) {
	x := laid(t, 16, slow)
	x.put("a", "1")
	x.d.Crash(nil)
	x.mount()
	x.tells()
	if _, ok, _ := x.s.Get([]byte("a")); ok {
		t.Error("what was not committed is there")
	}
	x.put("a", "1")
	x.sync()
	x.d.Crash(nil)
	x.mount()
	x.tells()
	if val, ok, e := x.s.Get([]byte("a")); string(val) != "1" || !ok || e != api.OK {
		t.Errorf("%q, %v, %v", val, ok, e)
	}
}

// bounds is limits at each edge, and one beyond it, and whether they may be.
func bounds() map[api.Limits]bool {
	with := func(frames, batch int, delay uint64) api.Limits {
		return api.Limits{Frames: frames, Batch: batch, Delay: delay}
	}
	return map[api.Limits]bool{
		with(8, 1, 1):                         true,
		with(64, 1000, 1<<20):                 true,
		with(8, 1000, 1):                      true,
		with(7, 1, 1):                         false,
		with(65, 1, 1):                        false,
		with(8, 0, 1):                         false,
		with(8, 1001, 1):                      false,
		with(8, 1, 0):                         false,
		with(8, 1, 1<<20+1):                   false,
		with(0, 0, 0):                         false,
		with(-8, 1, 1):                        false,
		with(8, -1, 1):                        false,
		with(math.MaxInt, 1, 1):               false,
		with(8, math.MaxInt, 1):               false,
		with(8, 1, math.MaxUint64):            false,
		with(math.MinInt, math.MinInt, 1<<63): false,
	}
}

// P9.2, P9.3: which limits may be.
func TestLimits(t *testing.T) {
	for l, may := range bounds() {
		d := device(t, 20)
		s, e := store.Format(d, l)
		if (s != nil) != may || (e == api.OK) != may || !may && e != api.ErrArg {
			t.Errorf("Format with %+v is %v, %v", l, s, e)
		}
		if !may && d.Writes() > 0 {
			t.Errorf("Format with %+v writes", l)
		}
		store.Format(d, few)
		s, e = store.Mount(d, l)
		if (s != nil) != may || (e == api.OK) != may || !may && e != api.ErrArg {
			t.Errorf("Mount with %+v is %v, %v", l, s, e)
		}
		// Limits come ahead of what the device errs.
		d.Fail(api.FailRead, 0)
		d.Fail(api.FailWrite, 0)
		if s, e := store.Mount(d, l); s != nil || (e == api.ErrArg) == may {
			t.Errorf("Mount with %+v is %v, %v", l, s, e)
		}
		if s, e := store.Format(d, l); s != nil || (e == api.ErrArg) == may {
			t.Errorf("Format with %+v is %v, %v", l, s, e)
		}
	}
}

// P9.2, P9.3: no device; and one that New did not make, which ends somehow.
func TestNoDevice(t *testing.T) {
	for _, l := range []api.Limits{few, {}} {
		if s, e := store.Format(nil, l); s != nil || e != api.ErrArg {
			t.Error(s, e)
		}
		if s, e := store.Mount(nil, l); s != nil || e != api.ErrArg {
			t.Error(s, e)
		}
	}
	if s, e := store.Format(new(dev.Device), few); s != nil || e == api.OK {
		t.Error(s, e)
	}
	if s, e := store.Mount(new(dev.Device), few); s != nil || e == api.OK {
		t.Error(s, e)
	}
}

// P9.2: what Format lays, sector by sector, and what it leaves; whatever was there.
func TestFormat(t *testing.T) {
	for _, sectors := range []int{16, 17, 23, 24, 100, 1600} {
		d := device(t, sectors)
		old := bytes.Repeat([]byte{0xa5}, 256)
		for no := range sectors {
			write(t, d, no, old)
		}
		before := d.Writes()
		s, e := store.Format(d, few)
		if s == nil || e != api.OK {
			t.Fatal(s, e)
		}
		if l := d.Waiting(); len(l) > 0 {
			t.Errorf("the sectors %v wait", l)
		}
		if n := d.Writes() - before; n != 4 {
			t.Errorf("Format writes %d sectors", n)
		}
		u := good()
		u.sectors = uint32(sectors)
		want := map[int][]byte{
			0: make([]byte, 256),
			1: u.bytes(),
			2: sector(2, api.PageMap, 1, bits(sectors, []int{0, 1, 2})),
		}
		for no := range sectors {
			is, ok := want[no]
			if !ok {
				is = old
			}
			if b := read(t, d, no); !bytes.Equal(b, is) {
				t.Errorf("sector %d of %d is %x, not %x", no, sectors, b, is)
			}
		}
		x := &bench{t: t, d: d, l: few, s: s, made: []moment{{}}}
		x.tells()
		x.lasts()
		if u := s.Super(); u != (api.Super{Map: 2}) {
			t.Errorf("Super is %+v", u)
		}
		if n := s.Room(); n != sectors-3-4 {
			t.Errorf("Room of %d sectors is %d", sectors, n)
		}
	}
}

// P9.2: Format over a store: that one is gone, whatever of the elder superblocks was there.
func TestFormatAgain(t *testing.T) {
	for groups := range 4 {
		x := laid(t, 60, few)
		for i := range groups {
			x.put(long(i), value(i))
			x.tick(uint64(20 * (i + 1)))
			x.sync()
		}
		s, e := store.Format(x.d, slow)
		if e != api.OK {
			t.Fatal(e)
		}
		x.s, x.made, x.l = s, []moment{{}}, slow
		x.back()
		x.model = map[string]string{}
		x.tells()
		x.lasts()
		x.d.Crash(nil)
		x.mount()
		x.tells()
	}
}

// P9.4, P9.6: changes are told at once, and last behind their group.
func TestPending(t *testing.T) {
	x := laid(t, 100, slow)
	for i := range 20 {
		x.put(long(i), value(i))
		x.tells()
	}
	x.lasts()
	x.sync()
	x.lasts()
	for i := 0; i < 24; i += 3 {
		x.del(long(i))
		x.tells()
	}
	x.put(long(1), "other")
	x.put(long(1), "other")
	x.tells()
	if n := x.s.Pending(); n != 7+2 {
		t.Errorf("Pending is %d", n)
	}
	x.lasts()
	x.mount()
	x.tells()
}

// P9.4: just the last change of a batch commits.
func TestBatch(t *testing.T) {
	for _, batch := range []int{1, 2, 3, 5, 999, 1000} {
		x := laid(t, 200, api.Limits{Frames: 8, Batch: batch, Delay: 5})
		for i := range 2*batch + 1 {
			groups := len(x.made)
			switch key := long(i % 7); {
			case i%3 == 2 && x.model[key] != "":
				x.del(key)
			default:
				x.put(key, value(i))
			}
			x.del("no such key")
			x.counts()
			if done := len(x.made) > groups; done != ((i+1)%batch == 0) {
				t.Fatalf("of %d a change %d commits, or not: %v", batch, i, done)
			} else if done || i < 3 {
				x.tells()
				x.lasts()
			}
		}
		if want := (2*batch + 1) / batch; len(x.made)-1 != want {
			t.Errorf("%d groups of %d", len(x.made)-1, batch)
		}
	}
}

// P9.4: a Delete that finds nothing is no change, neither of a batch nor for a Delay.
func TestDeleteNothing(t *testing.T) {
	x := filled(t, 60, 3, few)
	for i := range 10 {
		x.del(long(5 + i))
		x.tick(uint64(20 * i))
		x.counts()
	}
	if n := x.d.Writes(); len(x.made) != 2 || x.s.Pending() != 0 {
		t.Error(n, len(x.made), x.s.Pending())
	}
	x.lasts()
}

// P9.4: a Tick whose time is earlier, the same, just below Delay, just Delay, and above it.
func TestDelay(t *testing.T) {
	for _, delay := range []uint64{1, 2, 10, 1 << 20} {
		for _, start := range []uint64{0, 7, 1 << 40, math.MaxUint64 - 1<<21} {
			for _, by := range []uint64{0, 1, delay - 1, delay, delay + 1, 2 * delay} {
				x := laid(t, 30, api.Limits{Frames: 8, Batch: 1000, Delay: delay})
				x.tick(start)
				x.put("a", "1")
				if start > 0 {
					x.tick(start - 1)
				}
				x.tick(0)
				x.tick(start)
				x.counts()
				x.tick(start + by)
				x.tells()
				x.lasts()
				if done := len(x.made) == 2; done != (by >= delay) {
					t.Errorf("with a Delay of %d, %d later: %v", delay, by, done)
				}
			}
		}
	}
}

// P9.4: it is the first change that counts, whenever the later ones come, and each group has its own.
func TestDelayOfFirst(t *testing.T) {
	x := laid(t, 60, api.Limits{Frames: 8, Batch: 1000, Delay: 10})
	x.tick(100)
	x.put("a", "1")
	x.tick(105)
	x.put("b", "1")
	x.tick(109)
	x.put("c", "1")
	x.counts()
	if n := x.s.Pending(); n != 3 {
		t.Fatal(n)
	}
	x.tick(110)
	x.tells()
	x.lasts()
	x.tick(115)
	x.tells()
	x.put("a", "2")
	x.tick(119)
	x.put("a", "3")
	x.tick(124)
	x.counts()
	if n := x.s.Pending(); n != 2 {
		t.Fatal(n)
	}
	x.tick(125)
	x.tells()
	x.lasts()
	x.tick(1000)
	x.tick(2000)
	x.tells()
	if len(x.made) != 3 {
		t.Errorf("%d groups", len(x.made)-1)
	}
	x.put("d", "1")
	x.sync()
	x.tick(2010)
	x.put("d", "2")
	x.tick(2019)
	x.tells()
	if n := x.s.Pending(); n != 1 {
		t.Fatal(n)
	}
	x.tick(math.MaxUint64)
	x.tells()
	x.lasts()
}

// P9.4: a Tick with nothing pending changes the time alone.
func TestTickAlone(t *testing.T) {
	x := filled(t, 60, 5, few)
	writes, u := x.d.Writes(), x.s.Super()
	for _, now := range []uint64{0, 1, 9, 10, 11, 5, 1 << 30, 7, math.MaxUint64, 0} {
		x.tick(now)
		x.tells()
	}
	if x.d.Writes() != writes || x.s.Super() != u {
		t.Error(x.d.Writes(), x.s.Super())
	}
	x.mount()
	if n := x.s.Now(); n != 0 {
		t.Errorf("Now is %d behind a Mount", n)
	}
}

// P9.4: a Sync with nothing pending commits the Clock.
func TestSyncClock(t *testing.T) {
	x := laid(t, 30, few)
	for i := range 5 {
		x.tick(uint64(1000 * i))
		x.sync()
		x.tells()
		x.lasts()
	}
	x.sync()
	x.tells()
	x.lasts()
	x.tick(math.MaxUint64)
	x.sync()
	x.lasts()
	x.d.Crash(nil)
	x.mount()
	x.tells()
	if n := x.s.Now(); n != math.MaxUint64 {
		t.Errorf("Now is %d", n)
	}
}

// P9.5: each commit has the next generation, in the other sector; the elder superblock stays.
func TestGenerations(t *testing.T) {
	x := laid(t, 60, few)
	for i := range 12 {
		before := [2][]byte{read(t, x.d, 0), read(t, x.d, 1)}
		if i%2 == 0 {
			x.put(long(i), value(i))
		}
		x.sync()
		x.lasts()
		gen := uint64(i + 2)
		now, other := int(gen%2), int(1-gen%2)
		if u := parsed(t, now, read(t, x.d, now)); u.gen != gen {
			t.Fatalf("sector %d has generation %d, not %d", now, u.gen, gen)
		}
		if !bytes.Equal(read(t, x.d, other), before[other]) {
			t.Fatalf("sector %d has changed", other)
		}
		if i%5 == 4 {
			x.mount()
		}
	}
}

// P9.5: no sector of what was committed last is written ahead of the next commit; what is written is of the generation that it is committed as.
func TestNotWrittenOver(t *testing.T) {
	x := filled(t, 300, 40, slow)
	for round := range 6 {
		u, _ := look(t, x.d)
		before := map[int][]byte{}
		used := taken(t, x.d, u)
		for no := 2; no < x.d.Len(); no++ {
			if used[no/8]>>(no%8)&1 == 1 {
				before[no] = read(t, x.d, no)
			}
		}
		for i := range 60 {
			x.put(long((i*7+round)%50), value(i+round))
			x.del(long((i*11 + round) % 50))
		}
		x.tick(uint64(round))
		for no, b := range before {
			if !bytes.Equal(read(t, x.d, no), b) {
				t.Fatalf("sector %d was written ahead of the commit", no)
			}
		}
		x.sync()
		for no, b := range before {
			if !bytes.Equal(read(t, x.d, no), b) {
				t.Fatalf("sector %d was written in the commit", no)
			}
		}
		x.tells()
		x.lasts()
		u, _ = look(t, x.d)
		for _, no := range inTree(t, x.d) {
			p, e := page.Decode(no, read(t, x.d, no))
			if old := before[no] != nil; e != api.OK || !old && p.Gen != u.gen || old && p.Gen >= u.gen {
				t.Fatalf("page %d is of generation %d, in %d: %v", no, p.Gen, u.gen, e)
			}
		}
	}
}

// P9.4: keys and values that may not be.
func TestWhatMayBe(t *testing.T) {
	x := filled(t, 60, 3, few)
	for _, size := range []int{1, 23, 24} {
		x.put(strings.Repeat("k", size), strings.Repeat("v", 24))
		x.put(strings.Repeat("l", size), "")
	}
	x.put("\x00", "\x00")
	x.put("\xff", "\xff")
	x.tells()
	x.sync()
	writes := x.d.Writes()
	for _, size := range []int{0, 25, 26, 255, 256, 300} {
		k := bytes.Repeat([]byte{'k'}, size)
		if e := x.s.Put(k, []byte("v")); e != api.ErrArg {
			t.Errorf("Put of a key of %d bytes is %v", size, e)
		}
		if ok, e := x.s.Delete(k); ok || e != api.ErrArg {
			t.Errorf("Delete of a key of %d bytes is %v, %v", size, ok, e)
		}
		if size > 0 {
			if e := x.s.Put([]byte("k"), k); e != api.ErrArg {
				t.Errorf("Put of a value of %d bytes is %v", size, e)
			}
		}
		if val, ok, e := x.s.Get(k); len(val) > 0 || ok || e != api.OK {
			t.Errorf("Get of a key of %d bytes is %q, %v, %v", size, val, ok, e)
		}
	}
	x.tells()
	if x.d.Writes() != writes {
		t.Error("what may not be is written")
	}
}

// P9.4: which error comes first.
func TestFirstError(t *testing.T) {
	x := full(t)
	if e := x.s.Put(nil, nil); e != api.ErrArg {
		t.Error(e)
	}
	if e := x.s.Put([]byte("k"), make([]byte, 25)); e != api.ErrArg {
		t.Error(e)
	}
	if ok, e := x.s.Delete(nil); ok || e != api.ErrArg {
		t.Error(ok, e)
	}
	if ok, e := x.s.Delete([]byte("no such key")); ok || e != api.OK {
		t.Error(ok, e)
	}
	x.tells()
	x.d.Fail(api.FailWrite, 0)
	if e := x.s.Sync(); e != api.ErrIO || !x.s.Failed() {
		t.Fatal(e)
	}
	if e := x.s.Put(nil, nil); e != api.ErrArg {
		t.Error(e)
	}
	if e := x.s.Put([]byte("k"), make([]byte, 25)); e != api.ErrArg {
		t.Error(e)
	}
	if ok, e := x.s.Delete(make([]byte, 25)); ok || e != api.ErrArg {
		t.Error(ok, e)
	}
	if e := x.s.Put([]byte("k"), nil); e != api.ErrRead {
		t.Error(e)
	}
	if ok, e := x.s.Delete([]byte("no such key")); ok || e != api.ErrRead {
		t.Error(ok, e)
	}
	if ok, e := x.s.Delete([]byte(long(0))); ok || e != api.ErrRead {
		t.Error(ok, e)
	}
	if e := x.s.Sync(); e != api.ErrRead {
		t.Error(e)
	}
}

// full is a store of 16 sectors whose Room is 0, with all committed.
func full(t *testing.T) *bench {
	t.Helper()
	x := laid(t, 16, slow)
	for i := 0; x.s.Room() > 0; i++ {
		x.put(long(i), value(i))
		x.sync()
	}
	return x
}

// P9.6: Room of a store of which all is committed: what the map leaves, less what a change and a commit need.
func (x *bench) room() int {
	x.t.Helper()
	u, _ := look(x.t, x.d)
	free := x.d.Len()
	for _, b := range taken(x.t, x.d, u) {
		for ; b > 0; b &= b - 1 {
			free--
		}
	}
	return max(0, free-2*int(u.height)-4)
}

// P9.6: Room at each height, committed and pending.
func TestRoom(t *testing.T) {
	x := laid(t, 1600, slow)
	heights := map[int]bool{}
	for i := range 300 {
		before, height := x.s.Room(), x.s.Super().Height
		x.put(long(i*77%300), value(i))
		pending := x.s.Room()
		x.sync()
		if n := x.s.Room(); n != x.room() {
			t.Fatalf("Room is %d, not %d, with %d keys", n, x.room(), i+1)
		}
		// A change takes a page for each height at least, and gives none of the committed ones.
		if height > 0 && height == x.s.Super().Height && (pending > before-height || pending < before-2*height-1) {
			t.Fatalf("Room is %d behind a change, %d ahead of it, at height %d", pending, before, height)
		}
		heights[x.s.Super().Height] = true
		if i%50 == 0 {
			n := x.s.Room()
			x.mount()
			if x.s.Room() != n {
				t.Fatalf("Room is %d behind a Mount, %d ahead of it", x.s.Room(), n)
			}
		}
	}
	if len(heights) < 4 {
		t.Errorf("there were the heights %v", heights)
	}
}

// P9.6: Room while changes are pending, at a height of 1: the fresh leaf is one page more, and further changes take its place.
func TestRoomPending(t *testing.T) {
	x := laid(t, 30, slow)
	for i, want := range []int{30 - 3 - 1 - 6, 30 - 3 - 1 - 6, 30 - 3 - 1 - 6} {
		x.put(long(i), "")
		if n := x.s.Room(); n != want {
			t.Errorf("Room is %d, not %d, with %d changes pending", n, want, i+1)
		}
	}
	x.sync()
	if n := x.s.Room(); n != 30-3-1-6 {
		t.Errorf("Room is %d behind a commit", n)
	}
	for i := range 3 {
		x.put(long(i), "2")
		if n := x.s.Room(); n != 30-3-2-6 {
			t.Errorf("Room is %d, with the committed leaf still there", n)
		}
	}
	for i := range 3 {
		x.del(long(i))
	}
	if n := x.s.Room(); n != 30-3-1-4 {
		t.Errorf("Room is %d, with no keys and the committed leaf still there", n)
	}
	x.sync()
	if n := x.s.Room(); n != 30-3-4 {
		t.Errorf("Room is %d without keys", n)
	}
}

// P9.4, P9.6: with a Room of 1 a change and a commit are done; with 0 a change is ErrFull, and a commit is done.
func TestFull(t *testing.T) {
	rooms := map[int]int{}
	for size := range 25 {
		x := laid(t, 16, slow)
		for i := 0; ; i++ {
			room := x.s.Room()
			if i%3 == 0 {
				x.sync()
				if n := x.s.Room(); n < room || n != x.room() {
					t.Fatalf("Room is %d, of %d", n, x.room())
				}
			}
			rooms[x.s.Room()]++
			if x.s.Room() == 0 {
				break
			}
			x.put(long(i), strings.Repeat("v", size))
		}
		x.refuses()
		for range 5 {
			x.sync()
			x.tells()
			x.lasts()
		}
	}
	if rooms[0] != 25 || rooms[1] == 0 || rooms[2] == 0 {
		t.Errorf("there were the Rooms %v", rooms)
	}
	x := full(t)
	x.refuses()
	for range 3 {
		x.sync()
		x.refuses()
		x.lasts()
		x.mount()
		x.refuses()
	}
}

// refuses holds that each change is ErrFull, as Room is 0.
func (x *bench) refuses() {
	x.t.Helper()
	if n := x.s.Room(); n != 0 {
		x.t.Fatalf("Room is %d", n)
	}
	for key := range x.model {
		if e := x.s.Put([]byte(key), []byte("new")); e != api.ErrFull {
			x.t.Fatalf("Put(%q) is %v", key, e)
		}
		if ok, e := x.s.Delete([]byte(key)); ok || e != api.ErrFull {
			x.t.Fatalf("Delete(%q) is %v, %v", key, ok, e)
		}
	}
	if e := x.s.Put([]byte("new"), nil); e != api.ErrFull {
		x.t.Fatal(e)
	}
	x.del("no such key")
	x.tells()
}

// P9.4: a Put where Room is 0 reads nothing; a Delete looks for its key first.
func TestFullReads(t *testing.T) {
	x := laid(t, 36, slow)
	for i := 0; x.s.Room() > 0; i++ {
		x.put(long(i), value(i))
		x.sync()
	}
	x.mount()
	// Of more pages than there are frames some are not held.
	keys := slices.Sorted(maps.Keys(x.model))
	for _, key := range keys {
		x.d.Fail(api.FailRead, 0)
		if e := x.s.Put([]byte(key), nil); e != api.ErrFull {
			t.Fatal(e)
		}
	}
	x.counts()
	for _, key := range keys {
		if _, e := x.s.Delete([]byte(key)); e == api.ErrIO {
			if !x.s.Failed() {
				t.Error("a Delete that can't read lets the store be")
			}
			return
		} else if e != api.ErrFull {
			t.Fatal(e)
		}
	}
	t.Error("no Delete reads")
}

// A nil store tells that there is none.
func TestNil(t *testing.T) {
	var s *store.Store
	if val, ok, e := s.Get([]byte("a")); val != nil || ok || e != api.ErrArg {
		t.Error(val, ok, e)
	}
	if l, e := s.Scan(nil, nil, 9); l != nil || e != api.ErrArg {
		t.Error(l, e)
	}
	if e := s.Put([]byte("a"), nil); e != api.ErrArg {
		t.Error(e)
	}
	if ok, e := s.Delete([]byte("a")); ok || e != api.ErrArg {
		t.Error(ok, e)
	}
	if a, b, c := s.Tick(1), s.Sync(), s.Check(); a != api.ErrArg || b != api.ErrArg || c != api.ErrArg {
		t.Error(a, b, c)
	}
	if u := s.Super(); u != (api.Super{}) {
		t.Error(u)
	}
	if s.Pending() != 0 || s.Keys() != 0 || s.Now() != 0 || s.Room() != 0 || s.Failed() {
		t.Error(s.Pending(), s.Keys(), s.Now(), s.Room(), s.Failed())
	}
}

// What a store tells that no call made is open, but each call ends.
func TestZero(t *testing.T) {
	var s store.Store
	s.Get([]byte("a"))
	s.Scan(nil, nil, 9)
	s.Put([]byte("a"), nil)
	s.Delete([]byte("a"))
	s.Tick(1)
	s.Sync()
	s.Put([]byte("a"), nil)
	s.Delete([]byte("a"))
	s.Tick(2)
	s.Check()
	s.Super()
	s.Room()
	if s.Pending() != 0 || s.Keys() != 0 {
		t.Error(s.Pending(), s.Keys())
	}
}

// P9.4: Scan tells from where, up to where, and how many, of all changes.
func TestScan(t *testing.T) {
	x := filled(t, 200, 40, slow)
	for i := range 15 {
		x.put(long(40+i), value(i))
		x.del(long(3 * i))
	}
	all := pairs(x.model)
	for _, from := range []string{"", long(0), long(7), long(20), long(60), "z"} {
		for _, to := range []string{"", long(0), long(8), long(33), "z"} {
			for _, most := range []int{math.MinInt, -1, 0, 1, 2, 10, 1000, math.MaxInt} {
				var want []api.Pair
				for _, p := range all {
					if string(p.Key) >= from && (to == "" || string(p.Key) < to) && len(want) < most {
						want = append(want, p)
					}
				}
				l, e := x.s.Scan([]byte(from), []byte(to), most)
				if !samePairs(l, want) || e != api.OK {
					t.Fatalf("Scan(%q, %q, %d) is %q, %v", from, to, most, l, e)
				}
			}
		}
	}
	x.tells()
}

// P9.4: Keys counts keys, not changes.
func TestKeys(t *testing.T) {
	x := laid(t, 60, slow)
	for i := range 30 {
		x.put(fmt.Sprint(i%10), value(i))
		x.counts()
	}
	for i := range 30 {
		x.del(fmt.Sprint(i % 15))
		x.counts()
	}
	x.sync()
	x.tells()
	x.lasts()
}
