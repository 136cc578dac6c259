package store_test

import (
	"fmt"
	"maps"
	"testing"

	"stanchion/api"
	"stanchion/dev"
	"stanchion/store"
)

// call is a call that may commit: what it does, what it makes of the model, and at which time it is then.
type call struct {
	name    string
	batch   int
	do      func(s *store.Store) (bool, api.Errno)
	change  func(m map[string]string)
	commits bool
	clock   uint64
}

// calls is the calls that change something, of a store with the keys 0 to 59, of which some changes are pending that came at 5.
func calls() []call {
	put := func(key string) (func(s *store.Store) (bool, api.Errno), func(m map[string]string)) {
		return func(s *store.Store) (bool, api.Errno) { return false, s.Put([]byte(key), []byte("new")) },
			func(m map[string]string) { m[key] = "new" }
	}
	del := func(key string) (func(s *store.Store) (bool, api.Errno), func(m map[string]string)) {
		return func(s *store.Store) (bool, api.Errno) { return s.Delete([]byte(key)) },
			func(m map[string]string) { delete(m, key) }
	}
	var l []call
	for _, batch := range []int{api.MaxBatch, pendingChanges + 1} {
		for _, key := range []string{long(2), long(30), long(59), "new"} {
			c := call{name: fmt.Sprintf("Put(%q), %d a batch", key, batch), batch: batch, commits: batch < api.MaxBatch, clock: 5}
			c.do, c.change = put(key)
			l = append(l, c)
		}
		for _, key := range []string{long(2), long(30), long(59)} {
			c := call{name: fmt.Sprintf("Delete(%q), %d a batch", key, batch), batch: batch, commits: batch < api.MaxBatch, clock: 5}
			c.do, c.change = del(key)
			l = append(l, c)
		}
	}
	return append(l,
		call{name: "Tick", batch: api.MaxBatch, commits: true, clock: 15, change: func(map[string]string) {},
			do: func(s *store.Store) (bool, api.Errno) { return false, s.Tick(15) }},
		call{name: "Sync", batch: api.MaxBatch, commits: true, clock: 5, change: func(map[string]string) {},
			do: func(s *store.Store) (bool, api.Errno) { return false, s.Sync() }})
}

// pendingChanges is how many changes are pending ahead of a call.
const pendingChanges = 40

// ready is a store for these calls, and what its Room was when all was committed.
func ready(t *testing.T, c call) (x *bench, room int) {
	t.Helper()
	x = filled(t, 400, 60, slow)
	x.tick(5)
	x.sync()
	x.l = api.Limits{Frames: 8, Batch: c.batch, Delay: 10}
	x.mount()
	room = x.s.Room()
	for i := range pendingChanges / 2 {
		x.put(long(3*i), "pending")
		x.del(long(3*i + 1))
	}
	return x, room
}

// P9.5: the device fails each Read, Write and Flush of each call in turn.
func TestFailures(t *testing.T) {
	failed := map[int]int{}
	for _, c := range calls() {
		for what := api.FailRead; what <= api.FailFlush; what++ {
			after := 0
			for ; fails(t, c, what, after); after++ {
				failed[what]++
			}
			if c.commits && (what == api.FailWrite && after < 3 || what == api.FailFlush && after != 2) {
				t.Errorf("%s comes to %d calls of kind %d", c.name, after, what)
			}
			if !c.commits && what == api.FailFlush && after > 0 {
				t.Errorf("%s flushes", c.name)
			}
		}
	}
	if failed[api.FailRead] < 20 || failed[api.FailWrite] < 60 {
		t.Errorf("of each kind so many failed: %v", failed)
	}
}

// fails is whether c fails, if of the device's calls of that kind so many are done.
func fails(t *testing.T, c call, what, after int) bool {
	t.Helper()
	x, room := ready(t, c)
	x.d.Fail(what, after)
	ok, e := c.do(x.s)
	x.d.Fail(what, 1<<30)
	c.change(x.model)
	x.clock = c.clock
	if e == api.OK {
		x.pending++
		if c.commits {
			x.group()
		}
		x.counts()
		return false
	}
	if ok || e != api.ErrIO {
		t.Fatalf("%s is %v, %v", c.name, ok, e)
	}
	under := moment{maps.Clone(x.model), x.clock}
	clock := x.clock
	x.back()
	x.clock = clock
	x.gone(room)
	// The superblock is written when all else lasts: just if it alone was not flushed, the group is found.
	if what == api.FailFlush && after == 1 {
		x.made = append(x.made, under)
	}
	x.mount()
	x.tells()
	x.goesOn()
	return true
}

// P9.5: the first Write of a commit fails, whatever the frames hold ahead of it, so that at times that is what makes room for the map.
func TestFirstWriteFails(t *testing.T) {
	for pending := range 12 {
		for gets := range 12 {
			x := filled(t, 400, 60, slow)
			room := x.s.Room()
			for i := range pending {
				x.put(long(7*i%60), "pending")
			}
			for i := range gets {
				x.s.Get([]byte(long(11 * i % 60)))
			}
			x.d.Fail(api.FailWrite, 0)
			if e := x.s.Sync(); e != api.ErrIO {
				t.Fatalf("Sync is %v", e)
			}
			x.back()
			x.gone(room)
			x.mount()
			x.tells()
		}
	}
}

// gone holds that the store failed: all is as it was committed last, and nothing is done or written any more.
func (x *bench) gone(room int) {
	x.t.Helper()
	writes, waiting := x.d.Writes(), fmt.Sprint(x.d.Waiting())
	for i := range 3 {
		if !x.s.Failed() || x.s.Pending() != 0 || x.s.Keys() != len(x.model) || x.s.Now() != x.clock || x.s.Room() != room {
			x.t.Fatalf("a store that failed tells %v, %d, %d, %d, %d", x.s.Failed(), x.s.Pending(), x.s.Keys(), x.s.Now(), x.s.Room())
		}
		x.super()
		x.has(x.model)
		if e := x.s.Check(); e != api.OK {
			x.t.Fatal(e)
		}
		if e := x.s.Put([]byte("k"), []byte("v")); e != api.ErrRead {
			x.t.Fatalf("Put is %v", e)
		}
		for _, key := range []string{long(1), "no such key"} {
			if ok, e := x.s.Delete([]byte(key)); ok || e != api.ErrRead {
				x.t.Fatalf("Delete(%q) is %v, %v", key, ok, e)
			}
		}
		if e := x.s.Sync(); e != api.ErrRead {
			x.t.Fatalf("Sync is %v", e)
		}
		if i < 2 {
			x.clock += 1000
			if e := x.s.Tick(x.clock); e != api.OK {
				x.t.Fatalf("Tick is %v", e)
			}
		}
	}
	if x.d.Writes() != writes || fmt.Sprint(x.d.Waiting()) != waiting {
		x.t.Fatal("a store that failed writes")
	}
}

// goesOn holds that changes are made, and last.
func (x *bench) goesOn() {
	x.t.Helper()
	for i := range 12 {
		x.put(long(3*i), "on")
		x.del(long(3*i + 1))
	}
	x.tick(x.clock + 1)
	x.sync()
	x.tells()
	x.lasts()
}

// P9.4: the device fails each call of a Get, Scan and Check in turn: they err, and nothing else has changed, with nothing pending and with much.
func TestFailuresToTell(t *testing.T) {
	tell := map[string]func(s *store.Store) (bool, api.Errno){
		"Get": func(s *store.Store) (bool, api.Errno) {
			val, ok, e := s.Get([]byte(long(25)))
			return ok || val != nil, e
		},
		"Scan": func(s *store.Store) (bool, api.Errno) {
			l, e := s.Scan(nil, nil, 1000)
			return l != nil, e
		},
		"Check": func(s *store.Store) (bool, api.Errno) {
			return false, s.Check()
		},
	}
	failed := map[string]int{}
	for name, do := range tell {
		for _, pending := range []int{0, 30} {
			for what := api.FailRead; what <= api.FailFlush; what++ {
				for after := 0; ; after++ {
					x := filled(t, 400, 60, slow)
					x.mount()
					for i := range pending {
						x.put(long(60-i), "pending")
					}
					x.d.Fail(what, after)
					some, e := do(x.s)
					x.d.Fail(what, 1<<30)
					x.counts()
					if e == api.OK {
						break
					}
					if some || e != api.ErrIO {
						t.Fatalf("%s is %v, %v", name, some, e)
					}
					failed[fmt.Sprint(name, what)]++
					x.tells()
					x.goesOn()
				}
			}
		}
	}
	for _, name := range []string{"Get1", "Scan1", "Scan2", "Check1", "Check2"} {
		if failed[name] == 0 {
			t.Errorf("%s never failed: %v", name, failed)
		}
	}
	if failed["Get3"]+failed["Scan3"]+failed["Check3"] > 0 {
		t.Error(failed)
	}
}

// P9.2: the device fails each of Format's calls in turn.
func TestFormatFails(t *testing.T) {
	for what, calls := range map[int]int{api.FailRead: 0, api.FailWrite: 4, api.FailFlush: 2} {
		for after := range 6 {
			d := device(t, 20)
			d.Fail(what, after)
			s, e := store.Format(d, few)
			if failed := after < calls; (e == api.ErrIO) != failed || (s == nil) != failed || !failed && e != api.OK {
				t.Errorf("Format is %v, %v, as call %d of kind %d fails", s, e, after, what)
			}
			d.Crash(nil)
			if s, e := store.Mount(d, few); (e == api.OK) != (after >= calls) || e != api.OK && (s != nil || e != api.ErrNone) {
				t.Errorf("Mount is %v, %v, as call %d of kind %d failed", s, e, after, what)
			}
			if s, e := store.Format(d, few); s == nil || e != api.OK {
				t.Errorf("Format is %v, %v, once the device works", s, e)
			}
		}
	}
}

// P9.2: the superblock is written when the others have lasted: until then there is none, neither the new one nor an elder one.
func TestFormatOrder(t *testing.T) {
	for after := range 2 {
		x := filled(t, 60, 9, few)
		x.d.Fail(api.FailFlush, after)
		if s, e := store.Format(x.d, few); s != nil || e != api.ErrIO {
			t.Fatal(s, e)
		}
		if _, e := store.Mount(x.d, few); (e == api.OK) != (after == 1) || e != api.OK && e != api.ErrNone {
			t.Errorf("behind %d Flushes Mount is %v", after, e)
		}
		if l := fmt.Sprint(x.d.Waiting()); l != [...]string{"[0 1 2]", "[1]"}[after] {
			t.Errorf("the sectors %s wait", l)
		}
	}
}

// P9.5: a page that is spoilt lets a change fail, with what the page errs; what was committed is told where it can be read.
func TestSpoiltBelow(t *testing.T) {
	for _, at := range []int{0, 4, 5, 100} {
		x := filled(t, 400, 60, slow)
		want := map[int]api.Errno{0: api.ErrForm, 4: api.ErrVersion, 5: api.ErrSum, 100: api.ErrSum}[at]
		pages := inTree(t, x.d)
		x.mount()
		spoil := func() {
			for _, no := range pages {
				x.d.Spoil(no, at, 0x20)
			}
		}
		spoil()
		failed := false
		for i := 0; i < 60 && !failed; i++ {
			var e api.Errno
			if i%2 == 0 {
				e = x.s.Put([]byte(long(i)), nil)
			} else {
				_, e = x.s.Delete([]byte(long(i)))
			}
			failed = x.s.Failed()
			if failed != (e != api.OK) || failed && e != want {
				t.Fatalf("a change is %v: %v", e, failed)
			}
		}
		if !failed {
			t.Fatal("nothing failed")
		}
		if _, e := x.s.Scan(nil, nil, 99); e != want {
			t.Errorf("Scan is %v", e)
		}
		spoil()
		x.s.Scan(nil, nil, 99)
		if n := x.s.Pending(); n != 0 || x.s.Keys() != 60 {
			t.Error(n, x.s.Keys())
		}
		x.mount()
		x.tells()
	}
}

// P9.5: a commit for which there is no page fails, as a map can't be laid: of a device all of whose other pages are the tree's.
func TestNoPageForMap(t *testing.T) {
	d := tight(t, 0)
	s := mounts(t, d, api.OK)
	if n := s.Room(); n != 0 {
		t.Errorf("Room is %d", n)
	}
	writes := d.Writes()
	if e := s.Sync(); e != api.ErrFull || !s.Failed() {
		t.Errorf("Sync is %v: %v", e, s.Failed())
	}
	if e := s.Sync(); e != api.ErrRead {
		t.Errorf("Sync is %v", e)
	}
	if l, e := s.Scan(nil, nil, 99); len(l) != 12 || e != api.OK {
		t.Error(l, e)
	}
	if e := s.Check(); e != api.OK || d.Writes() != writes || s.Keys() != 12 {
		t.Error(e, d.Writes()-writes, s.Keys())
	}
	mounts(t, d, api.OK)
	// With one page there is room for a map, over and over.
	x := &bench{t: t, d: tight(t, 1), l: slow, model: map[string]string{}}
	x.s = mounts(t, x.d, api.OK)
	for range 5 {
		if e := x.s.Sync(); e != api.OK {
			t.Fatal(e)
		}
		look(t, x.d)
	}
}

// tight is a device of 16 sectors on which a tree of one key a leaf lies that leaves so many pages free.
func tight(t *testing.T, free int) *dev.Device {
	t.Helper()
	d := device(t, 16)
	leaves := 12 - free
	kids, used := []byte{0, 4}, []int{0, 1, 2, 3}
	for i := range leaves {
		no := 4 + i
		used = append(used, no)
		write(t, d, no, sector(no, api.PageLeaf, 2, []byte{1, 1, byte('a' + i), 0}))
		if i > 0 {
			kids = append(kids, 1, byte('a'+i), 0, byte(no))
		}
	}
	write(t, d, 3, sector(3, api.PageInner, 2, append([]byte{byte(leaves - 1)}, kids...)))
	write(t, d, 2, sector(2, api.PageMap, 2, bits(16, used)))
	u := super{root: 3, height: 2, mapAt: 2, sectors: 16, keys: uint32(leaves), gen: 2, kind: api.PageSuper}
	write(t, d, 0, u.bytes())
	return d
}
