package tree_test

import (
	"bytes"
	"fmt"
	"maps"
	"math/rand"
	"slices"
	"strings"
	"testing"

	"stanchion/api"
	"stanchion/cache"
	"stanchion/dev"
	"stanchion/node"
	"stanchion/page"
	"stanchion/space"
	"stanchion/tree"
)

// bench is a tree, what it stands on, and what a map has that was put and deleted the same.
type bench struct {
	t     testing.TB
	d     *dev.Device
	c     *cache.Cache
	s     *space.Space
	tree  *tree.Tree
	gen   uint64
	model map[string]string
	// ballast is pages that are taken, but are not the tree's.
	ballast []int
}

// laid is a tree without keys, of Gen 1, over so many sectors and frames. The pages 0 and 1 are taken.
func laid(t testing.TB, sectors, frames int) *bench {
	t.Helper()
	d, e := dev.New(sectors)
	if e != api.OK {
		t.Fatal(e)
	}
	c, e := cache.New(d, frames)
	if e != api.OK {
		t.Fatal(e)
	}
	s, e := space.New(sectors, 2)
	if e != api.OK {
		t.Fatal(e)
	}
	x := &bench{t: t, d: d, c: c, s: s, gen: 1, model: map[string]string{}}
	x.open(0, 0)
	return x
}

// open lets the tree be that of root and height.
func (x *bench) open(root, height int) {
	x.t.Helper()
	tr, e := tree.New(x.c, x.s, x.gen, root, height)
	if tr == nil || e != api.OK {
		x.t.Fatalf("New(%d, %d) is %v, %v", root, height, tr, e)
	}
	x.tree = tr
}

// again lets another cache stand over the device, which has all that there is, and the tree over that.
func (x *bench) again(frames int) {
	x.t.Helper()
	if e := x.c.Sync(); e != api.OK {
		x.t.Fatal(e)
	}
	c, e := cache.New(x.d, frames)
	if e != api.OK {
		x.t.Fatal(e)
	}
	x.c = c
	x.open(x.tree.Root())
}

// put is a Put that must be done.
func (x *bench) put(key, val string) {
	x.t.Helper()
	if e := x.tree.Put([]byte(key), []byte(val)); e != api.OK {
		x.t.Fatalf("Put(%q, %q) is %v", key, val, e)
	}
	x.model[key] = val
}

// del is a Delete that must be done, and tell whether key was there.
func (x *bench) del(key string) {
	x.t.Helper()
	_, was := x.model[key]
	if ok, e := x.tree.Delete([]byte(key)); ok != was || e != api.OK {
		x.t.Fatalf("Delete(%q) is %v, %v, not %v", key, ok, e, was)
	}
	delete(x.model, key)
}

// get holds key's value against the model's.
func (x *bench) get(key string) {
	x.t.Helper()
	want, there := x.model[key]
	if val, ok, e := x.tree.Get([]byte(key)); string(val) != want || ok != there || e != api.OK {
		x.t.Fatalf("Get(%q) is %q, %v, %v, not %q, %v", key, val, ok, e, want, there)
	}
}

// height is how high the tree is.
func (x *bench) height() int {
	_, h := x.tree.Root()
	return h
}

// node is the node in page no, read past the tree, which must be of the kind that should be at height, and no Gen above the tree's.
func (x *bench) node(no, height int) api.Node {
	x.t.Helper()
	b, e := x.c.Get(no)
	if e != api.OK {
		x.t.Fatalf("page %d is %v", no, e)
	}
	p, e := page.Decode(no, b)
	if e != api.OK {
		x.t.Fatalf("page %d is %v", no, e)
	}
	want := api.PageInner
	if height == 1 {
		want = api.PageLeaf
	}
	if p.Kind != want || p.Gen > x.gen {
		x.t.Fatalf("page %d at height %d is of kind %d and Gen %d", no, height, p.Kind, p.Gen)
	}
	n, e := node.Decode(height == 1, p.Body)
	if e != api.OK {
		x.t.Fatalf("page %d is no node", no)
	}
	return n
}

// shape holds the tree of root and height, read past the tree, against the words of P8.1, and tells its pages and pairs, as they are come to.
func (x *bench) shape(root, height int) (pages []int, pairs []api.Pair) {
	x.t.Helper()
	if height == 0 {
		if root != 0 {
			x.t.Fatalf("a tree of height 0 has the root %d", root)
		}
		return nil, nil
	}
	n := x.node(root, height)
	pages = []int{root}
	if height == 1 {
		for i := range n.Keys {
			pairs = append(pairs, api.Pair{Key: n.Keys[i], Val: n.Vals[i]})
		}
		return pages, pairs
	}
	for i, kid := range n.Kids {
		l, some := x.shape(kid, height-1)
		for _, pair := range some {
			if i > 0 && bytes.Compare(pair.Key, n.Keys[i-1]) < 0 || i < len(n.Keys) && bytes.Compare(pair.Key, n.Keys[i]) >= 0 {
				x.t.Fatalf("key %q lies below page %d, kid %d", pair.Key, root, i)
			}
		}
		pages, pairs = append(pages, l...), append(pairs, some...)
	}
	return pages, pairs
}

// pairs is what m has, rising.
func pairs(m map[string]string) []api.Pair {
	var l []api.Pair
	for _, key := range slices.Sorted(maps.Keys(m)) {
		l = append(l, api.Pair{Key: []byte(key), Val: []byte(m[key])})
	}
	return l
}

// samePairs is whether both lists have the same keys with the same values.
func samePairs(a, b []api.Pair) bool {
	return slices.EqualFunc(a, b, func(p, q api.Pair) bool {
		return bytes.Equal(p.Key, q.Key) && bytes.Equal(p.Val, q.Val)
	})
}

// between is what there is in l of keys from from on, and below to, most at most.
func between(l []api.Pair, from, to string, most int) []api.Pair {
	var some []api.Pair
	for _, pair := range l {
		if string(pair.Key) >= from && (to == "" || string(pair.Key) < to) && len(some) < most {
			some = append(some, pair)
		}
	}
	return some
}

// tells holds all that Get and Scan tell against the model.
func (x *bench) tells() {
	x.t.Helper()
	want := pairs(x.model)
	for key := range x.model {
		x.get(key)
		x.get(key + "\x00")
	}
	if l, e := x.tree.Scan(nil, nil, len(want)+1); e != api.OK || !samePairs(l, want) {
		x.t.Fatalf("Scan is %q, %v, not %q", l, e, want)
	}
}

// holds holds Check, the shape, and which pages are taken, against the model, and tells how many pages the tree has.
func (x *bench) holds() int {
	x.t.Helper()
	pages, there := x.shape(x.tree.Root())
	if want := pairs(x.model); !samePairs(there, want) {
		x.t.Fatalf("the pages have %q, not %q", there, want)
	}
	slices.Sort(pages)
	if l, keys, e := x.tree.Check(); !slices.Equal(l, pages) || keys != len(x.model) || e != api.OK {
		x.t.Fatalf("Check is %v, %d, %v, not %v, %d", l, keys, e, pages, len(x.model))
	}
	want := slices.Concat([]int{0, 1}, pages, x.ballast)
	slices.Sort(want)
	if l := x.s.Used(); !slices.Equal(l, want) {
		x.t.Fatalf("taken are %v, but the tree has %v", l, pages)
	}
	return len(pages)
}

// told holds all that the tree tells against the model.
func (x *bench) told() {
	x.t.Helper()
	x.tells()
	x.sound()
}

// sound holds what the tree is in pages against the model. All its keys came by Put, so it has no more pages than keys (P8.4).
func (x *bench) sound() {
	x.t.Helper()
	if n := x.holds(); n > len(x.model) {
		x.t.Fatalf("%d keys have %d pages", len(x.model), n)
	}
}

// commit commits the space, without ballast: what is freed of that has to be Room again.
func (x *bench) commit() {
	for _, no := range x.ballast {
		x.s.Free(no)
	}
	x.ballast = nil
	x.s.Commit()
}

// leave lets the space have Room for just n pages.
func (x *bench) leave(n int) {
	x.t.Helper()
	for x.s.Room() < n && len(x.ballast) > 0 {
		last := len(x.ballast) - 1
		x.s.Free(x.ballast[last])
		x.ballast = x.ballast[:last]
	}
	for x.s.Room() > n {
		no, _ := x.s.Alloc()
		x.ballast = append(x.ballast, no)
	}
	if got := x.s.Room(); got != n {
		x.t.Fatalf("there is Room for %d pages, not %d", got, n)
	}
}

// state is what an error must leave: the root, the height, and which pages are taken, now and in what was committed.
func (x *bench) state() string {
	root, height := x.tree.Root()
	var fresh []int
	for _, no := range x.s.Used() {
		if x.s.Fresh(no) {
			fresh = append(fresh, no)
		}
	}
	return fmt.Sprint(root, height, x.s.Used(), fresh, x.s.Room())
}

// key is the i-th of many keys of size bytes, which rise with i.
func key(i, size int) string {
	s := ""
	for range size {
		s = string([]byte{byte(i)}) + s
		i >>= 8
	}
	return s
}

// long is a key of 24 bytes whose first ones tell i.
func long(i int) string {
	return key(i, 2) + strings.Repeat("k", api.MaxKey-2)
}

// value is a value of size bytes that goes with i.
func value(i, size int) string {
	return strings.Repeat(string([]byte{byte('a' + i%26)}), size)
}

// The chapter's example.
func TestExample(t *testing.T) {
	x := laid(t, 16, 8)
	x.put("a", "1")
	if root, height := x.tree.Root(); root != 2 || height != 1 {
		t.Errorf("Root is %d, %d", root, height)
	}
	if val, ok, e := x.tree.Get([]byte("a")); string(val) != "1" || !ok || e != api.OK {
		t.Errorf("Get is %q, %v, %v", val, ok, e)
	}
	if n := x.node(2, 1); len(n.Keys) != 1 || string(n.Keys[0]) != "a" || string(n.Vals[0]) != "1" {
		t.Errorf("the leaf is %v", n)
	}
	x.told()
}

// P8.1: which trees New makes, and their roots.
func TestNew(t *testing.T) {
	for _, sectors := range []int{16, 100, api.MaxSectors} {
		x := laid(t, sectors, 8)
		for _, c := range []*cache.Cache{nil, x.c} {
			for _, s := range []*space.Space{nil, x.s} {
				for _, height := range []int{-1 << 62, -2, -1, 0, 1, 2, 11, 12, 13, 1 << 62} {
					for _, root := range []int{-1 << 62, -1, 0, 1, 2, sectors - 1, sectors, sectors + 1, 1 << 62} {
						may := c != nil && s != nil && height >= 0 && height <= 12 && root >= 0 && root <= sectors-1 && (root == 0) == (height == 0)
						newIs(t, c, s, root, height, may)
					}
				}
			}
		}
	}
}

// newIs holds New against whether there may be such a tree.
func newIs(t *testing.T, c *cache.Cache, s *space.Space, root, height int, may bool) {
	t.Helper()
	tr, e := tree.New(c, s, 5, root, height)
	if may != (tr != nil) || may != (e == api.OK) || !may && e != api.ErrArg {
		t.Fatalf("New(%v, %v, %d, %d) is %v, %v", c != nil, s != nil, root, height, tr, e)
	}
	if may {
		if r, h := tr.Root(); r != root || h != height {
			t.Fatalf("Root is %d, %d, not %d, %d", r, h, root, height)
		}
	}
}

// P8.1: New reads nothing: neither is a sector held then, nor was the device asked.
func TestNewReadsNothing(t *testing.T) {
	x := laid(t, 16, 8)
	x.d.Fail(api.FailRead, 0)
	for _, root := range []int{0, 1, 2, 15, 16} {
		tree.New(x.c, x.s, 0, root, min(root, 1))
	}
	if l := x.c.Held(); len(l) != 0 {
		t.Errorf("held are %v", l)
	}
	if _, e := x.c.Get(3); e != api.ErrIO {
		t.Errorf("the first Read is %v", e)
	}
}

// P8.1: a tree of height 0 has no page and no keys.
func TestNothing(t *testing.T) {
	x := laid(t, 16, 8)
	x.told()
	x.get("a")
	x.del("a")
	x.told()
}

// gens is how many of the tree's pages have which Gen.
func (x *bench) gens() map[uint64]int {
	x.t.Helper()
	m := map[uint64]int{}
	l, _ := x.shape(x.tree.Root())
	for _, no := range l {
		b, _ := x.c.Get(no)
		p, _ := page.Decode(no, b)
		m[p.Gen]++
	}
	return m
}

// P8.1: pages have the Gen that New or Begin told last; those that stay keep theirs.
func TestGens(t *testing.T) {
	x := laid(t, 100, 64)
	x.gen = 7
	x.open(0, 0)
	for i := range 30 {
		x.put(long(i), "v")
	}
	before := x.gens()
	if len(before) != 1 || before[7] < 3 || x.height() != 2 {
		t.Fatalf("of height %d, Gens are %v", x.height(), before)
	}
	x.gen = 1<<64 - 1
	x.tree.Begin(x.gen)
	if got := x.gens(); !maps.Equal(got, before) {
		t.Fatalf("behind Begin alone Gens are %v", got)
	}
	x.put(long(0), "w")
	if got := x.gens(); len(got) != 2 || got[1<<64-1] != 2 || got[7] != before[7]-2 {
		t.Errorf("behind a Put Gens are %v", got)
	}
	x.told()
}

// P8.2: a page whose Gen is above the tree's is ErrForm.
func TestGenAbove(t *testing.T) {
	x := laid(t, 100, 64)
	x.gen = 7
	x.tree.Begin(7)
	for i := range 30 {
		x.put(long(i), "v")
	}
	x.gen = 9
	x.tree.Begin(9)
	x.put(long(0), "w")
	// Now the root and the first leaf are of Gen 9, the other leaves of 7.
	for _, gen := range []uint64{0, 6, 7, 8} {
		x.tree.Begin(gen)
		x.errs(long(0), api.ErrForm, api.ErrForm)
		x.errs(long(29), api.ErrForm, api.ErrForm)
	}
	x.tree.Begin(9)
	x.told()
	x.put(long(29), "w")
	root, height := x.tree.Root()
	for gen, want := range map[uint64]api.Errno{8: api.ErrForm, 9: api.OK, 10: api.OK} {
		tr, _ := tree.New(x.c, x.s, gen, root, height)
		if _, _, e := tr.Get([]byte(long(29))); e != want {
			t.Errorf("Get in a tree of Gen %d is %v, not %v", gen, e, want)
		}
	}
}

// errs holds that calls that come to key's leaf answer want, with noughts, and change nothing; Check, which comes to all leaves, answers all.
func (x *bench) errs(key string, want, all api.Errno) {
	x.t.Helper()
	before := x.state()
	if val, ok, e := x.tree.Get([]byte(key)); len(val) != 0 || ok || e != want {
		x.t.Fatalf("Get(%q) is %q, %v, %v, not %v", key, val, ok, e, want)
	}
	if e := x.tree.Put([]byte(key), []byte("new")); e != want {
		x.t.Fatalf("Put(%q) is %v, not %v", key, e, want)
	}
	if ok, e := x.tree.Delete([]byte(key)); ok || e != want {
		x.t.Fatalf("Delete(%q) is %v, %v, not %v", key, ok, e, want)
	}
	if l, e := x.tree.Scan([]byte(key), []byte(key+"\x00"), 1); len(l) != 0 || e != want {
		x.t.Fatalf("Scan(%q) is %q, %v, not %v", key, l, e, want)
	}
	if l, e := x.tree.Scan(nil, nil, 1<<30); len(l) != 0 || e != all {
		x.t.Fatalf("Scan is %q, %v, not %v", l, e, all)
	}
	if l, keys, e := x.tree.Check(); len(l) != 0 || keys != 0 || e != all {
		x.t.Fatalf("Check is %v, %d, %v, not %v", l, keys, e, all)
	}
	if after := x.state(); after != before {
		x.t.Fatalf("behind errors there is %s, not %s", after, before)
	}
}

// P8.2, P8.3: which keys and values may be: keys of 1 to 24 bytes, values of up to 24; to Get others are just not there.
func TestWhatMayBe(t *testing.T) {
	for _, keys := range []int{0, 5, 200} {
		x := laid(t, 300, 8)
		for i := range keys {
			x.put(key(2*i+1, 3), "v")
		}
		for size := range 60 {
			k, may := strings.Repeat("k", size), size >= 1 && size <= 24
			before := x.state()
			for valSize := range 30 {
				v := value(1, valSize)
				if may && valSize <= 24 {
					x.put(k, v)
					x.get(k)
				} else if e := x.tree.Put([]byte(k), []byte(v)); e != api.ErrArg {
					t.Fatalf("Put of a key of %d bytes, a value of %d is %v", size, valSize, e)
				}
			}
			if may {
				x.del(k)
				x.del(k)
			} else if ok, e := x.tree.Delete([]byte(k)); ok || e != api.ErrArg {
				t.Fatalf("Delete of a key of %d bytes is %v, %v", size, ok, e)
			}
			if !may && x.state() != before {
				t.Fatalf("a key of %d bytes left %s of %s", size, x.state(), before)
			}
			x.get(k)
		}
		x.told()
	}
}

// P8.3: all bytes count, of keys and of values.
func TestBytes(t *testing.T) {
	x := laid(t, 300, 8)
	for b := range 256 {
		x.put(string([]byte{byte(b)}), string([]byte{byte(b), 0, byte(b)}))
		x.put(string([]byte{byte(b), 0}), "")
		x.put(string([]byte{0, byte(b)}), string([]byte{byte(255 - b)}))
	}
	x.told()
}

// P8.3: Put in place of a key that is there, with a value that is as long, shorter, longer, the same.
func TestPutAgain(t *testing.T) {
	for _, keys := range []int{1, 3, 40, 400} {
		x := laid(t, 600, 8)
		for _, size := range []int{3, 3, 0, 24, 24, 1} {
			for i := range keys {
				x.put(key(i*7, 3), value(i+size, size))
			}
			x.told()
		}
	}
}

// P8.3: Delete of a key that is there, of one that is not, of the last one.
func TestDelete(t *testing.T) {
	x := laid(t, 300, 8)
	for i := range 200 {
		x.put(key(2*i, 2), "v")
	}
	for i := range 200 {
		before := x.state()
		x.del(key(2*i+1, 2))
		x.del(key(2*i, 3))
		if after := x.state(); after != before {
			t.Fatalf("Delete of no key left %s of %s", after, before)
		}
	}
	x.told()
	for i := range 200 {
		x.del(key(2*i, 2))
		x.del(key(2*i, 2))
		x.sound()
	}
	if root, height := x.tree.Root(); root != 0 || height != 0 {
		t.Errorf("of no keys Root is %d, %d", root, height)
	}
	x.put("a", "1")
	x.told()
}

// orders are orders of n numbers.
func orders(n int) map[string][]int {
	rising := make([]int, n)
	for i := range rising {
		rising[i] = i
	}
	falling := slices.Clone(rising)
	slices.Reverse(falling)
	var outward []int
	for i := range rising {
		if i%2 == 0 {
			outward = append(outward, n/2+i/2)
		} else {
			outward = append(outward, n/2-(i+1)/2)
		}
	}
	return map[string][]int{"rising": rising, "falling": falling, "mixed": rand.New(rand.NewSource(int64(n))).Perm(n), "outward": outward}
}

// P8.3, P8.4, P8.7: keys put in each order and deleted in each other, up to some height and down to nothing: the tree is sound behind each call, and in the end no page is taken but those of the beginning.
func TestUpAndDown(t *testing.T) {
	kinds := []struct {
		keys, keySize, valSize, height int
	}{{3, 1, 0, 1}, {4, 24, 24, 1}, {12, 24, 24, 2}, {100, 24, 24, 3}, {300, 24, 24, 4}, {250, 1, 0, 2}, {500, 2, 0, 2}, {300, 24, 0, 3}}
	for _, kind := range kinds {
		for up, put := range orders(kind.keys) {
			for down, del := range orders(kind.keys) {
				if kind.keys > 250 && up != down && up != "mixed" {
					continue
				}
				x := laid(t, 500, 8)
				name := func(i int) string {
					return key(i, min(kind.keySize, 2)) + strings.Repeat("k", max(kind.keySize-2, 0))
				}
				high := 0
				for n, i := range put {
					x.put(name(i), value(i, kind.valSize))
					high = max(high, x.height())
					if n%40 == 0 {
						x.sound()
					}
				}
				x.told()
				for n, i := range del {
					x.del(name(i))
					if n%40 == 0 || len(x.model) < 12 {
						x.sound()
					}
				}
				if used := x.s.Used(); !slices.Equal(used, []int{0, 1}) || x.height() != 0 {
					t.Fatalf("%+v, %s, %s: in the end the height is %d, taken are %v", kind, up, down, x.height(), used)
				}
				if l := x.c.Held(); len(l) != 0 {
					t.Fatalf("in the end are held %v", l)
				}
				if high < kind.height {
					t.Fatalf("%+v, %s: no higher than %d", kind, up, high)
				}
			}
		}
	}
}

// grown is a tree of that height, of keys and values of 24 bytes.
func grown(t testing.TB, height int) *bench {
	t.Helper()
	x := laid(t, 1000, 64)
	for i := 0; x.height() < height; i++ {
		x.put(long(2*i), value(i, 24))
	}
	return x
}

// P8.3: with Room for 2 h + 3 pages all is done; with less Put is ErrFull, and so is Delete, but of no such key.
func TestRoom(t *testing.T) {
	for height := range 6 {
		x := grown(t, height)
		for _, key := range []string{long(0), long(1), long(6), long(9999), long(0)} {
			need := 2*x.height() + 3
			for _, room := range []int{0, 1, need - 2, need - 1, need, need + 1, 50} {
				x.leave(room)
				x.calls(key, room >= need)
				need = 2*x.height() + 3
			}
			x.sound()
		}
	}
}

// calls puts key, or deletes it, where there is room or not.
func (x *bench) calls(key string, room bool) {
	x.t.Helper()
	_, there := x.model[key]
	before := x.state()
	switch {
	case room && there:
		x.del(key)
	case room:
		x.put(key, "new")
	default:
		if e := x.tree.Put([]byte(key), []byte("new")); e != api.ErrFull {
			x.t.Fatalf("with Room for %d Put is %v", x.s.Room(), e)
		}
		want := api.OK
		if there {
			want = api.ErrFull
		}
		if ok, e := x.tree.Delete([]byte(key)); ok || e != want {
			x.t.Fatalf("with Room for %d Delete is %v, %v, not %v", x.s.Room(), ok, e, want)
		}
		if after := x.state(); after != before {
			x.t.Fatalf("behind errors there is %s, not %s", after, before)
		}
	}
}

// P8.3: Room for 2 h + 3 pages is always enough.
func TestRoomEnough(t *testing.T) {
	r := rand.New(rand.NewSource(8))
	for round := range 12 {
		x := laid(t, 900, 8)
		for i := range 1200 {
			k := key(r.Intn(400), 2) + strings.Repeat("k", r.Intn(1+22*(round%2)))
			x.leave(2*x.height() + 3)
			if r.Intn(1200) > i {
				x.put(k, value(i, r.Intn(25)))
			} else {
				x.del(slices.Sorted(maps.Keys(x.model))[r.Intn(len(x.model))])
			}
			if len(x.model) == 0 {
				break
			}
			if i%4 == 3 {
				x.commit()
			}
		}
		x.sound()
	}
}

// P8.3: a page 0 that the space gives is no root, as that says that there is no page; the Room that is asked for is enough without it.
func TestPageZero(t *testing.T) {
	x := laid(t, 32, 8)
	x.s, _ = space.New(32, 0)
	x.open(0, 0)
	for i := range 20 {
		x.leave(2*x.height() + 3)
		x.put(long(i), "v")
		if root, height := x.tree.Root(); root == 0 || height == 0 || x.s.Taken(0) && !slices.Contains(x.ballast, 0) {
			t.Fatalf("Root is %d, %d, page 0 is taken: %v", root, height, x.s.Taken(0))
		}
		if _, _, e := x.tree.Check(); e != api.OK {
			t.Fatal(e)
		}
	}
	for i := range 20 {
		x.get(long(i))
	}
}

// P8.3: nor is page 0 a node's where the space gives it first; it is not taken then, behind an error either.
func TestPageZeroFirst(t *testing.T) {
	for pages := 1; pages <= 32; pages++ {
		x := laid(t, 32, 8)
		x.s, _ = space.New(pages, 0)
		x.open(0, 0)
		for i := range 40 {
			before, full := x.state(), x.s.Room() < 2*x.height()+3
			x.d.Fail(api.FailWrite, i%3)
			e := x.tree.Put([]byte(long(i)), []byte("v"))
			x.d.Fail(api.FailWrite, 1<<30)
			root, height := x.tree.Root()
			if (e == api.ErrFull) != full || e != api.OK && x.state() != before || (root == 0) != (height == 0) || x.s.Taken(0) {
				t.Fatalf("Put is %v, Root is %d, %d; there is %s, and was %s", e, root, height, x.state(), before)
			}
			if e == api.OK {
				x.model[long(i)] = "v"
			}
			if l, keys, e := x.tree.Check(); !slices.Equal(l, x.s.Used()) || keys != len(x.model) || e != api.OK {
				t.Fatalf("Check is %v, %d, %v; taken are %v", l, keys, e, x.s.Used())
			}
		}
	}
}

// P8.3: which error comes first, and what comes ahead of it.
func TestFirstError(t *testing.T) {
	tooLong := strings.Repeat("k", 25)
	for _, room := range []int{0, 2*2 + 2, 100} {
		x := grown(t, 2)
		x.again(64)
		root, _ := x.tree.Root()
		kids := x.node(root, 2).Kids
		// The last leaf is spoilt; nothing else is.
		x.d.Spoil(kids[len(kids)-1], 30, 1)
		there, none, bad := long(0), long(1), long(9998)
		full, first := api.ErrFull, api.ErrFull
		if room == 100 {
			full, first = api.OK, api.ErrSum
		}
		x.leave(room)
		before := x.state()
		x.putIs("", "", api.ErrArg)
		x.putIs(tooLong, "", api.ErrArg)
		x.putIs(bad+"k", "", api.ErrArg)
		x.putIs(bad, tooLong, api.ErrArg)
		x.putIs(there, tooLong, api.ErrArg)
		x.putIs(bad, "", first)
		x.deleteIs("", false, api.ErrArg)
		x.deleteIs(tooLong, false, api.ErrArg)
		x.deleteIs(bad+"k", false, api.ErrArg)
		x.deleteIs(bad, false, api.ErrSum)
		x.deleteIs(none, false, api.OK)
		if after := x.state(); after != before {
			t.Fatalf("there is %s, not %s", after, before)
		}
		x.putIs(there, "new", full)
		x.leave(room)
		x.deleteIs(there, full == api.OK, full)
	}
}

// putIs holds what Put errs against want.
func (x *bench) putIs(key, val string, want api.Errno) {
	x.t.Helper()
	if e := x.tree.Put([]byte(key), []byte(val)); e != want {
		x.t.Fatalf("Put(%q, %q) is %v, not %v", key, val, e, want)
	}
}

// deleteIs holds what Delete tells against want.
func (x *bench) deleteIs(key string, want bool, e api.Errno) {
	x.t.Helper()
	if ok, err := x.tree.Delete([]byte(key)); ok != want || err != e {
		x.t.Fatalf("Delete(%q) is %v, %v, not %v, %v", key, ok, err, want, e)
	}
}
