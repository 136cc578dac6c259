package tree_test

import (
	"fmt"
	"slices"
	"strings"
	"testing"

	"stanchion/api"
	"stanchion/node"
	"stanchion/page"
	"stanchion/tree"
)

// few is a tree of that height over eight frames, half of it written and half dirty, some of its pages committed.
func few(t *testing.T, height int) *bench {
	t.Helper()
	x := laid(t, 500, 8)
	for i := 0; x.height() < height; i++ {
		x.put(long(2*i), value(i, 24))
		if i%7 == 0 {
			x.s.Commit()
		}
	}
	return x
}

// fails lets the call of that kind that comes behind so many fail, makes the call, and tells whether it failed. If it did, nothing has changed, and all is told and done once the device works again.
func (x *bench) fails(what, after int, call func() (bool, api.Errno), done func()) bool {
	x.t.Helper()
	before := x.state()
	x.d.Fail(what, after)
	ok, e := call()
	// A Fail that was not come to is forgotten.
	x.d.Fail(what, 1<<30)
	if e == api.OK {
		return false
	}
	if e != api.ErrIO || ok {
		x.t.Fatalf("the call is %v, %v", ok, e)
	}
	if after := x.state(); after != before {
		x.t.Fatalf("behind an error there is %s, not %s", after, before)
	}
	x.told()
	done()
	x.told()
	return true
}

// P8.3: the device fails each Read, Write and Flush of a call in turn.
func TestFailures(t *testing.T) {
	for height := range 5 {
		reads, writes := 0, 0
		for _, key := range []string{long(0), long(1), long(2), long(50), long(9999)} {
			for what := api.FailRead; what <= api.FailFlush; what++ {
				puts, deletes := 0, 0
				for failed := true; failed; puts++ {
					x := few(t, height)
					failed = x.fails(what, puts, func() (bool, api.Errno) {
						return false, x.tree.Put([]byte(key), []byte("new"))
					}, func() { x.put(key, "new") })
				}
				for failed := true; failed; deletes++ {
					x := few(t, height)
					failed = x.fails(what, deletes, func() (bool, api.Errno) {
						return x.tree.Delete([]byte(key))
					}, func() { x.del(key) })
				}
				switch what {
				case api.FailRead:
					reads += puts + deletes - 2
				case api.FailWrite:
					writes += puts + deletes - 2
				case api.FailFlush:
					if puts+deletes > 2 {
						t.Errorf("a change of height %d flushes", height)
					}
				}
			}
		}
		if height >= 3 && (reads < 8 || writes < 8) {
			t.Errorf("at height %d just %d Reads and %d Writes failed", height, reads, writes)
		}
	}
}

// P8.2, P8.5, P8.6: the device fails each Read of a call that tells, in turn.
func TestFailuresToRead(t *testing.T) {
	for height := 1; height <= 3; height++ {
		made := few(t, height)
		made.again(8)
		calls := map[string]func() (bool, api.Errno){
			"Get": func() (bool, api.Errno) {
				val, ok, e := made.tree.Get([]byte(long(2)))
				return ok || len(val) > 0, e
			},
			"Scan": func() (bool, api.Errno) {
				l, e := made.tree.Scan(nil, nil, 1<<30)
				return len(l) > 0, e
			},
			"Check": func() (bool, api.Errno) {
				l, keys, e := made.tree.Check()
				return len(l) > 0 || keys > 0, e
			},
		}
		for name, call := range calls {
			reads := 0
			for failed := true; failed; reads++ {
				made.again(8)
				failed = made.fails(api.FailRead, reads, call, func() {})
			}
			if reads-1 < height {
				t.Errorf("%s of height %d reads %d pages", name, height, reads-1)
			}
		}
	}
}

// P8.3: a call that fails where it puts leaves no page that it took behind, neither taken nor held.
func TestNothingLeftBehind(t *testing.T) {
	x := laid(t, 500, 8)
	for i := range 100 {
		x.put(long(2*i), value(i, 24))
	}
	failed := 0
	for what := api.FailRead; what <= api.FailWrite; what++ {
		for i := range 60 {
			key := long(2*i + 1)
			x.d.Fail(what, i%4)
			e := x.tree.Put([]byte(key), []byte("new"))
			x.d.Fail(what, 1<<30)
			if e == api.OK {
				x.model[key] = "new"
				continue
			}
			failed++
			for _, no := range x.c.Held() {
				if !x.s.Taken(no) {
					t.Fatalf("page %d is held, but not taken", no)
				}
			}
			x.sound()
		}
	}
	if failed < 20 {
		t.Errorf("just %d calls failed", failed)
	}
}

// P8.3: with all frames pinned nothing can be read or put, and nothing changes.
func TestBusy(t *testing.T) {
	x := few(t, 3)
	x.again(8)
	x.c.Get(0)
	for no := range 8 {
		x.c.Get(100 + no)
	}
	pinned := x.c.Held()
	for _, no := range pinned {
		x.c.Pin(no)
	}
	x.errs(long(0), api.ErrBusy, api.ErrBusy)
	for _, no := range pinned {
		x.c.Unpin(no)
	}
	x.told()
}

// fault is what may be wrong with a page: what it does to the bytes of page no, in which a node n of Gen 1 is, and what a page of these bytes errs.
type fault struct {
	name string
	e    api.Errno
	do   func(b []byte, no int, n api.Node) []byte
}

// encoded is the bytes of a page no of n.
func encoded(no, kind int, gen uint64, body []byte) []byte {
	b, _ := page.Encode(no, api.Page{Kind: kind, Gen: gen, Body: body})
	return b
}

// changed is b with the byte at at put together with by.
func changed(b []byte, at int, by byte) []byte {
	b = slices.Clone(b)
	b[at] ^= by
	return b
}

// kindOf is the kind of page in which n should be.
func kindOf(n api.Node) int {
	if n.Leaf {
		return api.PageLeaf
	}
	return api.PageInner
}

// faults is what may be wrong with a page.
func faults() []fault {
	bytesOf := func(n api.Node) []byte {
		b, _ := node.Encode(n)
		return b
	}
	l := []fault{
		{"its body is spoilt", api.ErrSum, func(b []byte, no int, n api.Node) []byte { return changed(b, api.HeadSize+1, 1) }},
		{"its sum is spoilt", api.ErrSum, func(b []byte, no int, n api.Node) []byte { return changed(b, 20, 0x80) }},
		{"its Gen is spoilt", api.ErrSum, func(b []byte, no int, n api.Node) []byte { return changed(b, 19, 1) }},
		{"it begins otherwise", api.ErrForm, func(b []byte, no int, n api.Node) []byte { return changed(b, 0, 1) }},
		{"its version is another one", api.ErrVersion, func(b []byte, no int, n api.Node) []byte { return changed(b, 4, 3) }},
		{"it has bytes 0 alone", api.ErrForm, func(b []byte, no int, n api.Node) []byte { return make([]byte, api.Sector) }},
		{"it is another page", api.ErrArg, func(b []byte, no int, n api.Node) []byte { return encoded(no+1, kindOf(n), 1, bytesOf(n)) }},
		{"its Gen is one too great", api.ErrForm, func(b []byte, no int, n api.Node) []byte { return encoded(no, kindOf(n), 2, bytesOf(n)) }},
		{"its Gen is the greatest", api.ErrForm, func(b []byte, no int, n api.Node) []byte { return encoded(no, kindOf(n), 1<<64-1, bytesOf(n)) }},
		{"its body is longer", api.ErrForm, func(b []byte, no int, n api.Node) []byte { return encoded(no, kindOf(n), 1, append(bytesOf(n), 0)) }},
		{"its body is shorter", api.ErrForm, func(b []byte, no int, n api.Node) []byte {
			return encoded(no, kindOf(n), 1, bytesOf(n)[:len(bytesOf(n))-1])
		}},
		{"it has no body", api.ErrForm, func(b []byte, no int, n api.Node) []byte { return encoded(no, kindOf(n), 1, nil) }},
		{"it is a leaf, or none, where that should not be", api.ErrForm, func(b []byte, no int, n api.Node) []byte {
			if n.Leaf {
				return encoded(no, api.PageInner, 1, bytesOf(inner([]int{no, no + 1}, "m")))
			}
			return encoded(no, api.PageLeaf, 1, bytesOf(leaf("a", "m")))
		}},
		{"it has the body of the other kind", api.ErrForm, func(b []byte, no int, n api.Node) []byte {
			if n.Leaf {
				return encoded(no, api.PageLeaf, 1, bytesOf(inner([]int{no, no + 1}, "m")))
			}
			return encoded(no, api.PageInner, 1, bytesOf(leaf("a", "m")))
		}},
	}
	for kind := api.PageLeaf; kind <= api.PageMap; kind++ {
		l = append(l, fault{fmt.Sprint("it is of kind ", kind), api.ErrForm, func(b []byte, no int, n api.Node) []byte {
			if kind == kindOf(n) {
				return changed(b, 1, 1)
			}
			return encoded(no, kind, 1, bytesOf(n))
		}})
	}
	return l
}

// P8.2, P8.3, P8.5, P8.6: a page that is none, at the root, between, and in a leaf.
func TestFaults(t *testing.T) {
	for height := 1; height <= 4; height++ {
		for at := height; at >= 1; at-- {
			for _, f := range faults() {
				x := grown(t, height)
				x.again(64)
				// The way to key comes to page no at the height at.
				key := long(0)
				no, h := x.tree.Root()
				for ; h > at; h-- {
					no = x.node(no, h).Kids[0]
				}
				n := x.node(no, h)
				good, e := x.d.Read(no)
				if e != api.OK {
					t.Fatal(e)
				}
				x.d.Write(no, f.do(good, no, n))
				x.again(64)
				x.errs(key, f.e, f.e)
				if at < height {
					x.get(slices.Max(keysOf(x)))
				}
				x.d.Write(no, good)
				x.again(64)
				x.told()
			}
		}
	}
}

// keysOf is the keys of the model.
func keysOf(x *bench) []string {
	var l []string
	for key := range x.model {
		l = append(l, key)
	}
	return l
}

// P8.2, P8.3: a kid that is no sector is what the cache errs.
func TestNoSector(t *testing.T) {
	x := laid(t, 100, 64)
	kids := x.adds(leaf("a"), leaf("n"))
	x.open(x.add(inner([]int{kids[0], 100}, "m")), 2)
	x.errs("n", api.ErrArg, api.ErrArg)
	x.get("a")
	if l, e := x.tree.Scan(nil, []byte("m"), 9); len(l) != 1 || e != api.OK {
		t.Errorf("Scan of what is there is %q, %v", l, e)
	}
}

// P8.3: the pages that a change reads beside the way to its key err, too, ahead of a want of room.
func TestSiblingErrs(t *testing.T) {
	for _, room := range []int{0, 50} {
		x := laid(t, 100, 64)
		kids := x.adds(leaf("a", "b", "c"), leaf("n"))
		x.open(x.add(inner(kids, "m")), 2)
		x.again(64)
		x.d.Spoil(kids[1], 40, 1)
		x.leave(room)
		before := x.state()
		x.deleteIs("a", false, api.ErrSum)
		x.deleteIs("d", false, api.OK)
		if after := x.state(); after != before {
			t.Errorf("there is %s, not %s", after, before)
		}
	}
}

// P8.3: a page that the space gives, but the device has not, is what the cache errs; what was taken is given back.
func TestSpaceBeyondDevice(t *testing.T) {
	x := laid(t, 16, 16)
	s := laid(t, 40, 8).s
	x.s = s
	x.open(0, 0)
	var l []string
	for i := range 40 {
		before := x.state()
		e := x.tree.Put([]byte(long(i)), []byte(strings.Repeat("v", 24)))
		if e == api.OK {
			l = append(l, long(i))
			continue
		}
		if e != api.ErrArg || x.state() != before {
			t.Fatalf("Put is %v, there is %s, not %s", e, x.state(), before)
		}
	}
	if len(l) < 10 || len(l) == 40 {
		t.Errorf("%d Puts were done", len(l))
	}
	for _, key := range l {
		if _, ok, e := x.tree.Get([]byte(key)); !ok || e != api.OK {
			t.Errorf("Get(%q) is %v, %v", key, ok, e)
		}
	}
}

// broken is a tree of three leaves below a root, which are in the pages 2 to 4, and 5.
func broken(t *testing.T, a, b, c api.Node, keys ...string) *bench {
	t.Helper()
	x := laid(t, 100, 64)
	x.open(x.add(inner(x.adds(a, b, c), keys...)), 2)
	return x
}

// checks holds what Check errs against want; pages and keys are none then.
func (x *bench) checks(want api.Errno) {
	x.t.Helper()
	if l, keys, e := x.tree.Check(); len(l) != 0 || keys != 0 || e != want {
		x.t.Fatalf("Check is %v, %d, %v, not %v", l, keys, e, want)
	}
}

// P8.6: keys that do not lie where they should.
func TestCheckKeys(t *testing.T) {
	good := broken(t, leaf("a", "b"), leaf("d", "e"), leaf("g", "h"), "d", "f")
	good.is()
	good = broken(t, leaf("a", "b"), leaf(), leaf("f"), "c", "f")
	good.is()
	good = broken(t, leaf(), leaf(), leaf(), "c", "f")
	good.is()
	for _, x := range []*bench{
		broken(t, leaf("a", "d"), leaf("d", "e"), leaf("g", "h"), "d", "f"),
		broken(t, leaf("a", "z"), leaf("d", "e"), leaf("g", "h"), "d", "f"),
		broken(t, leaf("d"), leaf("d", "e"), leaf("g", "h"), "d", "f"),
		broken(t, leaf("a", "b"), leaf("c", "e"), leaf("g", "h"), "d", "f"),
		broken(t, leaf("a", "b"), leaf("d", "f"), leaf("g", "h"), "d", "f"),
		broken(t, leaf("a", "b"), leaf("f"), leaf("g", "h"), "d", "f"),
		broken(t, leaf("a", "b"), leaf("d", "e"), leaf("a", "h"), "d", "f"),
		broken(t, leaf("a", "b"), leaf("d", "e"), leaf("e\xff\xff", "h"), "d", "f"),
	} {
		x.checks(api.ErrForm)
	}
}

// deep is a tree of height 3, of four leaves, keys between each two.
func deep(t *testing.T, leaves [4]api.Node, left, between, right string) *bench {
	t.Helper()
	x := laid(t, 100, 64)
	kids := x.adds(leaves[:]...)
	above := x.adds(inner(kids[:2], left), inner(kids[2:], right))
	x.open(x.add(inner(above, between)), 3)
	return x
}

// P8.6: keys that lie where the node above them says, but not where one further up does.
func TestCheckKeysDeep(t *testing.T) {
	deep(t, [4]api.Node{leaf("a"), leaf("d"), leaf("g"), leaf("k")}, "d", "g", "k").is()
	deep(t, [4]api.Node{leaf(), leaf("d"), leaf("g", "j"), leaf()}, "c", "f", "k").is()
	for _, x := range []*bench{
		deep(t, [4]api.Node{leaf("a"), leaf("d", "g"), leaf("g"), leaf("k")}, "d", "g", "k"),
		deep(t, [4]api.Node{leaf("a"), leaf("d", "z"), leaf("g"), leaf("k")}, "d", "g", "k"),
		deep(t, [4]api.Node{leaf("a"), leaf("d"), leaf("f", "g"), leaf("k")}, "d", "g", "k"),
		deep(t, [4]api.Node{leaf("a"), leaf("d"), leaf("a"), leaf("k")}, "d", "g", "k"),
		deep(t, [4]api.Node{leaf("a"), leaf("h"), leaf("g"), leaf("k")}, "h", "g", "k"),
		deep(t, [4]api.Node{leaf("a"), leaf(), leaf("g"), leaf("k")}, "h", "g", "k"),
		deep(t, [4]api.Node{leaf("a"), leaf("d"), leaf(), leaf("k")}, "d", "g", "e"),
	} {
		x.checks(api.ErrForm)
	}
}

// P8.6: a page that is there twice.
func TestCheckTwice(t *testing.T) {
	x := laid(t, 100, 64)
	kids := x.adds(leaf(), leaf("d"), leaf("g"))
	x.open(x.add(inner([]int{kids[0], kids[1], kids[0]}, "d", "f")), 2)
	x.checks(api.ErrForm)
	if l, e := x.tree.Scan(nil, nil, 9); len(l) != 0 || e != api.ErrForm {
		t.Errorf("Scan is %q, %v", l, e)
	}
	x.open(x.add(inner([]int{kids[1], kids[1]}, "d")), 2)
	x.checks(api.ErrForm)
	// A node is its own kid, at a height where it may be, and where it may not.
	no, _ := x.s.Alloc()
	x.lay(no, inner([]int{no, no}, "d"))
	for height := 1; height <= 12; height++ {
		x.open(no, height)
		x.checks(api.ErrForm)
	}
}

// P8.6: a page that is not taken: a leaf, one between, the root.
func TestCheckNotTaken(t *testing.T) {
	x := deep(t, [4]api.Node{leaf("a"), leaf("d"), leaf("g"), leaf("k")}, "d", "g", "k")
	pages, _ := x.shape(x.tree.Root())
	for _, no := range pages {
		x.is()
		x.s.Commit()
		x.s.Free(no)
		x.checks(api.ErrForm)
		x.s.Abort()
	}
	x.is()
	// The cache has it, but the space has no such page.
	y := laid(t, 16, 8)
	y.d, y.c = x.d, x.c
	root, height := x.tree.Root()
	y.write(50, api.Page{Kind: api.PageLeaf, Gen: 1, Body: []byte{0}})
	y.open(50, 1)
	y.checks(api.ErrForm)
	tr, _ := tree.New(x.c, y.s, 1, root, height)
	if _, _, e := tr.Check(); e != api.ErrForm {
		t.Errorf("Check is %v", e)
	}
}

// P8.6: of a height that is not its own.
func TestCheckHeight(t *testing.T) {
	for height := 1; height <= 4; height++ {
		x := grown(t, height)
		root, _ := x.tree.Root()
		for h := 1; h <= 12; h++ {
			x.open(root, h)
			if h != height {
				x.checks(api.ErrForm)
				x.errs(long(0), api.ErrForm, api.ErrForm)
			}
		}
		x.open(root, height)
		x.told()
	}
}

// P8.6: what a page errs comes ahead of what is wrong with the tree, wherever either is.
func TestCheckFirst(t *testing.T) {
	for _, wrong := range []int{0, 2} {
		leaves := [3]api.Node{leaf("b"), leaf("d"), leaf("g")}
		leaves[wrong] = leaf("e")
		x := broken(t, leaves[0], leaves[1], leaves[2], "d", "f")
		x.checks(api.ErrForm)
		x.again(64)
		x.d.Spoil(2+2-wrong, 50, 1)
		x.checks(api.ErrSum)
		x.again(64)
		x.d.Fail(api.FailRead, 1+2-wrong)
		x.checks(api.ErrIO)
		// Not taken, wrong, and a page of it can't be read.
		x.s.Free(2)
		x.checks(api.ErrSum)
		x.s.Free(5)
		x.checks(api.ErrSum)
	}
	// A page that is there twice, or itself, ahead of one that errs.
	x := laid(t, 100, 64)
	kids := x.adds(leaf(), leaf("d"))
	x.open(x.add(inner([]int{kids[0], kids[0], kids[1], 99}, "d", "f", "g")), 2)
	x.checks(api.ErrForm)
	x.write(99, api.Page{Kind: api.PageLeaf, Gen: 1, Body: []byte{0}})
	x.again(64)
	x.d.Spoil(99, 4, 1)
	x.checks(api.ErrVersion)
	// Of two pages that err the one that is come to first.
	x.again(64)
	x.d.Spoil(kids[0], 25, 1)
	x.checks(api.ErrSum)
}

// P8.6: Check changes nothing, and tells pages by number, however they lie.
func TestCheckTells(t *testing.T) {
	x := laid(t, 100, 64)
	for _, no := range []int{90, 7, 33, 8} {
		for !x.s.Taken(no) {
			x.s.Alloc()
		}
	}
	x.lay(90, leaf("a", "b"))
	x.lay(7, leaf("d"))
	x.lay(33, leaf("g"))
	x.lay(8, inner([]int{90, 7, 33}, "d", "g"))
	x.open(8, 2)
	before := x.state()
	for range 2 {
		if l, keys, e := x.tree.Check(); !slices.Equal(l, []int{7, 8, 33, 90}) || keys != 4 || e != api.OK {
			t.Errorf("Check is %v, %d, %v", l, keys, e)
		}
	}
	if x.state() != before {
		t.Errorf("there is %s, not %s", x.state(), before)
	}
}
