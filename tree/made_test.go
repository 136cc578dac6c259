package tree_test

import (
	"bytes"
	"slices"
	"testing"

	"stanchion/api"
	"stanchion/node"
	"stanchion/page"
)

// leaf is a leaf of these keys, each with the value v.
func leaf(keys ...string) api.Node {
	n := api.Node{Leaf: true}
	for _, key := range keys {
		n.Keys = append(n.Keys, []byte(key))
		n.Vals = append(n.Vals, []byte("v"))
	}
	return n
}

// inner is a node of these kids, with these keys between them.
func inner(kids []int, keys ...string) api.Node {
	n := api.Node{Kids: slices.Clone(kids)}
	for _, key := range keys {
		n.Keys = append(n.Keys, []byte(key))
	}
	return n
}

// write puts p into page no, past the tree.
func (x *bench) write(no int, p api.Page) {
	x.t.Helper()
	b, e := page.Encode(no, p)
	if e != api.OK {
		x.t.Fatal(e)
	}
	if e := x.c.Put(no, b); e != api.OK {
		x.t.Fatal(e)
	}
}

// lay puts n into page no, of Gen 1, past the tree, and its pairs into the model.
func (x *bench) lay(no int, n api.Node) {
	x.t.Helper()
	body, e := node.Encode(n)
	if e != api.OK {
		x.t.Fatal(e)
	}
	kind := api.PageInner
	if n.Leaf {
		kind = api.PageLeaf
	}
	x.write(no, api.Page{Kind: kind, Gen: 1, Body: body})
	for i := range n.Vals {
		x.model[string(n.Keys[i])] = string(n.Vals[i])
	}
}

// add is the page of n, which the space gives.
func (x *bench) add(n api.Node) int {
	x.t.Helper()
	no, e := x.s.Alloc()
	if e != api.OK {
		x.t.Fatal(e)
	}
	x.lay(no, n)
	return no
}

// adds is the pages of all these.
func (x *bench) adds(l ...api.Node) []int {
	var nos []int
	for _, n := range l {
		nos = append(nos, x.add(n))
	}
	return nos
}

// is holds what the tree tells, and its shape, against the model; a tree that was made by hand may have more pages than keys.
func (x *bench) is() {
	x.t.Helper()
	x.tells()
	x.holds()
}

// stretched is a tree of height 2 whose root is all but full, with the key of one byte ahead of the kid at: the kids ahead of it, and it, have long keys, so that where they are put together and parted again a longer one comes between them.
func stretched(t *testing.T, at int) *bench {
	x := laid(t, 100, 64)
	var kids []int
	var keys []string
	for i := range 10 {
		first := string([]byte{byte('a' + i)})
		var l []string
		for j := range 4 {
			l = append(l, first+long(j)[1:])
		}
		if i == at-1 {
			l = l[:2]
		}
		n := leaf(l...)
		for j := range n.Vals {
			n.Vals[j] = bytes.Repeat([]byte("v"), 24)
		}
		kids = append(kids, x.add(n))
		if i == at {
			keys = append(keys, first)
		} else if i > 0 {
			keys = append(keys, l[0])
		}
	}
	x.open(x.add(inner(kids, keys...)), 2)
	if n := x.node(kids[9]+1, 2); node.Size(n) > api.MaxBody || node.Size(n)+23 <= api.MaxBody {
		t.Fatalf("the root has %d bytes", node.Size(n))
	}
	x.is()
	return x
}

// P8.3: a key between two nodes that is longer than the one whose place it takes, where there is no room for it in the node above: that is parted, and so the tree may grow at a Delete, and at a Put in place of a longer value.
func TestLongerKeyBetween(t *testing.T) {
	for at := 1; at < 10; at++ {
		first := string([]byte{byte('a' + at - 1)}) + long(0)[1:]
		x := stretched(t, at)
		x.leave(2*2 + 3)
		x.del(first)
		x.is()
		if at == 1 && x.height() != 3 {
			t.Errorf("behind a Delete the height is %d", x.height())
		}
		x = stretched(t, at)
		x.leave(2*2 + 3)
		x.put(first, "")
		x.leave(2*x.height() + 3)
		x.put(first[:1]+long(1)[1:], "")
		x.is()
		if at == 1 && x.height() != 3 {
			t.Errorf("behind Puts the height is %d", x.height())
		}
	}
}

// empty is the page of a tree of that height without keys, below which each node has a key of its own behind long(i), and ahead of the next one.
func (x *bench) empty(height, i int) int {
	x.t.Helper()
	count := 0
	var lay func(height int) int
	lay = func(height int) int {
		if height == 1 {
			return x.add(leaf())
		}
		first := lay(height - 1)
		count++
		between := long(i)[:2] + "l" + string([]byte{byte(count)})
		return x.add(inner([]int{first, lay(height - 1)}, between))
	}
	return lay(height)
}

// full is a tree of that height in which each node on the way to the keys around long(500) has as many cells of long keys as there is room for; all other leaves are empty.
func full(t *testing.T, height int) *bench {
	t.Helper()
	x := laid(t, 700, 64)
	n := leaf(long(497), long(498), long(501), long(502))
	for i := range n.Vals {
		n.Vals[i] = bytes.Repeat([]byte("v"), 24)
	}
	way := x.add(n)
	for h := 1; h < height; h++ {
		ahead, behind := 400-10*h, 600+10*h
		kids := []int{x.empty(h, ahead-1), x.empty(h, ahead), x.empty(h, ahead+1), x.empty(h, ahead+2), way}
		keys := []string{long(ahead), long(ahead + 1), long(ahead + 2), long(ahead + 3)}
		for i := range 4 {
			kids = append(kids, x.empty(h, behind+i))
			keys = append(keys, long(behind+i))
		}
		way = x.add(inner(kids, keys...))
	}
	x.open(way, height)
	x.is()
	return x
}

// P8.3: where each node on the way is parted, Room for 2 h + 3 pages is enough still.
func TestAllParted(t *testing.T) {
	for height := 1; height <= 6; height++ {
		x := full(t, height)
		x.leave(2*height + 3)
		x.put(long(500), value(1, 24))
		x.is()
		if x.height() != height+1 {
			t.Errorf("of height %d comes %d", height, x.height())
		}
	}
}

// P8.3: a tree that was made by hand may have nodes with a key alone, and leaves with none; it is a map like any other.
func TestFewKeys(t *testing.T) {
	for height := 1; height <= 6; height++ {
		x := laid(t, 300, 64)
		x.open(x.empty(height, 500), height)
		x.is()
		between := func(i, j int) string {
			return long(i)[:2] + "l" + string([]byte{byte(j)}) + "k"
		}
		for _, put := range []bool{true, false, true} {
			for j := range 32 {
				x.leave(2*x.height() + 3)
				if put {
					x.put(between(500, 31-j), "v")
				} else {
					x.del(between(500, j))
				}
				x.is()
			}
		}
	}
}

// P8.3: two leaves of which just one has a key: where that goes none is left.
func TestLastKeyOfTwoLeaves(t *testing.T) {
	for at := range 2 {
		x := laid(t, 16, 8)
		leaves := []api.Node{leaf(), leaf()}
		k := []string{"a", "n"}[at]
		leaves[at] = leaf(k)
		x.open(x.add(inner(x.adds(leaves...), "m")), 2)
		x.is()
		x.del(k)
		x.told()
	}
}

// P8.3: a page of the tree that is not taken may be given to the tree itself; then it is the tree's, and stays.
func TestNotTakenGivenAgain(t *testing.T) {
	for height := 1; height <= 2; height++ {
		for _, put := range []bool{true, false} {
			x := laid(t, 100, 64)
			x.lay(2, leaf("a", "b"))
			x.lay(3, leaf("n", "o"))
			x.lay(4, inner([]int{2, 3}, "m"))
			root := 4
			if height == 1 {
				root, x.model = 2, map[string]string{"a": "v", "b": "v"}
			}
			x.open(root, height)
			x.checks(api.ErrForm)
			if put {
				x.put("c", "v")
			} else {
				x.del("a")
			}
			for key := range x.model {
				x.get(key)
			}
			if root, _ := x.tree.Root(); !x.s.Taken(root) {
				t.Errorf("page %d, the root, is not taken", root)
			}
		}
	}
}

// P8.3: of a tree whose keys do not lie where they should no page errs; low nodes that so can't be put together stay apart, and the change is done.
func TestApart(t *testing.T) {
	for _, key := range []string{"e", "h"} {
		x := broken(t, leaf("a", "z"), leaf("d", "e"), leaf("b", "h"), "d", "f")
		x.checks(api.ErrForm)
		taken := len(x.s.Used())
		x.deleteIs(key, true, api.OK)
		x.putIs(key+"k", "w", api.OK)
		if l := x.s.Used(); len(l) != taken {
			t.Errorf("taken are %v, and were %d", l, taken)
		}
		if val, ok, e := x.tree.Get([]byte(key + "k")); string(val) != "w" || !ok || e != api.OK {
			t.Errorf("Get is %q, %v, %v", val, ok, e)
		}
		x.deleteIs(key, false, api.OK)
		x.checks(api.ErrForm)
	}
	// Of height 3, where the keys of two nodes are the wrong way round.
	x := deep(t, [4]api.Node{leaf("a"), leaf(), leaf("g"), leaf("k")}, "h", "g", "k")
	x.deleteIs("a", true, api.OK)
	x.putIs("b", "w", api.OK)
	if val, ok, e := x.tree.Get([]byte("b")); string(val) != "w" || !ok || e != api.OK {
		t.Errorf("Get is %q, %v, %v", val, ok, e)
	}
}
