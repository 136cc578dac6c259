package fsck_test

import (
	"fmt"
	"math"
	"testing"

	"stanchion/api"
)

// found is a look at a disk whose newest superblock is in sector 0, of generation 8, and whose other one is empty.
func found(pages, keys, lost, wild, bad int) api.Look {
	return api.Look{Super: [2]int{api.SuperGood, api.SuperEmpty}, Gen: [2]uint64{8, 0}, Pages: pages, Keys: keys, Lost: lost, Wild: wild, Bad: bad}
}

// P10.2: no tree, one of a leaf, and one of height 3.
func TestTree(t *testing.T) {
	x := blank(t, 40)
	x.super(0, newer(0, 0))
	x.held(39, 0, 1, 39)
	x.is(found(0, 0, 0, 0, 0))
	// Keys of leaves count, whatever the superblock says.
	for _, keys := range []int{0, 1, 2, 30, 46} {
		x := blank(t, 40)
		x.super(0, newer(2, 1).with(func(u *super) { u.keys = 7 }))
		x.leaf(2, min(keys, 38))
		x.held(39, 0, 1, 2, 39)
		x.is(found(1, min(keys, 38), 0, 0, 0))
	}
	tall(t).is(tallLook)
}

// P10.2: a tree as high as may be, and one of a node with as many kids as may be.
func TestGreatTrees(t *testing.T) {
	x := blank(t, 40)
	x.super(0, newer(13, 12))
	for no := 3; no <= 13; no++ {
		x.inner(no, no-1, no+20)
	}
	x.leaf(2, 5)
	x.held(39, append(to(0, 13), 39)...)
	// The right kids are bytes 0.
	x.is(found(12, 5, 0, 0, 11))
	x.leaf(23, 6)
	x.held(39, append(to(0, 13), 23, 39)...)
	x.is(found(13, 11, 0, 0, 10))

	x = blank(t, 80)
	x.super(0, newer(2, 2).with(func(u *super) { u.sectors = 80 }))
	x.inner(2, to(3, 38)...)
	for no := 3; no <= 38; no++ {
		x.leaf(no, no)
	}
	x.held(39, to(0, 39)...)
	x.is(found(37, 36*41/2, 0, 0, 0))
}

// P10.2: a tree that has all pages of the greatest device, but a few.
func TestGreatestDevice(t *testing.T) {
	const sectors, nodes, leaves = api.MaxSectors, 40, 38
	x := blank(t, sectors)
	root, mapAt := sectors-1, sectors-2
	x.super(0, super{root: root, height: 3, mapAt: mapAt, sectors: sectors, gen: 8, kind: api.PageSuper})
	no := 2
	var kids []int
	for range nodes {
		for range leaves {
			x.leaf(no, 3)
			no++
		}
		x.inner(no, to(no-leaves, no-1)...)
		kids = append(kids, no)
		no++
	}
	x.inner(root, kids...)
	x.held(mapAt, append(to(0, no-1), root, mapAt)...)
	x.is(found(1+nodes+nodes*leaves, 3*nodes*leaves, 0, 0, 0))
	x.held(mapAt, to(0, sectors-2)...)
	x.is(found(1+nodes+nodes*leaves, 3*nodes*leaves, sectors-2-no, 1, 0))
}

// wrong is what a page of a tree may be that is none at a height: each changes page no of x.
var wrong = []struct {
	name string
	lay  func(x disk, no, height int)
}{
	{"bytes 0", func(x disk, no, _ int) { x.empties(no) }},
	{"no page", func(x disk, no, _ int) { x.lay(no, []byte(fmt.Sprintf("%256d", no))) }},
	{"a spoilt body", func(x disk, no, _ int) { x.d.Spoil(no, 25, 1) }},
	{"a spoilt sum", func(x disk, no, _ int) { x.d.Spoil(no, 20, 1) }},
	{"a spoilt end", func(x disk, no, _ int) { x.d.Spoil(no, 255, 1) }},
	{"another version", func(x disk, no, _ int) { x.d.Spoil(no, 4, 3) }},
	{"another number", func(x disk, no, height int) { x.page(no, no+1, goodPage(height)) }},
	{"the last number", func(x disk, no, height int) { x.page(no, 1599, goodPage(height)) }},
	{"another height", func(x disk, no, height int) { x.page(no, no, goodPage(other(height))) }},
	{"a superblock", func(x disk, no, height int) { x.kind(no, height, api.PageSuper) }},
	{"a map", func(x disk, no, height int) { x.kind(no, height, api.PageMap) }},
	{"the other kind, with the same body", func(x disk, no, height int) {
		x.kind(no, height, api.PageLeaf+api.PageInner-goodPage(height).Kind)
	}},
	{"another body", func(x disk, no, height int) {
		p := goodPage(height)
		p.Body = goodPage(other(height)).Body
		x.page(no, no, p)
	}},
	{"no body", func(x disk, no, height int) { x.body(no, height, nil) }},
	{"a byte less", func(x disk, no, height int) { b := goodPage(height).Body; x.body(no, height, b[:len(b)-1]) }},
	{"a byte more", func(x disk, no, height int) { x.body(no, height, append(goodPage(height).Body, 0)) }},
	{"keys that fall", func(x disk, no, height int) {
		x.raw(no, height, "\x02\x01b\x00\x01a\x00", "\x02\x00\x14\x01b\x00\x15\x01a\x00\x16")
	}},
	{"a key twice", func(x disk, no, height int) {
		x.raw(no, height, "\x02\x01a\x00\x01a\x00", "\x02\x00\x14\x01a\x00\x15\x01a\x00\x16")
	}},
	{"an empty key", func(x disk, no, height int) { x.raw(no, height, "\x01\x00\x00", "\x01\x00\x14\x00\x00\x15") }},
	{"no keys, where there should be one", func(x disk, no, height int) { x.raw(no, height, "\x01", "\x00\x00\x14") }},
}

// other is the height of a page of the other kind.
func other(height int) int {
	if height == 1 {
		return 2
	}
	return 1
}

// raw lays page no of the kind for that height, with one of these Bodies.
func (x disk) raw(no, height int, leaf, inner string) {
	if height == 1 {
		x.body(no, height, []byte(leaf))
	} else {
		x.body(no, height, []byte(inner))
	}
}

// goodPage is a page of a node of that height, in a good form: a leaf of 2 keys, or a node of the kids 20 and 21.
func goodPage(height int) api.Page {
	if height == 1 {
		return api.Page{Kind: api.PageLeaf, Gen: 3, Body: leaf(2)}
	}
	return api.Page{Kind: api.PageInner, Gen: 3, Body: inner(20, 21)}
}

// kind lays page no as a node of that height, but as a page of another kind.
func (x disk) kind(no, height, kind int) {
	p := goodPage(height)
	p.Kind = kind
	x.page(no, no, p)
}

// body lays page no of the kind for that height, with the Body b.
func (x disk) body(no, height int, b []byte) {
	p := goodPage(height)
	p.Body = b
	x.page(no, no, p)
}

// P10.2: a page that is none, at each height: what is below it is not come to, what is beside it is; if it is taken, it is lost.
func TestWrongPages(t *testing.T) {
	pages := []struct {
		no, height  int
		pages, keys int
	}{
		{9, 3, 0, 0},
		{8, 2, 4, 5},
		{7, 2, 4, 5},
		{3, 1, 6, 8},
		{4, 1, 6, 7},
		{5, 1, 6, 9},
		{6, 1, 6, 6},
	}
	for _, c := range wrong {
		for _, p := range pages {
			t.Run(fmt.Sprint(c.name, " for page ", p.no), func(t *testing.T) {
				x := tall(t)
				c.lay(x, p.no, p.height)
				x.is(found(p.pages, p.keys, 7-p.pages, 0, 1))
			})
		}
	}
}

// P10.2: the Gen of a page plays no part.
func TestGens(t *testing.T) {
	for _, gen := range []uint64{0, 7, 8, 9, math.MaxUint64} {
		x := tall(t)
		x.page(9, 9, api.Page{Kind: api.PageInner, Gen: gen, Body: inner(8, 7)})
		x.page(7, 7, api.Page{Kind: api.PageInner, Gen: gen, Body: inner(5, 6)})
		x.page(6, 6, api.Page{Kind: api.PageLeaf, Gen: gen, Body: leaf(4)})
		x.page(39, 39, api.Page{Kind: api.PageMap, Gen: gen, Body: bits(40, 0, 1, 3, 4, 5, 6, 7, 8, 9, 39)})
		x.is(tallLook)
	}
}

// P10.2: nor does where the keys of kids lie, as long as each page is a node.
func TestKeysOfKids(t *testing.T) {
	x := tall(t)
	n := api.Node{Kids: []int{8, 7}, Keys: [][]byte{[]byte("a key below all others")}}
	n.Keys[0][0] = 1
	x.page(9, 9, api.Page{Kind: api.PageInner, Gen: 1, Body: body(n)})
	x.is(tallLook)
}

// P10.2: kids that are none, as the last one of the node above the leaves, and as one of the root's.
func TestWrongKids(t *testing.T) {
	kids := []struct {
		name string
		no   int
	}{
		{"a superblock", 0},
		{"the other superblock's sector", 1},
		{"the map", 39},
		{"the root", 9},
		{"the node itself, or its neighbour", 7},
		{"the neighbour, or the node itself", 8},
		{"the first leaf", 3},
		{"the leaf ahead", 4},
		{"bytes 0", 20},
		{"the last bytes 0", 38},
		{"one behind the device", 40},
		{"the last number", 1599},
	}
	for _, kid := range kids {
		t.Run(kid.name, func(t *testing.T) {
			x := tall(t)
			x.inner(8, 3, 4, kid.no)
			x.is(found(7, 10, 0, 0, 1))
			x.inner(8, 3, 4, kid.no, kid.no)
			x.is(found(7, 10, 0, 0, 2))
			x = tall(t)
			x.inner(9, 8, 7, kid.no)
			want := found(7, 10, 0, 0, 1)
			if kid.no == 3 || kid.no == 4 {
				// It is come to ahead of the nodes' kids, at a height where it is none, and then once more.
				want = found(6, map[int]int{3: 8, 4: 7}[kid.no], 1, 0, 2)
			}
			x.is(want)
		})
	}
	// Numbers that no kid has let the node be none.
	for _, no := range []int{1600, 0x7fff, 0x8000, 0xffff} {
		x := tall(t)
		b := inner(3, 4)
		b[len(b)-2], b[len(b)-1] = byte(no>>8), byte(no)
		x.page(8, 8, api.Page{Kind: api.PageInner, Gen: 1, Body: b})
		x.is(found(4, 5, 3, 0, 1))
	}
}

// P10.2: a root that is the map, a superblock, or bytes 0, at each height.
func TestWrongRoots(t *testing.T) {
	for _, root := range []int{1, 39, 20, 2, 38} {
		for height := 1; height <= 12; height++ {
			x := tall(t)
			x.super(0, newer(root, height))
			x.is(found(0, 0, 7, 0, 1))
		}
	}
	// The superblock in sector 1 can have itself as its root, but sector 0 only as a kid.
	x := tall(t)
	x.empties(0)
	x.super(1, newer(1, 1))
	x.is(api.Look{Super: [2]int{api.SuperEmpty, api.SuperGood}, Gen: [2]uint64{0, 8}, Newest: 1, Lost: 7, Bad: 1})
	// At another height the root is no node of its kind, or its kids are none.
	for height := range 13 {
		x := tall(t)
		root := 9
		if height == 0 {
			root = 0
		}
		x.super(0, newer(root, height))
		switch {
		case height == 0:
			x.is(found(0, 0, 7, 0, 0))
		case height == 1:
			x.is(found(0, 0, 7, 0, 1))
		case height == 2:
			x.is(found(1, 0, 6, 0, 2))
		case height == 3:
			x.is(tallLook)
		default:
			x.is(found(3, 0, 4, 0, 4))
		}
	}
}

// P10.2: a superblock's sector that has a node is one of the tree's pages; it is counted once among what is taken or not.
func TestNodeInSuper(t *testing.T) {
	for _, taken := range [][]int{{0, 1, 2, 39}, {0, 1, 39}, {0, 2, 39}, {1, 2, 39}, {2, 39}, {0, 1, 2}} {
		x := blank(t, 40)
		x.super(0, newer(2, 2))
		x.inner(2, 1, 1, 0)
		x.leaf(1, 6)
		x.held(39, taken...)
		wild := 4 - len(taken)
		x.is(api.Look{Super: [2]int{api.SuperGood, api.SuperBad}, Gen: [2]uint64{8, 0}, Pages: 2, Keys: 6, Wild: wild, Bad: 2})
	}
}

// P10.2: pages are looked at in the order in which they are come to: all kids of a node ahead of theirs.
func TestOrder(t *testing.T) {
	// Page 8 is come to as the root's kid, and only then as a kid of page 7, where it should be a leaf.
	x := tall(t)
	x.inner(9, 7, 8)
	x.inner(7, 5, 8)
	x.is(found(6, 6, 1, 0, 1))
	// Page 3 is come to as the root's kid, where it should be no leaf, and so is none where it should be one.
	x = tall(t)
	x.inner(9, 8, 7, 3)
	x.is(found(6, 8, 1, 0, 2))
	x.inner(9, 3, 8, 7)
	x.is(found(6, 8, 1, 0, 2))
	// Page 4 is first come to from page 8, and from page 7 again, where its keys do not count.
	x = tall(t)
	x.inner(7, 4, 6)
	x.is(found(6, 9, 1, 0, 1))
	// At the height 4: the root has 8 and 10, 8 has 9 and 10, and 10 has 9 and 7.
	x = tall(t)
	x.super(0, newer(2, 4))
	x.inner(2, 8, 10)
	x.inner(8, 9, 10)
	x.inner(10, 9, 7)
	x.inner(9, 3, 4)
	x.inner(7, 5, 6)
	x.held(39, append(to(0, 10), 39)...)
	x.is(found(9, 10, 0, 0, 2))
}

// P10.2: a tree in which all pages are all pages' kids ends.
func TestAllAreKids(t *testing.T) {
	x := blank(t, 40)
	x.super(0, newer(2, 12))
	for no := 2; no < 38; no++ {
		x.inner(no, to(2, 37)...)
	}
	x.held(39, append(to(0, 37), 39)...)
	// All of them are come to below the root, and have 36 kids each, but two heights lower none is new.
	x.is(found(36, 0, 0, 0, 36*36-35))
}
