package fsck_test

import (
	"fmt"
	"slices"
	"testing"

	"stanchion/api"
	"stanchion/fsck"
)

// P10.2: a map that is none: it is bad, once, and nothing is lost or wild.
func TestWrongMap(t *testing.T) {
	taken := []int{0, 1, 3, 4, 5, 6, 7, 8, 9, 39}
	cases := []struct {
		name string
		lay  func(x disk)
	}{
		{"bytes 0", func(x disk) { x.empties(39) }},
		{"a spoilt one", func(x disk) { x.d.Spoil(39, 24, 1) }},
		{"a spoilt end", func(x disk) { x.d.Spoil(39, 255, 1) }},
		{"a leaf", func(x disk) { x.page(39, 39, api.Page{Kind: api.PageLeaf, Body: bits(40, taken...)}) }},
		{"an inner node", func(x disk) { x.page(39, 39, api.Page{Kind: api.PageInner, Body: bits(40, taken...)}) }},
		{"a superblock", func(x disk) { x.page(39, 39, api.Page{Kind: api.PageSuper, Body: bits(40, taken...)}) }},
		{"another number", func(x disk) { x.page(39, 38, api.Page{Kind: api.PageMap, Body: bits(40, taken...)}) }},
		{"fewer pages", func(x disk) { x.page(39, 39, api.Page{Kind: api.PageMap, Body: bits(40, taken...)[:4]}) }},
		{"more pages", func(x disk) { x.page(39, 39, api.Page{Kind: api.PageMap, Body: bits(48, taken...)}) }},
		{"one page more", func(x disk) { x.page(39, 39, api.Page{Kind: api.PageMap, Body: bits(41, taken...)}) }},
		{"no pages", func(x disk) { x.page(39, 39, api.Page{Kind: api.PageMap}) }},
		{"as many as may be", func(x disk) { x.page(39, 39, api.Page{Kind: api.PageMap, Body: bits(1600, taken...)}) }},
		{"a good leaf", func(x disk) { x.leaf(39, 3) }},
		{"a good superblock", func(x disk) { x.page(39, 39, newer(9, 3).page()) }},
	}
	for _, c := range cases {
		t.Run(c.name, func(t *testing.T) {
			x := tall(t)
			c.lay(x)
			x.is(found(7, 10, 0, 0, 1))
			// It is bad beside what is bad of the tree.
			x.empties(8)
			x.is(found(4, 5, 0, 0, 2))
			// And beside no tree.
			x.super(0, newer(0, 0))
			x.is(found(0, 0, 0, 0, 1))
		})
	}
}

// P10.2: a bit behind the pages that there are lets a map be none, for each number of bits in its last byte.
func TestBitsBehind(t *testing.T) {
	for n := 40; n < 56; n++ {
		for bit := range 8 {
			x := blank(t, n)
			x.super(0, newer(0, 0).with(func(u *super) { u.sectors = n }))
			b := bits(n, 0, 1, 39)
			last := 8 * (len(b) - 1)
			b[len(b)-1] |= 1 << bit
			x.page(39, 39, api.Page{Kind: api.PageMap, Body: b})
			switch {
			case last+bit >= n:
				x.is(found(0, 0, 0, 0, 1))
			case last+bit == 39:
				x.is(found(0, 0, 0, 0, 0))
			default:
				x.is(found(0, 0, 1, 0, 0))
			}
		}
	}
}

// P10.2: a map that is a page of the tree, too, as a leaf: it is a leaf there, and so is no map.
func TestMapInTree(t *testing.T) {
	x := tall(t)
	x.inner(7, 5, 39)
	x.leaf(39, 9)
	x.is(found(7, 15, 0, 0, 1))
	x.super(0, newer(39, 1))
	x.is(found(1, 9, 0, 0, 1))
}

// P10.2: what is taken and in no tree, and the other way round, for each sector alone, and in every mix of six of them.
func TestLostAndWild(t *testing.T) {
	own := []int{0, 1, 3, 4, 5, 6, 7, 8, 9, 39}
	x := tall(t)
	for no := range 40 {
		if i := slices.Index(own, no); i >= 0 {
			x.held(39, slices.Concat(own[:i], own[i+1:])...)
			x.is(found(7, 10, 0, 1, 0))
		} else {
			x.held(39, append(own, no)...)
			x.is(found(7, 10, 1, 0, 0))
		}
	}
	mixed := []int{0, 1, 39, 9, 6, 2, 10, 38}
	for mix := range 1 << len(mixed) {
		taken := []int{3, 4, 5, 7, 8}
		lost, wild := 0, 5
		for i, no := range mixed {
			if mix>>i&1 == 0 {
				continue
			}
			taken = append(taken, no)
			if i < 5 {
				wild--
			} else {
				lost++
			}
		}
		x.held(39, taken...)
		x.is(found(7, 10, lost, wild, 0))
	}
	x.held(39)
	x.is(found(7, 10, 0, 10, 0))
	x.held(39, to(0, 39)...)
	x.is(found(7, 10, 30, 0, 0))
}

// P10.2: without a newest superblock nothing is counted, whatever lies there.
func TestNoNewest(t *testing.T) {
	junk(t).is(api.Look{Super: [2]int{api.SuperBad, api.SuperBad}, Newest: -1})
	x := tall(t)
	x.empties(0)
	x.is(api.Look{Newest: -1})
	x.super(1, newer(40, 3).with(func(u *super) { u.sectors = 41 }))
	x.is(api.Look{Super: [2]int{api.SuperEmpty, api.SuperBad}, Newest: -1})
}

// P10.3: each field of a look that alone says no, and those that play no part.
func TestClean(t *testing.T) {
	cases := []struct {
		name   string
		change func(l *api.Look)
		want   bool
	}{
		{"as it is", func(l *api.Look) {}, true},
		{"the zero look", func(l *api.Look) { *l = api.Look{} }, true},
		{"no newest", func(l *api.Look) { l.Newest = -1 }, false},
		{"a newest below that", func(l *api.Look) { l.Newest = -2 }, false},
		{"the newest is the other", func(l *api.Look) { l.Newest = 1 }, true},
		{"the newest is none of both", func(l *api.Look) { l.Newest = 2 }, true},
		{"a bad superblock", func(l *api.Look) { l.Super[0] = api.SuperBad }, false},
		{"a bad superblock in sector 1", func(l *api.Look) { l.Super[1] = api.SuperBad }, false},
		{"two bad superblocks", func(l *api.Look) { l.Super = [2]int{api.SuperBad, api.SuperBad} }, false},
		{"an empty superblock", func(l *api.Look) { l.Super[0] = api.SuperEmpty }, true},
		{"an empty superblock in sector 1", func(l *api.Look) { l.Super[1] = api.SuperEmpty }, true},
		{"no good superblock", func(l *api.Look) { l.Super = [2]int{} }, true},
		{"superblocks that are nothing", func(l *api.Look) { l.Super = [2]int{-1, 3} }, true},
		{"one lost", func(l *api.Look) { l.Lost = 1 }, false},
		{"many lost", func(l *api.Look) { l.Lost = 1600 }, false},
		{"fewer than none lost", func(l *api.Look) { l.Lost = -1 }, false},
		{"one wild", func(l *api.Look) { l.Wild = 1 }, false},
		{"fewer than none wild", func(l *api.Look) { l.Wild = -1 }, false},
		{"one bad", func(l *api.Look) { l.Bad = 1 }, false},
		{"fewer than none bad", func(l *api.Look) { l.Bad = -1 }, false},
		{"lost and wild in turn", func(l *api.Look) { l.Lost, l.Wild = 1, -1 }, false},
		{"lost and bad in turn", func(l *api.Look) { l.Lost, l.Bad = -1, 1 }, false},
		{"wild and bad in turn", func(l *api.Look) { l.Wild, l.Bad = 1, -1 }, false},
		{"all at once", func(l *api.Look) { l.Lost, l.Wild, l.Bad, l.Newest = 1, 1, 1, -1 }, false},
		{"other generations", func(l *api.Look) { l.Gen = [2]uint64{0, 9} }, true},
		{"no pages", func(l *api.Look) { l.Pages = 0 }, true},
		{"no keys", func(l *api.Look) { l.Keys = 0 }, true},
		{"pages and keys that are none", func(l *api.Look) { l.Pages, l.Keys = -1, -1 }, true},
	}
	for _, c := range cases {
		l := api.Look{Super: [2]int{api.SuperGood, api.SuperGood}, Gen: [2]uint64{8, 7}, Pages: 7, Keys: 10}
		c.change(&l)
		was := l
		if fsck.Clean(l) != c.want || l != was {
			t.Errorf("%s: Clean of %+v is not %v", c.name, l, c.want)
		}
	}
}

// Memory: an answer stays as it was told, whatever becomes of the device, or of another answer.
func TestAnswersStay(t *testing.T) {
	x := tall(t)
	a, _ := fsck.Look(x.d)
	b, _ := fsck.Look(x.d)
	b.Super[0], b.Gen[0], b.Pages = 9, 9, 9
	x.empties(8)
	x.super(1, newer(9, 3).with(func(u *super) { u.gen = 9 }))
	x.d.Spoil(0, 0, 1)
	c, _ := fsck.Look(x.d)
	if a != tallLook || c == a || c == b {
		t.Errorf("%+v, %+v, %+v", a, b, c)
	}
	// Two devices know nothing of one another.
	y := tall(t)
	y.is(tallLook)
	x.is(x.model())
	y.is(tallLook)
	for what := range 4 {
		y.d.Fail(what, 0)
		if fmt.Sprint(fsck.Look(x.d)) != fmt.Sprint(x.model(), api.OK) {
			t.Error("another device's failures tell")
		}
	}
}
