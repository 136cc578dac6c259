package fsck_test

import (
	"math/rand"
	"slices"
	"testing"

	"stanchion/api"
	"stanchion/fsck"
	"stanchion/store"
)

// oneOf is one of l.
func oneOf[T any](r *rand.Rand, l ...T) T {
	return l[r.Intn(len(l))]
}

// shuffled is a disk of trees, superblocks and maps, of which some are none, in any places.
func shuffled(t testing.TB, r *rand.Rand) disk {
	n := 16 + r.Intn(20)
	x := blank(t, n)
	height := 1 + r.Intn(4)
	// at is the pages that are nodes of a height, for the most part.
	at := make([][]int, height+1)
	for no := range n {
		h := 1 + r.Intn(height)
		at[h] = append(at[h], no)
	}
	of := func(h int) int {
		if len(at[h]) == 0 || r.Intn(8) == 0 {
			return r.Intn(n + 2)
		}
		return oneOf(r, at[h]...)
	}
	for h := 1; h <= height; h++ {
		for _, no := range at[h] {
			switch {
			case r.Intn(12) == 0:
				x.page(no, oneOf(r, no, no, 1, 17), api.Page{Kind: 1 + r.Intn(4), Gen: 3, Body: oneOf(r, leaf(2), inner(2, 3), bits(n, 0))})
			case h == 1:
				x.leaf(no, r.Intn(9))
			default:
				var kids []int
				for range 2 + r.Intn(3) {
					kids = append(kids, of(h-1))
				}
				x.inner(no, kids...)
			}
		}
	}
	mapAt := 2 + r.Intn(n-2)
	if r.Intn(10) > 0 {
		var taken []int
		for no := range n {
			if r.Intn(3) > 0 {
				taken = append(taken, no)
			}
		}
		x.held(mapAt, taken...)
	}
	for no := range 2 {
		if r.Intn(5) > 0 {
			x.super(no, super{
				root:    max(1, of(height)),
				height:  height,
				mapAt:   oneOf(r, mapAt, mapAt, mapAt, r.Intn(n+1)),
				sectors: oneOf(r, n, n, n, n-1, n+1),
				gen:     uint64(r.Intn(4)),
				kind:    api.PageSuper,
			})
		}
	}
	return x
}

// P10.1, P10.2: disks of all kinds of things are what the chapters' words come to.
func TestShuffled(t *testing.T) {
	r := rand.New(rand.NewSource(1))
	var sum api.Look
	none := 0
	for range 6000 {
		x := shuffled(t, r)
		l := x.model()
		x.told(l)
		if l.Newest < 0 {
			none++
		}
		sum.Pages, sum.Keys, sum.Lost, sum.Wild, sum.Bad = sum.Pages+l.Pages, sum.Keys+l.Keys, sum.Lost+l.Lost, sum.Wild+l.Wild, sum.Bad+l.Bad
		if t.Failed() {
			t.FailNow()
		}
	}
	for _, n := range []int{none, sum.Pages, sum.Keys, sum.Lost, sum.Wild, sum.Bad} {
		if n < 300 {
			t.Errorf("hardly anything is there: %d, %+v", none, sum)
		}
	}
}

// another lets something be otherwise on the disk of a store, with all sums as they should be.
func (x *worked) another() {
	x.t.Helper()
	u, r := x.s.Super(), x.r
	gen := u.Groups + 1
	v := super{root: u.Root, height: u.Height, mapAt: u.Map, sectors: x.d.Len(), keys: u.Keys, gen: gen, kind: api.PageSuper}
	switch r.Intn(8) {
	case 0:
		v.root = r.Intn(x.d.Len() + 1)
	case 1:
		v.height = r.Intn(14)
	case 2:
		v.mapAt = r.Intn(x.d.Len() + 1)
	case 3:
		v.sectors = oneOf(r, 0, v.sectors-1, v.sectors+1, 1600, 1601)
	case 4:
		v.keys, v.gen = oneOf(r, v.keys, v.keys+1), oneOf(r, 0, v.gen-2, v.gen-1, v.gen+1)
	case 5:
		// The map, or the page of a node, of another Gen, kind, or with one other byte.
		no := oneOf(r, u.Map, u.Root, 2+r.Intn(x.d.Len()-2))
		if p, ok := pageOf(no, x.sector(no)); ok {
			q := api.Page{Kind: oneOf(r, p.kind, p.kind, 1+r.Intn(4)), Gen: oneOf(r, p.gen, gen+1, 0), Body: p.body}
			if len(q.Body) > 0 {
				q.Body[r.Intn(len(q.Body))] ^= byte(1 << r.Intn(8))
			}
			x.page(no, no, q)
		}
		return
	case 6:
		// A bit of the map.
		p, _ := pageOf(u.Map, x.sector(u.Map))
		p.body[r.Intn(len(p.body))] ^= byte(1 << r.Intn(8))
		x.page(u.Map, u.Map, api.Page{Kind: p.kind, Gen: p.gen, Body: p.body})
		return
	case 7:
		// What one sector has is in another one, too.
		x.lay(r.Intn(x.d.Len()), x.sector(r.Intn(x.d.Len())))
		return
	}
	x.super(oneOf(r, int(gen%2), int(gen%2), 0, 1), v)
}

// P10.4: what can be mounted is clean, whatever was made otherwise by hand; and what the look is, is what the chapters' words come to.
func TestMadeOtherwise(t *testing.T) {
	mounted, clean, wrong := 0, 0, 0
	for seed := range int64(1500) {
		x := work(t, 60, 1+int(seed%40), limits()[1], seed)
		x.fill()
		if seed%7 == 0 {
			x.s.Put([]byte("one more"), nil)
			x.s.Sync()
		}
		for range 3 {
			x.another()
			l := x.model()
			x.told(l)
			_, e := store.Mount(x.d, x.l)
			switch is := fsck.Clean(l); {
			case e == api.OK && !is:
				t.Fatalf("what is mounted is not clean: %+v", l)
			case e == api.OK:
				mounted++
			case is:
				clean++
			default:
				wrong++
			}
			if t.Failed() {
				t.FailNow()
			}
		}
	}
	if least := slices.Min([]int{mounted, clean, wrong}); least < 100 {
		t.Errorf("%d were mounted, %d were clean beside these, and %d were wrong", mounted, clean, wrong)
	}
}
