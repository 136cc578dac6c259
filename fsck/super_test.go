package fsck_test

import (
	"fmt"
	"math"
	"testing"

	"stanchion/api"
	"stanchion/dev"
	"stanchion/fsck"
)

// P10.1: the chapter's example, on devices of several sizes.
func TestExample(t *testing.T) {
	for _, n := range []int{16, 17, 18, 255, 256, 1599, 1600} {
		blank(t, n).is(api.Look{Newest: -1})
	}
}

// P10.1: no device. Of fewer sectors than there may be dev.New makes none.
func TestNoDevice(t *testing.T) {
	for _, n := range []int{-1, 0, 1, 2, 3, 15, 1601} {
		d, _ := dev.New(n)
		if l, e := fsck.Look(d); l != (api.Look{}) || e != api.ErrArg {
			t.Errorf("of %d sectors: %+v, %v", n, l, e)
		}
	}
}

// P10.1: devices that have lost most of their sectors: a superblock that is not there has no bytes but 0.
func TestSmall(t *testing.T) {
	disk{t, &dev.Device{}}.is(api.Look{Newest: -1})
	for n := range 4 {
		small(t, n).is(api.Look{Newest: -1})
	}
	junk := []byte(fmt.Sprintf("%256d", 1))
	x := small(t, 1)
	x.lay(0, junk)
	x.is(api.Look{Super: [2]int{api.SuperBad, api.SuperEmpty}, Newest: -1})
	// The map can't lie on so few.
	x.super(0, super{mapAt: 2, sectors: 3, gen: 4, kind: api.PageSuper})
	x.is(api.Look{Super: [2]int{api.SuperBad, api.SuperEmpty}, Newest: -1})
	x = small(t, 2)
	x.super(1, super{mapAt: 2, sectors: 3, gen: 4, kind: api.PageSuper})
	x.is(api.Look{Super: [2]int{api.SuperEmpty, api.SuperBad}, Newest: -1})
	x = small(t, 3)
	x.super(1, super{mapAt: 2, sectors: 3, gen: 4, kind: api.PageSuper})
	x.held(2, 0, 1, 2)
	x.is(api.Look{Super: [2]int{api.SuperEmpty, api.SuperGood}, Gen: [2]uint64{0, 4}, Newest: 1})
	x = small(t, 4)
	x.super(0, super{root: 2, height: 1, mapAt: 3, sectors: 4, gen: 4, kind: api.PageSuper})
	x.leaf(2, 5)
	x.held(3, 0, 1, 3)
	x.is(api.Look{Super: [2]int{api.SuperGood, api.SuperEmpty}, Gen: [2]uint64{4, 0}, Pages: 1, Keys: 5, Wild: 1})
}

// P10.1: each Read fails in turn, whatever the device has; behind that all is as it was.
func TestReadFails(t *testing.T) {
	for name, x := range map[string]disk{"a tree": tall(t), "bytes 0": blank(t, 40), "two bad superblocks": junk(t)} {
		want, e := fsck.Look(x.d)
		if e != api.OK {
			t.Fatal(e)
		}
		for after := range 40 {
			x.d.Fail(api.FailRead, after)
			if l, e := fsck.Look(x.d); l != (api.Look{}) || e != api.ErrIO {
				t.Errorf("%s, Read %d fails: %+v, %v", name, after, l, e)
			}
			// The failure is behind, and so are Writes and Flushes: none is done.
			x.d.Fail(api.FailWrite, 0)
			x.d.Fail(api.FailFlush, 0)
			x.is(want)
			x.d.Crash(nil)
		}
	}
}

// tall is a disk with a tree of the height 3: of 7 pages, and of 2 + 3 + 1 + 4 keys.
func tall(t testing.TB) disk {
	t.Helper()
	x := blank(t, 40)
	x.super(0, newer(9, 3))
	x.inner(9, 8, 7)
	x.inner(8, 3, 4)
	x.inner(7, 5, 6)
	x.leaf(3, 2)
	x.leaf(4, 3)
	x.leaf(5, 1)
	x.leaf(6, 4)
	x.held(39, 0, 1, 3, 4, 5, 6, 7, 8, 9, 39)
	return x
}

// tallLook is the look at that.
var tallLook = api.Look{Super: [2]int{api.SuperGood, api.SuperEmpty}, Gen: [2]uint64{8, 0}, Pages: 7, Keys: 10}

// junk is a disk whose superblocks are bad.
func junk(t testing.TB) disk {
	t.Helper()
	x := tall(t)
	x.d.Spoil(0, 200, 1)
	x.d.Spoil(1, 255, 1)
	return x
}

// P10.1: which superblock is good, at the edges of what ReadSuper reads, and of what lies on the device. How many sectors it says plays no part beyond that.
func TestSuperGood(t *testing.T) {
	good, bad := api.SuperGood, api.SuperBad
	cases := []struct {
		name   string
		change func(u *super)
		want   int
	}{
		{"as it is", func(u *super) {}, good},
		{"a map of 2", func(u *super) { u.mapAt = 2 }, good},
		{"a map of 1", func(u *super) { u.mapAt = 1 }, bad},
		{"a map of 0", func(u *super) { u.mapAt = 0 }, bad},
		{"a map behind the device", func(u *super) { u.mapAt, u.sectors = 40, 41 }, bad},
		{"a map behind the sectors that it says", func(u *super) { u.mapAt, u.sectors = 38, 38 }, bad},
		{"the last map of all", func(u *super) { u.mapAt, u.sectors = 1599, 1600 }, bad},
		{"a map of all bits", func(u *super) { u.mapAt, u.sectors = math.MaxUint32, 1600 }, bad},
		{"the last root", func(u *super) { u.root, u.height = 39, 1 }, good},
		{"the first root", func(u *super) { u.root, u.height = 1, 1 }, good},
		{"a root behind the device", func(u *super) { u.root, u.height, u.sectors = 40, 1, 41 }, bad},
		{"a root behind the sectors that it says", func(u *super) { u.root, u.height = 40, 1 }, bad},
		{"the last root of all", func(u *super) { u.root, u.height, u.sectors = 1599, 1, 1600 }, bad},
		{"a root of all bits", func(u *super) { u.root, u.height, u.sectors = math.MaxUint32, 1, 1600 }, bad},
		{"no root, with a height", func(u *super) { u.root, u.height = 0, 1 }, bad},
		{"a root, without a height", func(u *super) { u.root, u.height = 3, 0 }, bad},
		{"the greatest height", func(u *super) { u.root, u.height = 3, 12 }, good},
		{"a greater height", func(u *super) { u.root, u.height = 3, 13 }, bad},
		{"more sectors", func(u *super) { u.sectors = 41 }, good},
		{"the most sectors", func(u *super) { u.sectors = 1600 }, good},
		{"too many sectors", func(u *super) { u.sectors = 1601 }, bad},
		{"fewer sectors", func(u *super) { u.mapAt, u.sectors = 5, 6 }, good},
		{"keys that are not there", func(u *super) { u.keys = 99 }, good},
		{"generation 0", func(u *super) { u.gen = 0 }, good},
		{"the greatest generation", func(u *super) { u.gen = math.MaxUint64 }, good},
		{"a leaf", func(u *super) { u.kind = api.PageLeaf }, bad},
		{"an inner node", func(u *super) { u.kind = api.PageInner }, bad},
		{"a map page", func(u *super) { u.kind = api.PageMap }, bad},
		{"a byte less", func(u *super) { u.less = 1 }, bad},
		{"a byte more", func(u *super) { u.longer = 1 }, bad},
		{"no Body", func(u *super) { u.less = 33 }, bad},
	}
	for _, c := range cases {
		for no := range 2 {
			t.Run(fmt.Sprint(c.name, " in sector ", no), func(t *testing.T) {
				u := newer(0, 0).with(c.change)
				x := blank(t, 40)
				x.super(no, u)
				want := x.model()
				if want.Super[no] != c.want {
					t.Fatalf("the model says %+v", want)
				}
				if c.want == good && (want.Gen[no] != u.gen || want.Newest != no) || c.want == bad && want != (api.Look{Super: want.Super, Newest: -1}) {
					t.Fatalf("the model says %+v", want)
				}
				x.is(want)
			})
		}
	}
}

// P10.1: each byte of a superblock that is spoilt lets it be bad, and so does any page of another number, and any other byte in an empty one.
func TestSuperBad(t *testing.T) {
	for no := range 2 {
		want := api.Look{Newest: -1}
		want.Super[no] = api.SuperBad
		x := blank(t, 40)
		for at := range 256 {
			x.super(no, newer(0, 0))
			x.d.Spoil(no, at, byte(1<<(at%8)))
			x.is(want)
			x.empties(no)
			x.d.Spoil(no, at, byte(1<<(at%8)))
			x.is(want)
		}
		for _, as := range []int{1 - no, 2, 39} {
			x.page(no, as, newer(0, 0).page())
			x.is(want)
		}
	}
}

// P10.1: which superblock is the newest, in all that either may be. Its tree is the one that is looked at: a leaf of 2 keys, or one of 3.
func TestNewest(t *testing.T) {
	states := []struct {
		name  string
		state int
		gen   uint64
	}{
		{"empty", api.SuperEmpty, 0},
		{"bad", api.SuperBad, 0},
		{"beyond the device", api.SuperBad, 0},
		{"0", api.SuperGood, 0},
		{"1", api.SuperGood, 1},
		{"7", api.SuperGood, 7},
		{"8", api.SuperGood, 8},
		{"2^32", api.SuperGood, 1 << 32},
		{"2^63", api.SuperGood, 1 << 63},
		{"2^64 - 1", api.SuperGood, math.MaxUint64},
	}
	for _, a := range states {
		for _, b := range states {
			t.Run(a.name+" and "+b.name, func(t *testing.T) {
				x := blank(t, 40)
				x.leaf(3, 2)
				x.leaf(4, 3)
				x.held(39, 0, 1, 3, 39)
				x.held(38, 0, 1, 4, 38)
				for no, s := range []string{a.name, b.name} {
					u := newer(3+no, 1)
					u.mapAt = 39 - no
					u.gen = []uint64{a.gen, b.gen}[no]
					if s == "beyond the device" {
						u.root, u.sectors, u.gen = 40, 41, 9
					}
					if s != "empty" {
						x.super(no, u)
					}
					if s == "bad" {
						x.d.Spoil(no, 99, 3)
					}
				}
				want := api.Look{Super: [2]int{a.state, b.state}, Gen: [2]uint64{a.gen, b.gen}, Newest: -1}
				if a.state == api.SuperGood {
					want.Newest, want.Pages, want.Keys = 0, 1, 2
				}
				if b.state == api.SuperGood && (a.state != api.SuperGood || b.gen > a.gen) {
					want.Newest, want.Pages, want.Keys = 1, 1, 3
				}
				x.is(want)
			})
		}
	}
}

// P10.1: what a sector has now is what counts, also where that waits.
func TestWaiting(t *testing.T) {
	x := tall(t)
	if e := x.d.Write(6, make([]byte, api.Sector)); e != api.OK {
		t.Fatal(e)
	}
	want := tallLook
	want.Pages, want.Keys, want.Bad, want.Lost = 6, 6, 1, 1
	x.is(want)
	x.d.Crash(nil)
	x.is(tallLook)
}
