package store_test

import (
	"encoding/hex"
	"fmt"
	"math"
	"testing"

	"stanchion/api"
	"stanchion/store"
)

// P9.1: a superblock, byte by byte.
func TestSuperBytes(t *testing.T) {
	body := "00000102" + "03" + "00000304" + "00000506" + "0708090a0b0c0d0e" + "0f10111213141516" + "1718191a"
	b, err := hex.DecodeString(body)
	if err != nil || len(b) != 33 {
		t.Fatal(len(b), err)
	}
	const gen = 0x8182838485868788
	for no := range 2 {
		u, g, e := store.ReadSuper(no, sector(no, api.PageSuper, gen, b))
		want := api.Super{Root: 0x102, Height: 3, Map: 0x304, Clock: 0x0708090a0b0c0d0e, Groups: 0x0f10111213141516, Keys: 0x1718191a}
		if u != want || g != gen || e != api.OK {
			t.Errorf("%+v, %x, %v, not %+v", u, g, e, want)
		}
	}
}

// is holds what ReadSuper tells of u.
func (u super) is(t *testing.T, want api.Errno) {
	t.Helper()
	s, gen, e := store.ReadSuper(u.no, u.bytes())
	if e != want {
		t.Errorf("ReadSuper of %+v is %v, not %v", u, e, want)
	}
	told := api.Super{Root: int(u.root), Height: int(u.height), Map: int(u.mapAt), Clock: u.clock, Groups: u.groups, Keys: int(u.keys)}
	if want != api.OK {
		told, u.gen = api.Super{}, 0
	}
	if s != told || gen != u.gen {
		t.Errorf("ReadSuper of %+v is %+v, %d", u, s, gen)
	}
}

// with is a good superblock that change has changed.
func with(change func(*super)) super {
	u := good()
	change(&u)
	return u
}

// P9.1: each field at the edge of what may be, and one beyond it. How many sectors there really are plays no part.
func TestSuperFields(t *testing.T) {
	good().is(t, api.OK)
	cases := []struct {
		name   string
		change func(*super)
		want   api.Errno
	}{
		{"a tree", func(u *super) { u.root, u.height = 3, 1 }, api.OK},
		{"the greatest root", func(u *super) { u.root, u.height = 39, 1 }, api.OK},
		{"a root behind all", func(u *super) { u.root, u.height = 40, 1 }, api.ErrForm},
		{"a root of all bits", func(u *super) { u.root, u.height = math.MaxUint32, 1 }, api.ErrForm},
		{"a root of 2^31", func(u *super) { u.root, u.height = 1<<31, 1 }, api.ErrForm},
		{"a root of 1", func(u *super) { u.root, u.height = 1, 1 }, api.OK},
		{"a root where the map is", func(u *super) { u.root, u.height = 2, 1 }, api.OK},
		{"a root without height", func(u *super) { u.root = 3 }, api.ErrForm},
		{"a height without root", func(u *super) { u.height = 1 }, api.ErrForm},
		{"the greatest height", func(u *super) { u.root, u.height = 3, 12 }, api.OK},
		{"a greater height", func(u *super) { u.root, u.height = 3, 13 }, api.ErrForm},
		{"a height of all bits", func(u *super) { u.root, u.height = 3, 255 }, api.ErrForm},
		{"a map of 0", func(u *super) { u.mapAt = 0 }, api.ErrForm},
		{"a map of 1", func(u *super) { u.mapAt = 1 }, api.ErrForm},
		{"the greatest map", func(u *super) { u.mapAt = 39 }, api.OK},
		{"a map behind all", func(u *super) { u.mapAt = 40 }, api.ErrForm},
		{"a map of all bits", func(u *super) { u.mapAt = math.MaxUint32 }, api.ErrForm},
		{"a map of 2^31", func(u *super) { u.mapAt = 1 << 31 }, api.ErrForm},
		{"no sectors", func(u *super) { u.sectors = 0 }, api.ErrForm},
		{"two sectors", func(u *super) { u.sectors = 2 }, api.ErrForm},
		{"three sectors", func(u *super) { u.sectors = 3 }, api.OK},
		{"the most sectors", func(u *super) { u.sectors = 1600 }, api.OK},
		{"more sectors", func(u *super) { u.sectors = 1601 }, api.ErrForm},
		{"sectors of all bits", func(u *super) { u.sectors = math.MaxUint32 }, api.ErrForm},
		{"the last page of all as map", func(u *super) { u.sectors, u.mapAt = 1600, 1599 }, api.OK},
		{"the last page of all as root", func(u *super) { u.sectors, u.root, u.height = 1600, 1599, 1 }, api.OK},
		{"the greatest clock", func(u *super) { u.clock = math.MaxUint64 }, api.OK},
		{"the most groups", func(u *super) { u.groups = math.MaxUint64 }, api.OK},
		{"the most keys", func(u *super) { u.keys = math.MaxUint32 }, api.OK},
		{"keys without a tree", func(u *super) { u.keys = 1 }, api.OK},
		{"generation 0", func(u *super) { u.gen = 0 }, api.OK},
		{"generation 2", func(u *super) { u.gen = 2 }, api.OK},
		{"the greatest generation", func(u *super) { u.gen = math.MaxUint64 }, api.OK},
		{"sector 0", func(u *super) { u.no = 0 }, api.OK},
		{"another sector than the two", func(u *super) { u.no = 2 }, api.OK},
		{"a byte less", func(u *super) { u.shorter = 1 }, api.ErrForm},
		{"a byte more", func(u *super) { u.longer = 1 }, api.ErrForm},
		{"no Body", func(u *super) { u.shorter = 33 }, api.ErrForm},
		{"the longest Body", func(u *super) { u.longer = 232 - 33 }, api.ErrForm},
		{"a leaf", func(u *super) { u.kind = api.PageLeaf }, api.ErrForm},
		{"an inner node", func(u *super) { u.kind = api.PageInner }, api.ErrForm},
		{"a map", func(u *super) { u.kind = api.PageMap }, api.ErrForm},
		{"no kind", func(u *super) { u.kind = 0 }, api.ErrForm},
		{"a kind beyond", func(u *super) { u.kind = 5 }, api.ErrForm},
	}
	for _, c := range cases {
		t.Run(c.name, func(t *testing.T) { with(c.change).is(t, c.want) })
	}
}

// P9.1: a page that is none is what chapter 4 says of it, ahead of all else.
func TestSuperNoPage(t *testing.T) {
	errs := func(name string, no int, b []byte, want api.Errno) {
		t.Helper()
		if s, gen, e := store.ReadSuper(no, b); s != (api.Super{}) || gen != 0 || e != want {
			t.Errorf("%s: %+v, %d, %v, not %v", name, s, gen, e, want)
		}
	}
	b := good().bytes()
	errs("bytes 0", 0, make([]byte, 256), api.ErrForm)
	errs("bytes 0", 1, make([]byte, 256), api.ErrForm)
	errs("none", 1, nil, api.ErrShort)
	errs("a byte less", 1, b[:255], api.ErrShort)
	errs("a byte more", 1, append(b, 0), api.ErrShort)
	errs("another number", 0, b, api.ErrArg)
	errs("a number below 0", -1, b, api.ErrArg)
	errs("a number that is none", math.MaxInt, b, api.ErrArg)
	for at, want := range map[int]api.Errno{0: api.ErrForm, 3: api.ErrForm, 4: api.ErrVersion, 5: api.ErrSum, 12: api.ErrSum, 20: api.ErrSum, 24: api.ErrSum, 56: api.ErrSum, 255: api.ErrSum} {
		spoilt := good().bytes()
		spoilt[at] ^= 0x10
		errs(fmt.Sprint("spoilt at ", at), 1, spoilt, want)
	}
	b = good().bytes()
	leaf := with(func(u *super) { u.kind, u.no = api.PageLeaf, 0 }).bytes()
	errs("another kind, another number", 1, leaf, api.ErrArg)
	if s, gen, e := store.ReadSuper(1, b); s != (api.Super{Map: 2}) || gen != 1 || e != api.OK {
		t.Error(s, gen, e)
	}
}

// Memory: what is handed in is not changed.
func TestSuperHandedIn(t *testing.T) {
	for _, change := range []func(*super){func(*super) {}, func(u *super) { u.root = 3 }, func(u *super) { u.kind = 9 }} {
		u := with(change)
		b := roomy(string(u.bytes()))
		store.ReadSuper(1, b)
		unchanged(t, "the sector", b, string(u.bytes()))
	}
}
