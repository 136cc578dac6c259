package cache_test

import (
	"bytes"
	"fmt"
	"math"
	"math/rand"
	"slices"
	"testing"

	"stanchion/api"
	"stanchion/cache"
	"stanchion/dev"
)

// text is the bytes of a sector that go with seed: those of a device's sector at first are of its number.
func text(seed int) []byte {
	b := make([]byte, api.Sector)
	x := uint32(seed)*2654435761 + 12345
	for i := range b {
		x = x*1664525 + 1013904223
		b[i] = byte(x >> 24)
	}
	return b
}

// bench is a cache, its device, and the next sector that takes asks for.
type bench struct {
	t    *testing.T
	d    *dev.Device
	c    *cache.Cache
	next int
}

// device is a device of n sectors, whose bytes last.
func device(t *testing.T, n int) *dev.Device {
	t.Helper()
	d, e := dev.New(n)
	if e != api.OK {
		t.Fatal(e)
	}
	for i := range n {
		d.Write(i, text(i))
	}
	d.Flush()
	return d
}

// laid is a cache that holds nothing, over a device of 100 sectors.
func laid(t *testing.T, frames int) *bench {
	t.Helper()
	d := device(t, 100)
	c, e := cache.New(d, frames)
	if c == nil || e != api.OK {
		t.Fatalf("New of %d frames is %v, %v", frames, c, e)
	}
	return &bench{t: t, d: d, c: c, next: 80}
}

// read is a cache of eight frames that hold the sectors 0 to 7, got: all used, none dirty, the hand at the first.
func read(t *testing.T) *bench {
	t.Helper()
	x := laid(t, 8)
	for no := range 8 {
		x.get(no, text(no))
	}
	return x
}

// written is a cache of eight frames that hold the sectors 0 to 7, put: all used and dirty, the hand at the first.
func written(t *testing.T) *bench {
	t.Helper()
	x := laid(t, 8)
	for no := range 8 {
		x.put(no, text(1000+no))
	}
	return x
}

// get is a Get that must answer want.
func (x *bench) get(no int, want []byte) {
	x.t.Helper()
	if b, e := x.c.Get(no); e != api.OK || !bytes.Equal(b, want) {
		x.t.Fatalf("Get(%d) is %v, %v, not %v", no, b, e, want)
	}
}

// put is a Put that must be done.
func (x *bench) put(no int, b []byte) {
	x.t.Helper()
	if e := x.c.Put(no, b); e != api.OK {
		x.t.Fatalf("Put(%d) is %v", no, e)
	}
}

// refused is a Get and a Put of no that must both be want, and leave what is held, what is dirty and the device.
func (x *bench) refused(no int, want api.Errno) {
	x.t.Helper()
	held, dirty, writes := x.c.Held(), x.c.Dirty(), x.d.Writes()
	if b, e := x.c.Get(no); len(b) != 0 || e != want {
		x.t.Fatalf("Get(%d) is %v, %v, not %v", no, b, e, want)
	}
	if e := x.c.Put(no, text(1)); e != want {
		x.t.Fatalf("Put(%d) is %v, not %v", no, e, want)
	}
	x.held(held...)
	x.dirty(dirty...)
	x.writes(writes)
}

// held holds the sectors that are held against want.
func (x *bench) held(want ...int) {
	x.t.Helper()
	if l := x.c.Held(); !slices.Equal(l, want) {
		x.t.Fatalf("Held is %v, not %v", l, want)
	}
}

// dirty holds the sectors that are dirty against want.
func (x *bench) dirty(want ...int) {
	x.t.Helper()
	if l := x.c.Dirty(); !slices.Equal(l, want) {
		x.t.Fatalf("Dirty is %v, not %v", l, want)
	}
}

// writes holds how many Writes the device did against want.
func (x *bench) writes(want int) {
	x.t.Helper()
	if n := x.d.Writes(); n != want {
		x.t.Fatalf("Writes is %d, not %d", n, want)
	}
}

// waiting holds the sectors that wait at the device against want.
func (x *bench) waiting(want ...int) {
	x.t.Helper()
	if l := x.d.Waiting(); !slices.Equal(l, want) {
		x.t.Fatalf("Waiting is %v, not %v", l, want)
	}
}

// there holds what the device has in sector no against want.
func (x *bench) there(no int, want []byte) {
	x.t.Helper()
	if b, e := x.d.Read(no); e != api.OK || !bytes.Equal(b, want) {
		x.t.Fatalf("the device's sector %d is %v, %v, not %v", no, b, e, want)
	}
}

// yes holds an answer against true, which is that of what.
func (x *bench) yes(ok bool, what string) {
	x.t.Helper()
	if !ok {
		x.t.Fatalf("%s is false", what)
	}
}

// no holds an answer against false, which is that of what.
func (x *bench) no(ok bool, what string) {
	x.t.Helper()
	if ok {
		x.t.Fatalf("%s is true", what)
	}
}

// pin pins all sectors of l, each once.
func (x *bench) pin(l ...int) {
	x.t.Helper()
	for _, no := range l {
		x.yes(x.c.Pin(no), fmt.Sprintf("Pin(%d)", no))
	}
}

// unpin takes that back.
func (x *bench) unpin(l ...int) {
	x.t.Helper()
	for _, no := range l {
		x.yes(x.c.Unpin(no), fmt.Sprintf("Unpin(%d)", no))
	}
}

// none is said in place of a sector, where room is made without one that is given away.
const none = -1

// takes gets further sectors, from 80 on, and holds those that are not held any more against want, one after the other.
func (x *bench) takes(want ...int) {
	x.t.Helper()
	for k, no := range want {
		l := append(x.c.Held(), x.next)
		if i := slices.Index(l, no); i >= 0 {
			l = slices.Delete(l, i, i+1)
		} else if no != none {
			x.t.Fatalf("%d of %v: it is not held: %v", k, want, l)
		}
		slices.Sort(l)
		x.get(x.next, text(x.next))
		if got := x.c.Held(); !slices.Equal(got, l) {
			x.t.Fatalf("%d of %v: Held is %v, not %v", k, want, got, l)
		}
		x.next++
	}
}

// Len is how many sectors the device has: those of which Get is not ErrArg.
func TestLen(t *testing.T) {
	for _, n := range []int{api.MinSectors, 17, 100, api.MaxSectors} {
		d := device(t, n)
		c, e := cache.New(d, 8)
		if e != api.OK {
			t.Fatal(e)
		}
		d.Fail(api.FailRead, 0)
		if got := c.Len(); got != n || len(c.Held()) != 0 {
			t.Errorf("of %d sectors Len is %d, held are %v", n, got, c.Held())
		}
		if _, e := c.Get(c.Len()); e != api.ErrArg {
			t.Errorf("Get of sector Len is %v", e)
		}
		if _, e := c.Get(c.Len() - 1); e != api.ErrIO {
			t.Errorf("the first Read is %v", e)
		}
	}
	var c *cache.Cache
	if n := c.Len(); n != 0 {
		t.Errorf("of a nil cache Len is %d", n)
	}
	if n := new(cache.Cache).Len(); n != 0 {
		t.Errorf("of the zero cache Len is %d", n)
	}
}

// P5.1: from 8 to 64 frames, and just so many; they hold nothing.
func TestNew(t *testing.T) {
	for frames := 8; frames <= 64; frames++ {
		x := laid(t, frames)
		x.held()
		x.dirty()
		for no := range 80 {
			x.get(no, text(no))
			if n := len(x.c.Held()); n != min(no+1, frames) {
				t.Fatalf("%d frames: %d are held behind %d", frames, n, no+1)
			}
		}
		x.writes(100)
	}
}

// P5.1: no other numbers of frames, and no nil device.
func TestNewWrong(t *testing.T) {
	d := device(t, 16)
	for _, frames := range []int{math.MinInt, -8, -1, 0, 1, 7, 65, 66, 128, 256 + 8, 1<<32 + 8, math.MaxInt} {
		if c, e := cache.New(d, frames); c != nil || e != api.ErrArg {
			t.Errorf("New of %d frames is %v, %v", frames, c, e)
		}
	}
	for _, frames := range []int{0, 7, 8, 64, 65} {
		if c, e := cache.New(nil, frames); c != nil || e != api.ErrArg {
			t.Errorf("New of a nil device and %d frames is %v, %v", frames, c, e)
		}
	}
}

// P5.1: New asks nothing of the device.
func TestNewAsksNothing(t *testing.T) {
	d := device(t, 16)
	for what := api.FailRead; what <= api.FailFlush; what++ {
		d.Fail(what, 0)
	}
	d.Write(3, nil)
	if _, e := cache.New(d, 8); e != api.OK {
		t.Error(e)
	}
	if _, e := d.Read(3); e != api.ErrIO {
		t.Error("New read")
	}
	if e := d.Write(3, text(3)); e != api.ErrIO {
		t.Error("New wrote")
	}
	if e := d.Flush(); e != api.ErrIO {
		t.Error("New flushed")
	}
}

// P5.1: the hand is at the first frame, and the frames are taken from the first on, whatever the sectors' numbers.
func TestFirstFrames(t *testing.T) {
	x := laid(t, 8)
	l := []int{40, 3, 77, 0, 12, 11, 60, 5}
	for _, no := range l {
		x.get(no, text(no))
	}
	x.takes(l...)
	x.takes(80, 81, 82)
}

// P5.4: the chapter's example.
func TestExample(t *testing.T) {
	x := laid(t, 8)
	x.put(3, text(500))
	x.get(3, text(500))
	x.dirty(3)
	if e := x.c.Sync(); e != api.OK {
		t.Fatal(e)
	}
	x.dirty()
	x.held(3)
	x.there(3, text(500))
}

// P5.2: sectors that are not there are ErrArg, also where no room could be made, and where the device is to fail.
func TestNoSuchSector(t *testing.T) {
	for _, n := range []int{16, 40, 1600} {
		d := device(t, n)
		c, _ := cache.New(d, 8)
		x := &bench{t: t, d: d, c: c}
		wrong := []int{math.MinInt, -256, -1, n, n + 1, 1 << 32, math.MaxInt}
		for _, no := range wrong {
			x.refused(no, api.ErrArg)
			x.no(c.Pin(no) || c.Unpin(no) || c.Drop(no), "of what is not there something")
		}
		for no := n - 8; no < n; no++ {
			x.put(no, text(no+1))
			x.get(no, text(no+1))
			x.pin(no)
		}
		d.Fail(api.FailRead, 0)
		d.Fail(api.FailWrite, 0)
		for _, no := range wrong {
			x.refused(no, api.ErrArg)
			x.no(c.Pin(no) || c.Unpin(no) || c.Drop(no), "of what is not there something")
		}
	}
}

// P5.2: bytes that are too few or too many are ErrArg, of a sector that is held and one that is not, and change nothing.
func TestPutWrongBytes(t *testing.T) {
	for _, n := range []int{0, 1, 255, 257, 512, 65536 + 256} {
		b := make([]byte, n)
		x := read(t)
		x.takes(0)
		if e := x.c.Put(1, b); e != api.ErrArg {
			t.Errorf("Put of %d bytes is %v", n, e)
		}
		if e := x.c.Put(50, b); e != api.ErrArg {
			t.Errorf("Put of %d bytes is %v", n, e)
		}
		x.held(1, 2, 3, 4, 5, 6, 7, 80)
		x.dirty()
		x.writes(100)
		x.takes(1, 2)
		x.get(3, text(3))
		x.pin(x.c.Held()...)
		if e := x.c.Put(50, b); e != api.ErrArg {
			t.Errorf("Put of %d bytes, where all is pinned, is %v", n, e)
		}
	}
	x := laid(t, 8)
	if e := x.c.Put(3, nil); e != api.ErrArg {
		t.Error(e)
	}
	x.held()
}

// P5.2: what is held is got from its frame: the device is not asked, and what it has meanwhile plays no part.
func TestGetHeld(t *testing.T) {
	x := laid(t, 8)
	x.get(3, text(3))
	x.put(4, text(400))
	x.d.Write(3, text(300))
	x.d.Write(4, text(301))
	x.d.Fail(api.FailRead, 0)
	x.get(3, text(3))
	x.get(4, text(400))
	x.held(3, 4)
	x.dirty(4)
	if _, e := x.d.Read(3); e != api.ErrIO {
		t.Error("the device was asked")
	}
}

// P5.2: what is not held is read, once, and held then: neither dirty nor pinned, but used.
func TestGetRead(t *testing.T) {
	x := laid(t, 8)
	x.d.Write(9, text(900))
	x.d.Fail(api.FailRead, 1)
	x.get(9, text(900))
	x.held(9)
	x.dirty()
	if _, e := x.c.Get(10); e != api.ErrIO {
		t.Error("not one Read was asked")
	}
	x.no(x.c.Unpin(9), "Unpin")
	x.writes(101)
	x = read(t)
	x.takes(0)
	// 80 stands in the first frame, and is used: so the second, not the first, is what the hand comes to when it has gone round.
	x.takes(1, 2, 3, 4, 5, 6, 7)
	x.get(90, text(90))
	x.held(81, 82, 83, 84, 85, 86, 87, 90)
}

// P5.2: Put holds the bytes and is dirty, of a sector that is held or not; nothing is read nor written.
func TestPut(t *testing.T) {
	x := laid(t, 8)
	x.get(5, text(5))
	x.d.Fail(api.FailRead, 0)
	x.d.Fail(api.FailWrite, 0)
	x.put(5, text(50))
	x.put(6, text(60))
	x.put(6, text(61))
	x.get(5, text(50))
	x.get(6, text(61))
	x.held(5, 6)
	x.dirty(5, 6)
	x.writes(100)
	x.waiting()
	x.no(x.c.Unpin(5) || x.c.Unpin(6), "Unpin")
	if _, e := x.d.Read(5); e != api.ErrIO {
		t.Error("something was read")
	}
	if e := x.d.Write(5, text(5)); e != api.ErrIO {
		t.Error("something was written")
	}
}

// P5.2: each byte of a sector is kept at its place, from each end to the other.
func TestEachByte(t *testing.T) {
	b := make([]byte, api.Sector)
	for i := range b {
		b[i] = byte(i)
	}
	x := laid(t, 8)
	x.put(2, b)
	x.get(2, b)
	x.c.Sync()
	x.there(2, b)
	x.yes(x.c.Drop(2), "Drop")
	x.get(2, b)
}

// P5.2: the last sector there is can be got and put, and the first.
func TestLastSector(t *testing.T) {
	for _, n := range []int{16, 1600} {
		d := device(t, n)
		c, _ := cache.New(d, 64)
		x := &bench{t: t, d: d, c: c}
		x.get(n-1, text(n-1))
		x.get(0, text(0))
		x.put(n-1, text(7))
		x.put(0, text(8))
		x.get(n-1, text(7))
		x.get(0, text(8))
		x.held(0, n-1)
	}
}

// P5.2: a frame is used by a Get and by a Put of what it holds.
func TestUsedAgain(t *testing.T) {
	x := read(t)
	x.takes(0)
	x.get(1, text(1))
	x.put(3, text(33))
	x.takes(2, 4, 5, 6, 7)
	// Behind the last frame the hand comes to 80, which is used, and then to 1, which is not any more.
	x.takes(1, 3)
	x.there(3, text(33))
}

// P5.2: a Put of what is pinned leaves it pinned, as often.
func TestPutPinned(t *testing.T) {
	x := read(t)
	x.pin(0, 0)
	x.put(0, text(9))
	x.get(0, text(9))
	x.no(x.c.Drop(0), "Drop of what is pinned")
	x.takes(1)
	x.unpin(0, 0)
	x.no(x.c.Unpin(0), "one Unpin more")
}

// P5.3: frames that hold nothing are taken first, the first of them first; the hand stays.
func TestRoomEmpty(t *testing.T) {
	x := read(t)
	x.takes(0, 1, 2)
	x.yes(x.c.Drop(6), "Drop")
	x.yes(x.c.Drop(4), "Drop")
	x.yes(x.c.Drop(81), "Drop")
	x.held(3, 5, 7, 80, 82)
	x.put(20, text(20))
	x.get(21, text(21))
	x.get(22, text(22))
	x.held(3, 5, 7, 20, 21, 22, 80, 82)
	// The hand is at 3; the frames have 80, 20, 82, 3, 21, 5, 22, 7, of which 3, 5 and 7 are not used.
	x.takes(3, 5, 7)
	// It is at the first frame; all are used, and the fifth is the first that it has passed by already.
	x.takes(21, 22, 80, 20, 82)
}

// P5.3: where a frame holds nothing, none is given away, though the hand stands at one that might be.
func TestRoomEmptyFirst(t *testing.T) {
	x := written(t)
	x.d.Fail(api.FailWrite, 0)
	x.yes(x.c.Drop(7), "Drop")
	x.takes(none)
	x.pin(0, 1, 2, 3, 4, 5, 6, 80)
	x.refused(50, api.ErrBusy)
	x.unpin(3)
	x.yes(x.c.Drop(3), "Drop")
	x.takes(none)
	x.writes(100)
	x.unpin(0)
	x.refusedOnce(51)
}

// P5.3: where all are used, the one that the hand is at is taken, in the second round; the others are not used then.
func TestRoomAllUsed(t *testing.T) {
	x := read(t)
	x.takes(0)
	x.takes(1, 2, 3, 4, 5, 6, 7)
	x.takes(80, 81, 82)
	// The hand is at the fourth frame: all that stand ahead of it are used, all behind it not.
	for _, no := range []int{83, 84, 85, 86, 87} {
		x.get(no, text(no))
	}
	x.takes(83, 84, 85, 86, 87, 88)
}

// P5.3: one that is used is passed by, and is not used from then on.
func TestRoomUsed(t *testing.T) {
	x := read(t)
	x.takes(0)
	x.get(1, text(1))
	x.get(2, text(2))
	x.get(4, text(4))
	x.takes(3, 5, 6, 7)
	// The hand is at the first frame; 80 is used, 1 and 2 are not, 81 is, 4 is not.
	x.takes(1, 2, 4)
}

// P5.3: what is pinned is passed by, wherever it stands, and the hand is behind what is taken.
func TestRoomPinned(t *testing.T) {
	x := read(t)
	x.pin(0, 2, 7)
	x.takes(1, 3, 4, 5, 6)
	x.takes(80, 81)
	x.unpin(0)
	x.takes(82, 83, 84)
	// The last frame is pinned: the hand passes it by. 0 is still used; all others but 80's and 81's frames are used, too.
	x.get(86, text(86))
	x.takes(0)
	x.held(2, 7, 85, 86, 87, 88, 89, 90)
}

// P5.3: what is pinned and used stays used where it is passed by.
func TestRoomPinnedStaysUsed(t *testing.T) {
	x := read(t)
	x.pin(0)
	x.takes(1)
	x.unpin(0)
	for _, no := range []int{2, 3, 4, 6, 7} {
		x.get(no, text(no))
	}
	// 5 is the only one that is not used. Then 6 and 7 lose that, and 0, and 80; so 2 is the first that is not.
	x.takes(5, 2)
}

// P5.3: what is pinned, and was not used, stays so, too.
func TestRoomPinnedNotUsed(t *testing.T) {
	x := read(t)
	x.takes(0)
	x.pin(1, 2)
	x.takes(3)
	x.unpin(1, 2)
	x.takes(4, 5, 6, 7, 1, 2)
}

// P5.3: Pin, Unpin, a Drop that is false, Sync, Held and Dirty use nothing.
func TestNotUsed(t *testing.T) {
	x := written(t)
	x.takes(0)
	x.pin(1, 2, 1)
	x.no(x.c.Drop(1), "Drop of what is pinned")
	x.unpin(1, 1, 2)
	x.c.Sync()
	x.c.Held()
	x.c.Dirty()
	x.takes(1, 2, 3, 4, 5, 6, 7, 80)
}

// P5.3: the hand goes on past the last frame, to the first, of as many frames as there are.
func TestRoomRound(t *testing.T) {
	for _, frames := range []int{8, 9, 63, 64} {
		d := device(t, 1600)
		c, _ := cache.New(d, frames)
		x := &bench{t: t, d: d, c: c, next: frames}
		for no := range frames {
			x.get(no, text(no))
		}
		for no := range 5*frames + 3 {
			x.takes(no)
		}
	}
}

// P5.3: one that alone is not pinned is found wherever the hand is, used or not.
func TestRoomOne(t *testing.T) {
	for hand := range 8 {
		for one := range 8 {
			x := read(t)
			for no := range hand {
				x.takes(no)
			}
			l := x.c.Held()
			no := one
			if one < hand {
				no = 80 + one
			}
			x.pin(l...)
			x.unpin(no)
			x.takes(no)
			x.refusedWhenPinned(x.next - 1)
		}
	}
}

// refusedWhenPinned pins no, the last one that is not pinned: all is busy then.
func (x *bench) refusedWhenPinned(no int) {
	x.t.Helper()
	x.pin(no)
	x.refused(50, api.ErrBusy)
	x.unpin(no)
	x.takes(no)
}

// P5.3: where all is pinned, the answer is ErrBusy: the hand is where it was, and what was used is.
func TestBusy(t *testing.T) {
	x := read(t)
	x.takes(0, 1, 2)
	x.get(3, text(3))
	x.get(4, text(4))
	l := x.c.Held()
	x.pin(l...)
	x.pin(5)
	x.d.Fail(api.FailRead, 0)
	x.d.Fail(api.FailWrite, 0)
	for range 3 {
		x.refused(50, api.ErrBusy)
	}
	if _, e := x.d.Read(0); e != api.ErrIO {
		t.Error("something was read")
	}
	if e := x.d.Write(0, text(0)); e != api.ErrIO {
		t.Error("something was written")
	}
	// What is held is got and put all the same; 7 is used then, and dirty.
	x.get(7, text(7))
	x.put(7, text(70))
	x.unpin(l...)
	x.takes(6)
	x.unpin(5)
	x.no(x.c.Unpin(5), "one Unpin more")
	// The hand is at 7, which loses that it is used, as do 80, 81 and 82; 3 and 4 have lost it already.
	x.takes(3, 4, 5)
	x.dirty(7)
}

// P5.3: what is dirty is written ahead of it being given away, what is not is not, and nothing is flushed.
func TestRoomDirty(t *testing.T) {
	x := laid(t, 8)
	for no := range 8 {
		if no%3 == 0 {
			x.put(no, text(1000+no))
		} else {
			x.get(no, text(no))
		}
	}
	x.takes(0)
	x.writes(101)
	x.waiting(0)
	x.there(0, text(1000))
	x.dirty(3, 6)
	x.takes(1, 2)
	x.writes(101)
	x.takes(3, 4, 5, 6, 7)
	x.writes(103)
	x.waiting(0, 3, 6)
	x.there(3, text(1003))
	x.there(6, text(1006))
	x.dirty()
	// Their frames hold others now, which are not dirty.
	x.takes(80, 81, 82, 83, 84, 85, 86, 87)
	x.writes(103)
	x.d.Crash(nil)
	x.there(3, text(3))
}

// P5.3: a Put makes room just so, and is dirty then; the frame of one that was dirty may hold one that is not.
func TestRoomForPut(t *testing.T) {
	x := written(t)
	x.put(50, text(500))
	x.held(1, 2, 3, 4, 5, 6, 7, 50)
	x.dirty(1, 2, 3, 4, 5, 6, 7, 50)
	x.writes(101)
	x.waiting(0)
	x.there(0, text(1000))
	x.no(x.c.Unpin(50), "Unpin")
	x.takes(1)
	x.dirty(2, 3, 4, 5, 6, 7, 50)
	// The hand is behind what was taken, and 50 is used.
	x.takes(2, 3, 4, 5, 6, 7, 50, 80)
	x.writes(109)
	x.there(50, text(500))
}

// P5.3: where the Write fails, all is as it was, but the hand, which is behind that frame, and which frames are used.
func TestRoomWriteFails(t *testing.T) {
	for _, put := range []bool{false, true} {
		x := written(t)
		x.d.Fail(api.FailWrite, 0)
		x.d.Fail(api.FailRead, 0)
		if put {
			if e := x.c.Put(50, text(50)); e != api.ErrIO {
				t.Errorf("Put is %v", e)
			}
		} else if b, e := x.c.Get(50); len(b) != 0 || e != api.ErrIO {
			t.Errorf("Get is %v, %v", b, e)
		}
		if _, e := x.d.Read(0); e != api.ErrIO {
			t.Error("something was read")
		}
		x.held(0, 1, 2, 3, 4, 5, 6, 7)
		x.dirty(0, 1, 2, 3, 4, 5, 6, 7)
		x.writes(100)
		x.waiting()
		x.no(x.c.Unpin(0), "Unpin")
		// All were used, and none is any more.
		x.takes(1, 2, 3, 4, 5, 6, 7)
		x.writes(107)
		x.takes(0)
		x.writes(108)
		x.there(0, text(1000))
	}
}

// P5.3: what could not be written is still held, with its bytes, and can be pinned, dropped and synced.
func TestRoomWriteFailsThen(t *testing.T) {
	failed := func() *bench {
		x := written(t)
		x.takes(0, 1)
		x.d.Fail(api.FailWrite, 0)
		x.refusedOnce(50)
		x.waiting(0, 1)
		return x
	}
	x := failed()
	x.get(2, text(1002))
	x.takes(3)
	x = failed()
	x.pin(2)
	x.unpin(2)
	x.yes(x.c.Drop(2), "Drop")
	x.get(2, text(2))
	x = failed()
	if e := x.c.Sync(); e != api.OK {
		t.Error(e)
	}
	x.there(2, text(1002))
	x.writes(108)
	x = failed()
	x.put(2, text(2000))
	x.takes(3, 4, 5, 6, 7, 80)
	x.get(2, text(2000))
}

// refusedOnce is a Get that must be ErrIO.
func (x *bench) refusedOnce(no int) {
	x.t.Helper()
	if b, e := x.c.Get(no); len(b) != 0 || e != api.ErrIO {
		x.t.Fatalf("Get(%d) is %v, %v", no, b, e)
	}
}

// P5.3: a Write that fails in the first round: the frames that the hand did not come to are as used as they were.
func TestRoomWriteFailsUsed(t *testing.T) {
	x := written(t)
	x.takes(0)
	x.get(1, text(1001))
	x.get(4, text(1004))
	x.d.Fail(api.FailWrite, 0)
	x.refusedOnce(50)
	// The hand is at 3, behind 2; 1 is not used any more, 4 and 80 still are.
	x.takes(3, 5, 6, 7, 1, 2, 4)
}

// P5.2: where the Read fails, the frame holds nothing: what stood in it is gone, but written, if it was dirty.
func TestReadFails(t *testing.T) {
	x := written(t)
	x.d.Fail(api.FailRead, 0)
	x.refusedOnce(50)
	x.held(1, 2, 3, 4, 5, 6, 7)
	x.dirty(1, 2, 3, 4, 5, 6, 7)
	x.writes(101)
	x.there(0, text(1000))
	x.no(x.c.Pin(50) || x.c.Unpin(50) || x.c.Drop(50), "of what is not held something")
	x.no(x.c.Pin(0) || x.c.Unpin(0) || x.c.Drop(0), "of what is not held something")
	x.takes(none)
	// The frame that held nothing is the first one, and the hand was behind it.
	x.takes(1, 2, 3, 4, 5, 6, 7, 80)
	x = read(t)
	x.takes(0, 1, 2)
	x.d.Fail(api.FailRead, 0)
	x.refusedOnce(50)
	x.held(4, 5, 6, 7, 80, 81, 82)
	x.writes(100)
	x.get(50, text(50))
	x.takes(4, 5, 6, 7, 80, 81, 82, 50)
}

// P5.2: where the Read fails, and a frame held nothing, that is so still, and nothing is given away.
func TestReadFailsEmpty(t *testing.T) {
	x := laid(t, 8)
	for no := range 7 {
		x.put(no, text(no))
	}
	for range 3 {
		x.d.Fail(api.FailRead, 0)
		x.refusedOnce(50)
		x.held(0, 1, 2, 3, 4, 5, 6)
		x.writes(100)
	}
	x.get(50, text(50))
	x.held(0, 1, 2, 3, 4, 5, 6, 50)
	x.takes(0, 1)
}

// P5.4: Pin several times, Unpin as often, and once more; it stays till the last one.
func TestPin(t *testing.T) {
	for n := 1; n <= 5; n++ {
		x := read(t)
		for range n {
			x.pin(0)
		}
		for k := range n {
			x.no(x.c.Drop(0), "Drop of what is pinned")
			x.takes(1 + k)
			x.unpin(0)
		}
		x.no(x.c.Unpin(0), "one Unpin more")
		x.no(x.c.Unpin(0), "two Unpins more")
		x.pin(0)
		x.no(x.c.Drop(0), "Drop of what is pinned")
		x.unpin(0)
		x.yes(x.c.Drop(0), "Drop")
	}
}

// P5.4: one sector's pins are not another's, and are gone with what was held.
func TestPinOwn(t *testing.T) {
	x := read(t)
	x.no(x.c.Pin(50), "Pin of what is not held")
	x.no(x.c.Unpin(50), "Unpin of what is not held")
	x.held(0, 1, 2, 3, 4, 5, 6, 7)
	x.pin(3)
	x.no(x.c.Unpin(2) || x.c.Unpin(4), "Unpin of what is not pinned")
	x.yes(x.c.Drop(2), "Drop")
	x.get(2, text(2))
	x.no(x.c.Unpin(2), "Unpin of what is not pinned")
	x.unpin(3)
	x.yes(x.c.Drop(3), "Drop")
	x.no(x.c.Pin(3), "Pin of what is not held")
	x.put(3, text(33))
	x.no(x.c.Unpin(3), "Unpin of what is not pinned")
}

// P5.4: many pins are counted, each one.
func TestPinOften(t *testing.T) {
	x := read(t)
	for range 70000 {
		x.pin(5)
	}
	for range 70000 {
		x.no(x.c.Drop(5), "Drop of what is pinned")
		x.unpin(5)
	}
	x.no(x.c.Unpin(5), "one Unpin more")
	x.yes(x.c.Drop(5), "Drop")
}

// P5.4: Drop of what is dirty writes nothing; of what is pinned, or not held, it is false.
func TestDrop(t *testing.T) {
	x := written(t)
	x.d.Fail(api.FailWrite, 0)
	x.pin(5)
	x.no(x.c.Drop(5), "Drop of what is pinned")
	x.no(x.c.Drop(50), "Drop of what is not held")
	x.held(0, 1, 2, 3, 4, 5, 6, 7)
	x.yes(x.c.Drop(4), "Drop")
	x.no(x.c.Drop(4), "Drop of what is not held")
	x.held(0, 1, 2, 3, 5, 6, 7)
	x.dirty(0, 1, 2, 3, 5, 6, 7)
	x.writes(100)
	x.waiting()
	x.get(5, text(1005))
	x.get(4, text(4))
	x.dirty(0, 1, 2, 3, 5, 6, 7)
	x.unpin(5)
	x.yes(x.c.Drop(5), "Drop")
	x.get(5, text(5))
	if e := x.d.Write(0, text(0)); e != api.ErrIO {
		t.Error("something was written")
	}
	x.c.Sync()
	x.there(4, text(4))
	x.there(5, text(5))
}

// P5.4: what was dropped is not written at a Sync, and a frame that it leaves is as new.
func TestDropAll(t *testing.T) {
	x := written(t)
	for no := range 8 {
		x.yes(x.c.Drop(no), "Drop")
	}
	x.held()
	x.dirty()
	if e := x.c.Sync(); e != api.OK {
		t.Error(e)
	}
	x.writes(100)
	for no := range 8 {
		x.get(no, text(no))
		x.no(x.c.Unpin(no), "Unpin")
	}
	x.dirty()
	x.takes(0, 1, 2)
}

// scattered is a cache of 16 frames, of which some are dirty, in no order: 4, 9, 13, 30, 77.
func scattered(t *testing.T) *bench {
	x := laid(t, 16)
	x.put(30, text(1030))
	x.get(50, text(50))
	x.put(4, text(1004))
	x.put(77, text(1077))
	x.get(0, text(0))
	x.put(13, text(1013))
	x.get(9, text(9))
	x.put(9, text(1009))
	return x
}

// P5.4: Held and Dirty rise, wherever the frames stand.
func TestHeldAndDirty(t *testing.T) {
	x := scattered(t)
	x.held(0, 4, 9, 13, 30, 50, 77)
	x.dirty(4, 9, 13, 30, 77)
	x.yes(x.c.Drop(13), "Drop")
	x.get(99, text(99))
	x.put(2, text(2))
	x.held(0, 2, 4, 9, 30, 50, 77, 99)
	x.dirty(2, 4, 9, 30, 77)
}

// P5.4: Sync writes what is dirty, once, and flushes; all stays held, and nothing is dirty.
func TestSync(t *testing.T) {
	x := scattered(t)
	x.pin(13)
	if e := x.c.Sync(); e != api.OK {
		t.Fatal(e)
	}
	x.writes(105)
	x.waiting()
	x.held(0, 4, 9, 13, 30, 50, 77)
	x.dirty()
	x.d.Crash(nil)
	for _, no := range []int{4, 9, 13, 30, 77} {
		x.there(no, text(1000+no))
		x.get(no, text(1000+no))
	}
	x.no(x.c.Drop(13), "Drop of what is pinned")
	if e := x.c.Sync(); e != api.OK {
		t.Fatal(e)
	}
	x.writes(105)
	x.put(0, text(1))
	x.dirty(0)
	if e := x.c.Sync(); e != api.OK {
		t.Fatal(e)
	}
	x.writes(106)
	x.there(0, text(1))
}

// P5.4: Sync flushes the device also if nothing is dirty: all that waits, be it of the cache or not.
func TestSyncFlushes(t *testing.T) {
	x := laid(t, 8)
	x.d.Write(60, text(61))
	if e := x.c.Sync(); e != api.OK {
		t.Fatal(e)
	}
	x.waiting()
	x = written(t)
	x.takes(0, 1)
	x.waiting(0, 1)
	if e := x.c.Sync(); e != api.OK {
		t.Fatal(e)
	}
	x.waiting()
	x.writes(108)
	x.d.Fail(api.FailFlush, 1)
	if e := x.c.Sync(); e != api.OK {
		t.Error(e)
	}
	if e := x.d.Flush(); e != api.ErrIO {
		t.Error("not one Flush was asked")
	}
}

// P5.4: Sync writes by rising sectors, and the first Write that fails ends it: what is written is not dirty, what is not is; nothing is flushed.
func TestSyncWriteFails(t *testing.T) {
	l := []int{4, 9, 13, 30, 77}
	for k := range l {
		x := scattered(t)
		x.d.Fail(api.FailWrite, k)
		x.d.Fail(api.FailFlush, 0)
		if e := x.c.Sync(); e != api.ErrIO {
			t.Fatalf("Sync is %v", e)
		}
		x.writes(100 + k)
		x.waiting(l[:k]...)
		x.dirty(l[k:]...)
		x.held(0, 4, 9, 13, 30, 50, 77)
		if e := x.d.Flush(); e != api.ErrIO {
			t.Fatal("it was flushed")
		}
		for _, no := range l {
			x.get(no, text(1000+no))
		}
		if e := x.c.Sync(); e != api.OK {
			t.Fatal(e)
		}
		x.writes(105)
		x.waiting()
		x.dirty()
		for _, no := range l {
			x.there(no, text(1000+no))
		}
	}
}

// P5.4: where the Flush fails, all is written, and nothing dirty, but it waits.
func TestSyncFlushFails(t *testing.T) {
	x := scattered(t)
	x.d.Fail(api.FailFlush, 0)
	if e := x.c.Sync(); e != api.ErrIO {
		t.Fatalf("Sync is %v", e)
	}
	x.writes(105)
	x.waiting(4, 9, 13, 30, 77)
	x.dirty()
	x.held(0, 4, 9, 13, 30, 50, 77)
	if e := x.c.Sync(); e != api.OK {
		t.Fatal(e)
	}
	x.writes(105)
	x.waiting()
}

// P5.4: Sync leaves the hand, what is used and what is pinned, also if it fails.
func TestSyncLeaves(t *testing.T) {
	for _, what := range []int{0, api.FailWrite, api.FailFlush} {
		x := written(t)
		x.takes(0, 1)
		x.get(2, text(1002))
		x.pin(4)
		x.d.Fail(what, 0)
		x.c.Sync()
		x.takes(3, 5, 6, 7)
		x.no(x.c.Drop(4), "Drop of what is pinned")
		x.unpin(4)
		x.no(x.c.Unpin(4), "one Unpin more")
		// All others are used; 2 is not any more, and 4 was not.
		x.takes(2, 4, 80, 81, 82)
	}
}

// P5.3, P5.4: no more Writes come to the device than the chapter asks for.
func TestWrites(t *testing.T) {
	x := laid(t, 8)
	for k := range 1000 {
		x.put(k%8, text(k))
	}
	x.writes(100)
	x.c.Sync()
	x.writes(108)
	for no := range 8 {
		x.get(no, text(992+no))
	}
	x.takes(0, 1, 2, 3, 4, 5, 6, 7)
	x.writes(108)
	x.put(80, text(1))
	x.put(80, text(2))
	x.takes(80)
	x.writes(109)
	x.waiting(80)
}

// P5.5: Get tells what was Put last, or what the device has, through however many makings of room.
func TestThrough(t *testing.T) {
	for seed := range 20 {
		r := rand.New(rand.NewSource(int64(seed)))
		frames := 8 + r.Intn(20)
		x := laid(t, frames)
		last := map[int]int{}
		for k := range 2000 {
			no := r.Intn(100)
			if r.Intn(2) == 0 {
				no = r.Intn(frames + 3)
			}
			switch r.Intn(8) {
			case 0, 1, 2:
				x.put(no, text(100+k))
				last[no] = 100 + k
			case 3:
				if x.c.Pin(no) && r.Intn(4) > 0 {
					x.unpin(no)
				}
			case 4:
				x.c.Unpin(no)
			default:
				want, ok := last[no]
				if !ok {
					want = no
				}
				if b, e := x.c.Get(no); e != api.ErrBusy && (e != api.OK || !bytes.Equal(b, text(want))) {
					t.Fatalf("Get(%d) is %v, %v", no, b, e)
				}
			}
			if r.Intn(100) == 0 || len(x.c.Held()) == frames && r.Intn(10) == 0 {
				for _, no := range x.c.Held() {
					for x.c.Unpin(no) {
					}
				}
			}
			if r.Intn(300) == 0 {
				x.c.Sync()
			}
		}
		x.c.Sync()
		for no := range 100 {
			want, ok := last[no]
			if !ok {
				want = no
			}
			x.there(no, text(want))
		}
	}
}

// P5.1 to P5.4: of a nil cache: ErrArg, false, none.
func TestNil(t *testing.T) {
	var c *cache.Cache
	for _, no := range []int{-1, 0, 1, 16, math.MaxInt} {
		if b, e := c.Get(no); len(b) != 0 || e != api.ErrArg {
			t.Errorf("Get is %v, %v", b, e)
		}
		if e := c.Put(no, text(0)); e != api.ErrArg {
			t.Errorf("Put is %v", e)
		}
		if e := c.Put(no, nil); e != api.ErrArg {
			t.Errorf("Put is %v", e)
		}
		if c.Pin(no) || c.Unpin(no) || c.Drop(no) {
			t.Error("of a nil cache something is true")
		}
	}
	if e := c.Sync(); e != api.ErrArg {
		t.Errorf("Sync is %v", e)
	}
	if len(c.Held()) != 0 || len(c.Dirty()) != 0 {
		t.Error("a nil cache has something")
	}
}

// The zero cache answers, whatever it is, and does not panic.
func TestZero(t *testing.T) {
	c := new(cache.Cache)
	c.Get(0)
	c.Put(0, text(0))
	c.Pin(0)
	c.Unpin(0)
	c.Drop(0)
	c.Sync()
	c.Held()
	c.Dirty()
}

// turn changes all bytes of b, its spare room included.
func turn(b []byte) {
	b = b[:cap(b)]
	for i := range b {
		b[i] ^= 0xff
	}
}

// P5.2: what is put is neither changed nor kept, nor the room around it, be it held already or not.
func TestPutMemory(t *testing.T) {
	for _, held := range []bool{false, true} {
		x := laid(t, 8)
		if held {
			x.get(3, text(3))
		}
		room := bytes.Repeat([]byte{7}, 600)
		copy(room[100:], text(30))
		before := bytes.Clone(room)
		b := room[100:356]
		x.put(3, b)
		x.c.Get(3)
		x.c.Sync()
		x.put(3, b)
		if !bytes.Equal(room, before) {
			t.Error("what was put is changed")
		}
		turn(room)
		x.get(3, text(30))
		x.c.Sync()
		x.there(3, text(30))
		got, _ := x.c.Get(3)
		turn(got)
		turn(room)
		if !bytes.Equal(room, before) {
			t.Error("what was put is reached through an answer")
		}
		x.get(3, text(30))
	}
}

// P5.2: what is refused is not changed either.
func TestPutRefusedMemory(t *testing.T) {
	x := written(t)
	x.pin(0, 1, 2, 3, 4, 5, 6, 7)
	for _, n := range []int{0, 255, 256, 257} {
		room := bytes.Repeat([]byte{7}, 600)
		if e := x.c.Put(50, room[100:100+n]); e == api.OK {
			t.Errorf("Put of %d bytes is OK", n)
		}
		if !bytes.Equal(room, bytes.Repeat([]byte{7}, 600)) {
			t.Error("what was put is changed")
		}
	}
}

// P5.2: no answer of Get shares memory with the cache, with its device, or with another answer.
func TestGetMemory(t *testing.T) {
	x := laid(t, 8)
	x.put(4, text(40))
	for _, no := range []int{3, 4} {
		want := text([]int{3: 3, 4: 40}[no])
		a, _ := x.c.Get(no)
		b, _ := x.c.Get(no)
		turn(a)
		if !bytes.Equal(b, want) {
			t.Errorf("two answers of sector %d share memory", no)
		}
		x.get(no, want)
		turn(b)
		x.get(no, want)
		x.c.Sync()
		x.there(no, want)
		// An answer outlives the frame.
		c, _ := x.c.Get(no)
		x.put(no, text(99))
		if !bytes.Equal(c, want) {
			t.Errorf("an answer of sector %d is changed by a Put", no)
		}
		d, _ := x.c.Get(no)
		x.yes(x.c.Drop(no), "Drop")
		for k := 20; k < 30; k++ {
			x.get(k, text(k))
		}
		if !bytes.Equal(d, text(99)) {
			t.Errorf("an answer of sector %d is changed when its frame is given away", no)
		}
	}
}

// P5.4: no answer of Held or Dirty shares memory with the cache or with another answer.
func TestListMemory(t *testing.T) {
	x := scattered(t)
	for range 2 {
		for _, f := range []func() []int{x.c.Held, x.c.Dirty} {
			a, b := f(), f()
			want := slices.Clone(b)
			a = a[:cap(a)]
			for k := range a {
				a[k] = -7
			}
			if !slices.Equal(b, want) || !slices.Equal(f(), want) {
				t.Errorf("%v shares memory", want)
			}
		}
		held, dirty := x.c.Held(), x.c.Dirty()
		held = held[:cap(held)]
		for k := range held {
			held[k] = -7
		}
		x.dirty(dirty...)
	}
	x.c.Sync()
	x.writes(105)
}

// Two caches know nothing of one another, but through the device that both were handed.
func TestTwoCaches(t *testing.T) {
	d := device(t, 100)
	a, _ := cache.New(d, 8)
	b, _ := cache.New(d, 8)
	x, y := &bench{t: t, d: d, c: a, next: 80}, &bench{t: t, d: d, c: b, next: 80}
	x.put(3, text(30))
	x.pin(3)
	y.held()
	y.no(b.Pin(3) || b.Drop(3), "of what is not held something")
	y.get(3, text(3))
	y.dirty()
	b.Sync()
	x.dirty(3)
	a.Sync()
	y.get(3, text(3))
	y.yes(b.Drop(3), "Drop")
	y.get(3, text(30))
}

// slot is a frame of the model; no is -1, if it holds nothing.
type slot struct {
	no          int
	b           string
	dirty, used bool
	pins        int
}

// model is a cache as the chapter words it, over a device of its own.
type model struct {
	d     *dev.Device
	slots []slot
	hand  int
}

// of is which slot holds no; -1, if none does.
func (m *model) of(no int) int {
	return slices.IndexFunc(m.slots, func(s slot) bool { return s.no == no })
}

func (m *model) room() (int, api.Errno) {
	if i := m.of(-1); i >= 0 {
		return i, api.OK
	}
	n := len(m.slots)
	for k := range 2 * n {
		i := (m.hand + k) % n
		s := &m.slots[i]
		if s.pins > 0 {
			continue
		}
		if s.used {
			s.used = false
			continue
		}
		m.hand = (i + 1) % n
		if s.dirty && m.d.Write(s.no, []byte(s.b)) != api.OK {
			return -1, api.ErrIO
		}
		*s = slot{no: -1}
		return i, api.OK
	}
	return -1, api.ErrBusy
}

func (m *model) get(no int) (string, api.Errno) {
	if no < 0 || no >= m.d.Len() {
		return "", api.ErrArg
	}
	i := m.of(no)
	if i < 0 {
		var e api.Errno
		if i, e = m.room(); e != api.OK {
			return "", e
		}
		b, e := m.d.Read(no)
		if e != api.OK {
			return "", api.ErrIO
		}
		m.slots[i] = slot{no: no, b: string(b)}
	}
	m.slots[i].used = true
	return m.slots[i].b, api.OK
}

func (m *model) put(no int, b string) api.Errno {
	if no < 0 || no >= m.d.Len() || len(b) != 256 {
		return api.ErrArg
	}
	i := m.of(no)
	if i < 0 {
		var e api.Errno
		if i, e = m.room(); e != api.OK {
			return e
		}
	}
	m.slots[i] = slot{no: no, b: b, dirty: true, used: true, pins: m.slots[i].pins}
	return api.OK
}

// pinned adds by to no's pins; false, if it is not held, or they would be fewer than none.
func (m *model) pinned(no, by int) bool {
	i := m.of(no)
	if no < 0 || i < 0 || m.slots[i].pins+by < 0 {
		return false
	}
	m.slots[i].pins += by
	return true
}

func (m *model) drop(no int) bool {
	i := m.of(no)
	if no < 0 || i < 0 || m.slots[i].pins > 0 {
		return false
	}
	m.slots[i] = slot{no: -1}
	return true
}

func (m *model) sync() api.Errno {
	for no := range m.d.Len() {
		if i := m.of(no); i >= 0 && m.slots[i].dirty {
			if m.d.Write(no, []byte(m.slots[i].b)) != api.OK {
				return api.ErrIO
			}
			m.slots[i].dirty = false
		}
	}
	return m.d.Flush()
}

func (m *model) lists() (held, dirty []int) {
	for no := range m.d.Len() {
		if i := m.of(no); i >= 0 {
			held = append(held, no)
			if m.slots[i].dirty {
				dirty = append(dirty, no)
			}
		}
	}
	return held, dirty
}

// step does one call, chosen by r, of both, and tells what differs.
func (x *bench) step(r *rand.Rand, m *model) string {
	no := r.Intn(len(m.slots) + 6)
	if r.Intn(10) == 0 {
		no = r.Intn(x.d.Len()+4) - 2
	}
	switch r.Intn(16) {
	case 0, 1, 2, 3, 4:
		b, e := x.c.Get(no)
		if s, want := m.get(no); string(b) != s || e != want {
			return fmt.Sprint("Get ", no, e, want)
		}
	case 5, 6, 7:
		b := text(r.Int())[:256-r.Intn(20)/19]
		if e, want := x.c.Put(no, b), m.put(no, string(b)); e != want {
			return fmt.Sprint("Put ", no, e, want)
		}
	case 8, 9:
		if ok, want := x.c.Pin(no), m.pinned(no, 1); ok != want {
			return fmt.Sprint("Pin ", no, ok, want)
		}
	case 10, 11:
		if ok, want := x.c.Unpin(no), m.pinned(no, -1); ok != want {
			return fmt.Sprint("Unpin ", no, ok, want)
		}
	case 12:
		if ok, want := x.c.Drop(no), m.drop(no); ok != want {
			return fmt.Sprint("Drop ", no, ok, want)
		}
	case 13:
		what, after := 1+r.Intn(3), r.Intn(6)
		x.d.Fail(what, after)
		m.d.Fail(what, after)
	case 14:
		if e, want := x.c.Sync(), m.sync(); e != want {
			return fmt.Sprint("Sync ", e, want)
		}
	case 15:
		return x.stir(r, m)
	}
	return ""
}

// stir lets the device change under the cache, or all be pinned, or nothing.
func (x *bench) stir(r *rand.Rand, m *model) string {
	switch r.Intn(4) {
	case 0:
		x.d.Crash([]int{1, 1, 1})
		m.d.Crash([]int{1, 1, 1})
	case 1:
		no, b := r.Intn(x.d.Len()), text(r.Int())
		x.d.Write(no, b)
		m.d.Write(no, b)
	case 2:
		for _, no := range x.c.Held() {
			if ok, want := x.c.Pin(no), m.pinned(no, 1); ok != want {
				return fmt.Sprint("Pin ", no, ok, want)
			}
		}
	case 3:
		for _, no := range x.c.Held() {
			for x.c.Unpin(no) {
				m.pinned(no, -1)
			}
		}
	}
	return ""
}

// P5.1 to P5.6: many calls, in whatever order, answer as the model does, and the device is as its is.
func TestAsTheModel(t *testing.T) {
	for seed := range 150 {
		r := rand.New(rand.NewSource(int64(seed)))
		n, frames := 16+seed%80, []int{8, 9, 12, 64}[seed%4]
		d := device(t, n)
		c, _ := cache.New(d, frames)
		x := &bench{t: t, d: d, c: c}
		m := &model{d: device(t, n), slots: slices.Repeat([]slot{{no: -1}}, frames)}
		for k := range 600 {
			if s := x.step(r, m); s != "" {
				t.Fatalf("seed %d, call %d: %s", seed, k, s)
			}
			held, dirty := m.lists()
			if !slices.Equal(c.Held(), held) || !slices.Equal(c.Dirty(), dirty) || len(c.Held()) > frames {
				t.Fatalf("seed %d, call %d: Held is %v, not %v, Dirty %v, not %v", seed, k, c.Held(), held, c.Dirty(), dirty)
			}
			if d.Writes() != m.d.Writes() || !slices.Equal(d.Waiting(), m.d.Waiting()) {
				t.Fatalf("seed %d, call %d: Writes is %d, not %d, Waiting %v, not %v", seed, k, d.Writes(), m.d.Writes(), d.Waiting(), m.d.Waiting())
			}
		}
		d.Fail(api.FailRead, math.MaxInt)
		m.d.Fail(api.FailRead, math.MaxInt)
		for no := range n {
			want, _ := m.d.Read(no)
			x.there(no, want)
		}
	}
}
