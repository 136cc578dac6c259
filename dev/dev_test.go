package dev_test

import (
	"bytes"
	"fmt"
	"math"
	"math/rand"
	"slices"
	"testing"

	"stanchion/api"
	"stanchion/dev"
)

// made is a device of n sectors.
func made(t *testing.T, n int) *dev.Device {
	t.Helper()
	d, e := dev.New(n)
	if d == nil || e != api.OK {
		t.Fatalf("New(%d) is %v, %v", n, d, e)
	}
	return d
}

// all is a sector whose bytes are all x.
func all(x byte) []byte {
	return bytes.Repeat([]byte{x}, api.Sector)
}

// write is a Write that must be done.
func write(t *testing.T, d *dev.Device, i int, b []byte) {
	t.Helper()
	if e := d.Write(i, b); e != api.OK {
		t.Fatalf("Write(%d) is %v", i, e)
	}
}

// flush is a Flush that must be done.
func flush(t *testing.T, d *dev.Device) {
	t.Helper()
	if e := d.Flush(); e != api.OK {
		t.Fatalf("Flush is %v", e)
	}
}

// read holds the bytes of sector i now against want.
func read(t *testing.T, d *dev.Device, i int, want []byte) {
	t.Helper()
	b, e := d.Read(i)
	if e != api.OK || !bytes.Equal(b, want) {
		t.Fatalf("Read(%d) is %v, %v, not %v", i, b, e, want)
	}
}

// waiting holds the sectors for which something waits against want.
func waiting(t *testing.T, d *dev.Device, want ...int) {
	t.Helper()
	if w := d.Waiting(); !slices.Equal(w, want) {
		t.Fatalf("Waiting is %v, not %v", w, want)
	}
}

// P3.1: from 16 to 1600 sectors, all 0, nothing waiting, no Write done.
func TestNew(t *testing.T) {
	for _, n := range []int{16, 17, 255, 1599, 1600} {
		d := made(t, n)
		if d.Len() != n || d.Writes() != 0 {
			t.Errorf("New(%d): Len is %d, Writes %d", n, d.Len(), d.Writes())
		}
		waiting(t, d)
		for i := range n {
			read(t, d, i, all(0))
		}
	}
}

// P3.1: no other numbers of sectors.
func TestNewWrong(t *testing.T) {
	for _, n := range []int{math.MinInt, -16, -1, 0, 1, 15, 1601, math.MaxInt} {
		if d, e := dev.New(n); d != nil || e != api.ErrArg {
			t.Errorf("New(%d) is %v, %v", n, d, e)
		}
	}
}

// P3.1: Len stays, and Writes counts those that were done, through Flushes and Crashes, and no others.
func TestWrites(t *testing.T) {
	d := made(t, 20)
	write(t, d, 3, all(1))
	write(t, d, 3, all(1))
	write(t, d, 19, all(2))
	if e := d.Write(20, all(1)); e != api.ErrArg {
		t.Error(e)
	}
	if e := d.Write(0, nil); e != api.ErrArg {
		t.Error(e)
	}
	d.Fail(api.FailWrite, 0)
	if e := d.Write(0, all(1)); e != api.ErrIO {
		t.Error(e)
	}
	if d.Writes() != 3 {
		t.Errorf("Writes is %d, not 3", d.Writes())
	}
	flush(t, d)
	d.Crash(nil)
	d.Spoil(0, 0, 1)
	d.Read(0)
	if d.Writes() != 3 || d.Len() != 20 {
		t.Errorf("Writes is %d, Len %d", d.Writes(), d.Len())
	}
	write(t, d, 0, all(9))
	if d.Writes() != 4 {
		t.Errorf("Writes is %d, not 4", d.Writes())
	}
}

// P3.2: a Write is read at once, in its sector alone, and waits till a Flush.
func TestWrite(t *testing.T) {
	d := made(t, 16)
	write(t, d, 15, all(7))
	write(t, d, 0, all(3))
	write(t, d, 4, all(5))
	write(t, d, 15, all(8))
	waiting(t, d, 0, 4, 15)
	for i := range 16 {
		read(t, d, i, all(map[int]byte{0: 3, 4: 5, 15: 8}[i]))
	}
	flush(t, d)
	waiting(t, d)
	for i := range 16 {
		read(t, d, i, all(map[int]byte{0: 3, 4: 5, 15: 8}[i]))
	}
	write(t, d, 4, all(5))
	waiting(t, d, 4)
}

// P3.2: each byte of a sector is kept at its place.
func TestWriteBytes(t *testing.T) {
	b := make([]byte, api.Sector)
	for i := range b {
		b[i] = byte(i)*3 + 1
	}
	d := made(t, 16)
	write(t, d, 9, b)
	read(t, d, 9, b)
	flush(t, d)
	d.Crash(nil)
	read(t, d, 9, b)
}

// P3.2: many sectors wait, in rising order, in whatever order they were written.
func TestWaitingRises(t *testing.T) {
	d := made(t, 1600)
	var want []int
	for k := range 1600 {
		i := k * 7 % 1600
		if i%3 != 1 {
			write(t, d, i, all(byte(i)))
		}
		if k%3 != 1 {
			want = append(want, k)
		}
	}
	waiting(t, d, want...)
}

// P3.2: sectors that are not there, and bytes that are too few or too many, are ErrArg, also of a call that is to fail.
func TestWrongArguments(t *testing.T) {
	for _, n := range []int{16, 40, 1600} {
		d := made(t, n)
		for what := api.FailRead; what <= api.FailFlush; what++ {
			d.Fail(what, 0)
		}
		for _, i := range []int{math.MinInt, -256, -1, n, n + 1, math.MaxInt} {
			if b, e := d.Read(i); len(b) != 0 || e != api.ErrArg {
				t.Errorf("Read(%d) of %d is %v, %v", i, n, b, e)
			}
			if e := d.Write(i, all(1)); e != api.ErrArg {
				t.Errorf("Write(%d) of %d is %v", i, n, e)
			}
			if e := d.Write(i, nil); e != api.ErrArg {
				t.Errorf("Write(%d) of %d is %v", i, n, e)
			}
		}
		for _, m := range []int{0, 1, 255, 257, 512} {
			if e := d.Write(n-1, make([]byte, m)); e != api.ErrArg {
				t.Errorf("Write of %d bytes is %v", m, e)
			}
		}
		waiting(t, d)
		if d.Writes() != 0 {
			t.Errorf("Writes is %d", d.Writes())
		}
	}
}

// call does a call of the kind what that is not ErrArg.
func call(d *dev.Device, what int) api.Errno {
	switch what {
	case api.FailRead:
		_, e := d.Read(1)
		return e
	case api.FailWrite:
		return d.Write(1, all(1))
	}
	return d.Flush()
}

// P3.3: behind so many calls of the kind that are done the next one fails, and that one alone.
func TestFail(t *testing.T) {
	for what := api.FailRead; what <= api.FailFlush; what++ {
		for _, after := range []int{0, 1, 2, 5, 40} {
			d := made(t, 16)
			if e := d.Fail(what, after); e != api.OK {
				t.Fatalf("Fail(%d, %d) is %v", what, after, e)
			}
			for k := range after + 20 {
				for other := api.FailRead; other <= api.FailFlush; other++ {
					want := api.OK
					if other == what && k == after {
						want = api.ErrIO
					}
					if e := call(d, other); e != want {
						t.Errorf("Fail(%d, %d): call %d of kind %d is %v", what, after, k, other, e)
					}
				}
			}
		}
	}
}

// P3.3: each kind has a failure of its own, all at one time.
func TestFailEachKind(t *testing.T) {
	d := made(t, 16)
	for what := api.FailRead; what <= api.FailFlush; what++ {
		d.Fail(what, 4-what)
	}
	for k := range 8 {
		for what := api.FailRead; what <= api.FailFlush; what++ {
			want := api.OK
			if k == 4-what {
				want = api.ErrIO
			}
			if e := call(d, what); e != want {
				t.Errorf("call %d of kind %d is %v", k, what, e)
			}
		}
	}
}

// P3.3: an elder failure of the kind is forgotten, be it earlier or later than the new one, and those of others are not.
func TestFailForgotten(t *testing.T) {
	for what := api.FailRead; what <= api.FailFlush; what++ {
		for _, x := range []struct{ elder, newer int }{{0, 3}, {3, 0}, {2, 2}, {math.MaxInt, 1}} {
			d := made(t, 16)
			other := what%3 + 1
			d.Fail(what, x.elder)
			d.Fail(other, 1)
			d.Fail(what, x.newer)
			for k := range 10 {
				want := api.OK
				if k == x.newer {
					want = api.ErrIO
				}
				if e := call(d, what); e != want {
					t.Errorf("Fail %d of kind %d: call %d is %v", x, what, k, e)
				}
			}
			if e := call(d, other); e != api.OK {
				t.Error(e)
			}
			if e := call(d, other); e != api.ErrIO {
				t.Error(e)
			}
		}
	}
}

// P3.3: a Fail of the same kind in between begins to count anew.
func TestFailAnew(t *testing.T) {
	d := made(t, 16)
	d.Fail(api.FailWrite, 2)
	write(t, d, 0, all(1))
	d.Fail(api.FailWrite, 2)
	write(t, d, 0, all(1))
	write(t, d, 0, all(1))
	if e := d.Write(0, all(1)); e != api.ErrIO {
		t.Error(e)
	}
}

// P3.3: calls that are ErrArg are not counted, and use no failure up.
func TestFailArgNotCounted(t *testing.T) {
	d := made(t, 16)
	d.Fail(api.FailRead, 1)
	d.Fail(api.FailWrite, 1)
	wrong := func() {
		for range 5 {
			d.Read(16)
			d.Write(-1, all(1))
			d.Write(0, all(1)[1:])
		}
	}
	wrong()
	read(t, d, 0, all(0))
	write(t, d, 0, all(1))
	wrong()
	if b, e := d.Read(0); len(b) != 0 || e != api.ErrIO {
		t.Error(b, e)
	}
	if e := d.Write(0, all(1)); e != api.ErrIO {
		t.Error(e)
	}
}

// P3.3: what is no kind, or comes behind fewer than no calls, is ErrArg, and forgets nothing.
func TestFailWrong(t *testing.T) {
	d := made(t, 16)
	d.Fail(api.FailRead, 0)
	for _, x := range [][2]int{{0, 0}, {-1, 0}, {4, 0}, {math.MaxInt, 0}, {math.MinInt, 3}, {1, -1}, {2, -1}, {3, math.MinInt}, {0, -1}} {
		if e := d.Fail(x[0], x[1]); e != api.ErrArg {
			t.Errorf("Fail(%d, %d) is %v", x[0], x[1], e)
		}
	}
	if e := call(d, api.FailRead); e != api.ErrIO {
		t.Error(e)
	}
	if e := call(d, api.FailWrite); e != api.OK {
		t.Error(e)
	}
	if e := call(d, api.FailFlush); e != api.OK {
		t.Error(e)
	}
}

// P3.3: a failure behind as many calls as a number tells is far, and does not come at once.
func TestFailFar(t *testing.T) {
	d := made(t, 16)
	for what := api.FailRead; what <= api.FailFlush; what++ {
		if e := d.Fail(what, math.MaxInt); e != api.OK {
			t.Error(e)
		}
		for range 100 {
			if e := call(d, what); e != api.OK {
				t.Error(e)
			}
		}
	}
}

// P3.2: a Write, a Flush and a Read that are told to fail change nothing.
func TestFailedChangesNothing(t *testing.T) {
	d := made(t, 16)
	write(t, d, 2, all(1))
	flush(t, d)
	write(t, d, 2, all(2))
	for what := api.FailRead; what <= api.FailFlush; what++ {
		d.Fail(what, 0)
	}
	if e := d.Write(2, all(3)); e != api.ErrIO {
		t.Error(e)
	}
	if e := d.Write(5, all(3)); e != api.OK {
		t.Error(e)
	}
	d.Fail(api.FailWrite, 0)
	if e := d.Write(6, all(3)); e != api.ErrIO {
		t.Error(e)
	}
	if e := d.Flush(); e != api.ErrIO {
		t.Error(e)
	}
	if b, e := d.Read(2); len(b) != 0 || e != api.ErrIO {
		t.Error(b, e)
	}
	waiting(t, d, 2, 5)
	read(t, d, 2, all(2))
	read(t, d, 6, all(0))
	d.Crash([]int{2, 0})
	read(t, d, 2, all(2))
	read(t, d, 5, all(0))
}

// P3.2, P3.4: what a Flush that failed left waiting does not last.
func TestFailedFlushLosesNothing(t *testing.T) {
	d := made(t, 16)
	write(t, d, 2, all(1))
	write(t, d, 2, all(2))
	d.Fail(api.FailFlush, 0)
	if e := d.Flush(); e != api.ErrIO {
		t.Error(e)
	}
	d.Crash([]int{1})
	read(t, d, 2, all(1))
}

// P3.4: the chapter's example.
func TestCrashExample(t *testing.T) {
	d := made(t, 16)
	write(t, d, 0, all(1))
	d.Crash(nil)
	read(t, d, 0, all(0))
	write(t, d, 0, all(2))
	flush(t, d)
	d.Crash(nil)
	read(t, d, 0, all(2))
}

// P3.4: of several Writes of a sector none, some, all or more than all last; its bytes are those of the last one of these.
func TestCrash(t *testing.T) {
	for _, x := range []struct {
		l    []int
		want byte
	}{
		{nil, 100}, {[]int{}, 100}, {[]int{0}, 100}, {[]int{-1}, 100}, {[]int{math.MinInt}, 100},
		{[]int{1}, 1}, {[]int{2}, 2}, {[]int{3}, 3}, {[]int{4}, 4}, {[]int{5}, 4}, {[]int{math.MaxInt}, 4},
	} {
		d := made(t, 16)
		write(t, d, 7, all(99))
		write(t, d, 7, all(100))
		flush(t, d)
		for k := range 4 {
			write(t, d, 7, all(byte(k+1)))
		}
		d.Crash(x.l)
		read(t, d, 7, all(x.want))
		waiting(t, d)
		d.Crash([]int{4})
		read(t, d, 7, all(x.want))
		flush(t, d)
		read(t, d, 7, all(x.want))
	}
}

// P3.4: the numbers are those of the sectors for which something waits, rising; sectors behind the last number lose all, and numbers behind the last sector tell nothing.
func TestCrashManySectors(t *testing.T) {
	for _, x := range []struct {
		l    []int
		want [4]byte
	}{
		{nil, [4]byte{0, 0, 0, 0}},
		{[]int{1}, [4]byte{11, 0, 0, 0}},
		{[]int{0, 2}, [4]byte{0, 22, 0, 0}},
		{[]int{-3, 1, 9}, [4]byte{0, 21, 33, 0}},
		{[]int{3, 2, 1, 0}, [4]byte{13, 22, 31, 0}},
		{[]int{2, 0, 2, 3}, [4]byte{12, 0, 32, 43}},
		{[]int{2, -1, 2, 3, 1, 1, 1, 1}, [4]byte{12, 0, 32, 43}},
	} {
		d := made(t, 16)
		sectors := [4]int{0, 3, 9, 15}
		for _, k := range []int{2, 0, 3, 1} {
			for n := range 3 {
				write(t, d, sectors[k], all(byte((k+1)*10+n+1)))
			}
		}
		d.Crash(x.l)
		waiting(t, d)
		for k, i := range sectors {
			read(t, d, i, all(x.want[k]))
		}
		for _, i := range []int{1, 2, 4, 14} {
			read(t, d, i, all(0))
		}
	}
}

// P3.4: behind a Crash no call is to fail, whether something waited or not.
func TestCrashForgetsFailures(t *testing.T) {
	for _, written := range []bool{false, true} {
		for what := api.FailRead; what <= api.FailFlush; what++ {
			for after := range 3 {
				d := made(t, 16)
				if written {
					write(t, d, 0, all(1))
				}
				d.Fail(what, after)
				d.Crash(nil)
				for range 6 {
					if e := call(d, what); e != api.OK {
						t.Errorf("Fail(%d, %d), Crash: %v", what, after, e)
					}
				}
			}
		}
	}
}

// spoiled is b, with by at at.
func spoiled(b []byte, at int, by byte) []byte {
	b = bytes.Clone(b)
	b[at] ^= by
	return b
}

// P3.5: a byte is spoiled now, among those that last, and of all that waits.
func TestSpoil(t *testing.T) {
	for _, at := range []int{0, 1, 128, 255} {
		for last := range 4 {
			d := made(t, 16)
			write(t, d, 5, all(9))
			flush(t, d)
			for k := range 3 {
				write(t, d, 5, all(byte(k+1)))
			}
			if !d.Spoil(5, at, 0xc3) {
				t.Fatalf("Spoil at %d is false", at)
			}
			read(t, d, 5, spoiled(all(3), at, 0xc3))
			waiting(t, d, 5)
			d.Crash([]int{last})
			read(t, d, 5, spoiled(all([]byte{9, 1, 2, 3}[last]), at, 0xc3))
		}
	}
}

// P3.5: a byte of a sector that does not wait is spoiled for good, till it is written again; none waits for it.
func TestSpoilLasts(t *testing.T) {
	d := made(t, 16)
	if !d.Spoil(15, 255, 0xff) || !d.Spoil(0, 0, 1) {
		t.Fatal("Spoil is false")
	}
	waiting(t, d)
	if d.Writes() != 0 {
		t.Errorf("Writes is %d", d.Writes())
	}
	d.Crash(nil)
	read(t, d, 15, spoiled(all(0), 255, 0xff))
	read(t, d, 0, spoiled(all(0), 0, 1))
	for i := 1; i < 15; i++ {
		read(t, d, i, all(0))
	}
	write(t, d, 0, all(4))
	read(t, d, 0, all(4))
	d.Crash(nil)
	read(t, d, 0, spoiled(all(0), 0, 1))
}

// P3.5: what is spoiled twice by the same is as it was, and by 0 as well, and that is true too.
func TestSpoilTwice(t *testing.T) {
	d := made(t, 16)
	write(t, d, 1, all(0x5a))
	if !d.Spoil(1, 4, 0xff) || !d.Spoil(1, 4, 0xff) || !d.Spoil(1, 4, 0) {
		t.Error("Spoil is false")
	}
	read(t, d, 1, all(0x5a))
	d.Crash(nil)
	read(t, d, 1, all(0))
}

// P3.5: what is not there is not spoiled; Spoil asks no failure and uses none up.
func TestSpoilWrong(t *testing.T) {
	d := made(t, 16)
	write(t, d, 0, all(1))
	for _, x := range [][2]int{{-1, 0}, {16, 0}, {math.MinInt, 0}, {math.MaxInt, 0}, {0, -1}, {0, 256}, {0, math.MaxInt}, {0, math.MinInt}, {16, 256}} {
		if d.Spoil(x[0], x[1], 0xff) {
			t.Errorf("Spoil(%d, %d) is true", x[0], x[1])
		}
	}
	read(t, d, 0, all(1))
	for i := 1; i < 16; i++ {
		read(t, d, i, all(0))
	}
	for what := api.FailRead; what <= api.FailFlush; what++ {
		d.Fail(what, 0)
		if !d.Spoil(0, 0, 0) {
			t.Error("Spoil is false")
		}
		if e := call(d, what); e != api.ErrIO {
			t.Error(e)
		}
	}
}

// P3.6: what was there at a Flush lasts, in each sector that was not written since, whatever else was written and lost.
func TestFlushedLasts(t *testing.T) {
	d := made(t, 32)
	for i := range 32 {
		write(t, d, i, all(byte(i+1)))
		write(t, d, i, all(byte(i+101)))
	}
	flush(t, d)
	for i := 0; i < 32; i += 2 {
		write(t, d, i, all(255))
	}
	d.Crash(nil)
	for i := range 32 {
		read(t, d, i, all(byte(i+101)))
	}
}

// P3.1 to P3.5: of a nil device: 0, none, ErrArg, false.
func TestNil(t *testing.T) {
	var d *dev.Device
	if d.Len() != 0 || d.Writes() != 0 || len(d.Waiting()) != 0 {
		t.Error("a nil device has something")
	}
	for _, i := range []int{-1, 0, 1, 16} {
		if b, e := d.Read(i); len(b) != 0 || e != api.ErrArg {
			t.Errorf("Read is %v, %v", b, e)
		}
		if e := d.Write(i, all(1)); e != api.ErrArg {
			t.Errorf("Write is %v", e)
		}
		if d.Spoil(i, 0, 1) {
			t.Error("Spoil is true")
		}
		if e := d.Fail(i, 0); e != api.ErrArg {
			t.Errorf("Fail is %v", e)
		}
	}
	if e := d.Flush(); e != api.ErrArg {
		t.Errorf("Flush is %v", e)
	}
	d.Crash(nil)
	d.Crash([]int{1, 2})
}

// P3.2, P3.4: no argument is changed, nor the room behind it, and none is kept.
func TestArgumentsStay(t *testing.T) {
	d := made(t, 16)
	room := bytes.Repeat([]byte{7}, 600)
	write(t, d, 0, room[100:356])
	flush(t, d)
	write(t, d, 0, room[100:356])
	d.Spoil(0, 3, 0xff)
	if !bytes.Equal(room, bytes.Repeat([]byte{7}, 600)) {
		t.Error("what was written was changed")
	}
	for i := range room {
		room[i] = 8
	}
	read(t, d, 0, spoiled(all(7), 3, 0xff))
	d.Crash(nil)
	read(t, d, 0, spoiled(all(7), 3, 0xff))
	write(t, d, 4, all(1))
	l := []int{-5, 9, 9, 9}
	d.Crash(l[:1])
	if !slices.Equal(l, []int{-5, 9, 9, 9}) {
		t.Errorf("the numbers are %v", l)
	}
}

// P3.2: no answer shares memory with the device or with another answer, its spare room included.
func TestAnswersAreNew(t *testing.T) {
	d := made(t, 16)
	write(t, d, 1, all(1))
	flush(t, d)
	for _, i := range []int{0, 1, 2} {
		if i == 2 {
			write(t, d, 2, all(2))
		}
		a, _ := d.Read(i)
		b, _ := d.Read(i)
		want := bytes.Clone(b)
		for k, a := 0, a[:cap(a)]; k < len(a); k++ {
			a[k] ^= 0xff
		}
		if !bytes.Equal(b, want) {
			t.Errorf("two answers of sector %d share memory", i)
		}
		read(t, d, i, want)
	}
	d.Crash(nil)
	read(t, d, 2, all(0))
	write(t, d, 3, all(3))
	write(t, d, 4, all(4))
	v, w := d.Waiting(), d.Waiting()
	for k, v := 0, v[:cap(v)]; k < len(v); k++ {
		v[k] = -1
	}
	if !slices.Equal(w, []int{3, 4}) {
		t.Errorf("two answers of Waiting share memory: %v", w)
	}
	waiting(t, d, 3, 4)
}

// Two devices know nothing of one another.
func TestTwoDevices(t *testing.T) {
	a, b := made(t, 16), made(t, 16)
	write(t, a, 0, all(1))
	flush(t, a)
	a.Spoil(1, 0, 1)
	a.Fail(api.FailRead, 0)
	write(t, a, 2, all(1))
	waiting(t, b)
	for i := range 16 {
		read(t, b, i, all(0))
	}
	b.Crash(nil)
	waiting(t, a, 2)
}

// model is a device as the chapter words it, with nothing left out: each sector has its bytes now, those that last, and a queue.
type model struct {
	now, lasts []string
	queue      [][]string
	fail       map[int]int
	writes     int
}

func (m *model) fails(what int) bool {
	n, told := m.fail[what]
	if !told {
		return false
	}
	m.fail[what] = n - 1
	if n == 0 {
		delete(m.fail, what)
	}
	return n == 0
}

func (m *model) write(i int, b string) api.Errno {
	if i < 0 || i >= len(m.now) || len(b) != 256 {
		return api.ErrArg
	}
	if m.fails(2) {
		return api.ErrIO
	}
	m.now[i] = b
	m.queue[i] = append(m.queue[i], b)
	m.writes++
	return api.OK
}

func (m *model) flush() api.Errno {
	if m.fails(3) {
		return api.ErrIO
	}
	for i := range m.now {
		m.lasts[i], m.queue[i] = m.now[i], nil
	}
	return api.OK
}

func (m *model) crash(l []int) {
	for i := range m.now {
		if len(m.queue[i]) > 0 {
			n := 0
			if len(l) > 0 {
				n, l = l[0], l[1:]
			}
			n = max(0, min(n, len(m.queue[i])))
			m.lasts[i] = append([]string{m.lasts[i]}, m.queue[i]...)[n]
		}
		m.now[i], m.queue[i] = m.lasts[i], nil
	}
	m.fail = map[int]int{}
}

func (m *model) spoil(i, at int, by byte) bool {
	if i < 0 || i >= len(m.now) || at < 0 || at > 255 {
		return false
	}
	change := func(s string) string {
		return s[:at] + string([]byte{s[at] ^ by}) + s[at+1:]
	}
	m.now[i], m.lasts[i] = change(m.now[i]), change(m.lasts[i])
	for k := range m.queue[i] {
		m.queue[i][k] = change(m.queue[i][k])
	}
	return true
}

func (m *model) waiting() []int {
	var l []int
	for i, q := range m.queue {
		if len(q) > 0 {
			l = append(l, i)
		}
	}
	return l
}

// step does one call, chosen by r, of both, and tells what differs.
func step(r *rand.Rand, d *dev.Device, m *model) string {
	i := r.Intn(8) - 1
	if r.Intn(4) == 0 {
		i = r.Intn(len(m.now)+4) - 2
	}
	switch r.Intn(8) {
	case 0, 1, 2:
		b := make([]byte, 256-r.Intn(30)/29)
		r.Read(b)
		if e, want := d.Write(i, b), m.write(i, string(b)); e != want {
			return fmt.Sprint("Write ", i, e, want)
		}
	case 3, 4:
		b, e := d.Read(i)
		s, want := "", api.ErrArg
		if i >= 0 && i < len(m.now) {
			s, want = m.now[i], api.OK
			if m.fails(1) {
				s, want = "", api.ErrIO
			}
		}
		if string(b) != s || e != want {
			return fmt.Sprint("Read ", i, e, want)
		}
	case 5:
		at, by := r.Intn(260)-2, byte(r.Int())
		if ok, want := d.Spoil(i, at, by), m.spoil(i, at, by); ok != want {
			return fmt.Sprint("Spoil ", i, at, ok, want)
		}
	case 6:
		what, after := r.Intn(5), r.Intn(6)-1
		want := api.ErrArg
		if what >= 1 && what <= 3 && after >= 0 {
			m.fail[what], want = after, api.OK
		}
		if e := d.Fail(what, after); e != want {
			return fmt.Sprint("Fail ", what, after, e, want)
		}
	case 7:
		if r.Intn(2) == 0 {
			if e, want := d.Flush(), m.flush(); e != want {
				return fmt.Sprint("Flush ", e, want)
			}
			break
		}
		l := make([]int, r.Intn(8))
		for k := range l {
			l[k] = r.Intn(7) - 2
		}
		d.Crash(l)
		m.crash(l)
	}
	if !slices.Equal(d.Waiting(), m.waiting()) || d.Writes() != m.writes {
		return fmt.Sprint("Waiting ", d.Waiting(), m.waiting(), d.Writes(), m.writes)
	}
	return ""
}

// P3.1 to P3.6: many calls, in whatever order, answer as the model does, and all sectors are as its are.
func TestAsTheModel(t *testing.T) {
	for seed := range 200 {
		r := rand.New(rand.NewSource(int64(seed)))
		n := 16 + seed%5
		d := made(t, n)
		m := &model{lasts: slices.Repeat([]string{string(all(0))}, n), queue: make([][]string, n), fail: map[int]int{}}
		m.now = slices.Clone(m.lasts)
		for k := range 400 {
			if s := step(r, d, m); s != "" {
				t.Fatalf("seed %d, call %d: %s", seed, k, s)
			}
		}
		m.fail = map[int]int{}
		for what := api.FailRead; what <= api.FailFlush; what++ {
			d.Fail(what, math.MaxInt)
		}
		for i := range n {
			read(t, d, i, []byte(m.now[i]))
		}
		d.Crash(nil)
		m.crash(nil)
		for i := range n {
			read(t, d, i, []byte(m.now[i]))
		}
	}
}
