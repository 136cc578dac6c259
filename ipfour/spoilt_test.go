package ipfour_test

import (
	"testing"

	"stanchion/api"
	"stanchion/ipfour"
)

// P13.4: a head that Write wrote, one byte of which is each other one: an error, and which one.
func TestSpoiltWritten(t *testing.T) {
	r := draw(41)
	for range 40 {
		h := api.Head{Proto: byte(r.Uint32()), Src: four(text(4, r.Uint64())...), Dst: four(text(4, r.Uint64())...), Hops: byte(1 + r.IntN(255))}
		b, e := ipfour.Write(h, text(r.IntN(300), r.Uint64()))
		if e != api.OK {
			t.Fatal(e)
		}
		wantSpoilt(t, b, 20)
	}
}

// P13.4: the same of heads with options, and of such as Write does not write.
func TestSpoiltOptions(t *testing.T) {
	r := draw(42)
	for n := 5; n <= 15; n++ {
		for range 4 {
			wantSpoilt(t, packet(r, n, 4*n+r.IntN(100)), 4*n)
		}
	}
}

// wantSpoilt holds all packets that are b, but for one byte of its at first ones.
func wantSpoilt(t *testing.T, b []byte, at int) {
	t.Helper()
	if _, e := asRead(t, "not spoilt", b); e != api.OK {
		t.Fatalf("%x: %d", b, e)
	}
	for i := range at {
		was := b[i]
		for d := 1; d < 256; d++ {
			b[i] = was + byte(d)
			_, e := asRead(t, "spoilt", b)
			if e == api.OK || i != 0 && i != 2 && i != 3 && e != api.ErrSum {
				t.Errorf("byte %d is %02x, was %02x: %d", i, b[i], was, e)
			}
		}
		b[i] = was
	}
}

// P13.4: another error is ahead: of the first byte, and of those that say how many bytes there are.
func TestSpoiltAhead(t *testing.T) {
	b := packet(draw(43), 5, 40)
	for _, x := range []struct {
		at   int
		x    byte
		want api.Errno
	}{
		{0, 0x55, api.ErrVersion}, {0, 0x65, api.ErrVersion}, {0, 0x44, api.ErrForm}, {0, 0x4b, api.ErrShort}, {0, 0x4a, api.ErrSum}, {0, 0x46, api.ErrSum},
		{2, 1, api.ErrShort}, {2, 255, api.ErrShort}, {3, 41, api.ErrShort}, {3, 39, api.ErrLong}, {3, 20, api.ErrLong}, {3, 19, api.ErrForm}, {3, 0, api.ErrForm},
		{1, b[1] ^ 1, api.ErrSum}, {4, b[4] ^ 1, api.ErrSum}, {5, b[5] ^ 1, api.ErrSum}, {6, b[6] | 0x80, api.ErrSum}, {8, 0, api.ErrSum},
	} {
		wantErr(t, "spoilt", put(b, x.at, x.x), x.want)
	}
}

// P13.1: where the data makes up for it, a head that is told to be longer is a head.
func TestSpoiltMadeUp(t *testing.T) {
	b := packet(draw(44), 5, 40)
	b[20], b[21], b[22], b[23] = 0xfe, 0xff, 0, 0
	h, e := asRead(t, "as it is", b)
	if e != api.OK || h.At != 20 {
		t.Fatalf("%v, %d", h, e)
	}
	h.At = 24
	wantRead(t, "a longer head", put(b, 0, 0x46), h, api.OK)
}
