package ipsix_test

import (
	"bytes"
	"math"
	"testing"

	"stanchion/api"
	"stanchion/ipsix"
)

// sound are heads that may be written.
func sound() []api.Head {
	return []api.Head{
		{Six: true, Proto: 1, Src: six(nil), Dst: six(nil), Hops: 1},
		{Six: true, Proto: 255, Src: six(bytes.Repeat([]byte{255}, 16)), Dst: six(bytes.Repeat([]byte{255}, 16)), Hops: 255},
		{Six: true, Proto: 6, Src: hostA, Dst: hostB, Hops: 64},
		{Six: true, Proto: 17, Src: six(unhex("000000000000000000000000 0a000001")), Dst: six(unhex("000000000000000000000000 0a000002")), Hops: 128},
	}
}

// P14.3: packets that are told by hand, one of no data.
func TestWriteTold(t *testing.T) {
	for _, x := range []struct {
		h    api.Head
		data []byte
		want string
	}{
		{api.Head{Six: true, Proto: 59, Src: hostA, Dst: hostB, Hops: 1}, nil, "60000000 0000 3b 01" + addresses},
		{api.Head{Six: true, Proto: 6, Src: hostA, Dst: hostB, Hops: 64}, []byte{1, 2, 3}, "60000000 0003 06 40" + addresses + "010203"},
		{api.Head{Six: true, Proto: 17, Src: hostB, Dst: hostA, Hops: 255}, make([]byte, 300), "60000000 012c 11 ff fe800000000000000202b3fffe1e8329 20010db8000000000000000000000001" + string(bytes.Repeat([]byte("00"), 300))},
	} {
		b, e := ipsix.Write(x.h, x.data)
		if want := unhex(x.want); e != api.OK || !bytes.Equal(b, want) {
			t.Errorf("Write of %v is %x, %d, not %x", x.h, b, e, want)
		}
	}
}

// P14.3: all that is wrong in a head is ErrArg: all choices of it, with each Proto that may not be and one that may, and ahead of data that is too long.
func TestWriteErrArg(t *testing.T) {
	wrong := []func(h *api.Head){
		func(h *api.Head) { h.Six = false },
		func(h *api.Head) { h.Src.Six = false },
		func(h *api.Head) { h.Dst.Six = false },
		func(h *api.Head) { h.Hops = 0 },
		func(h *api.Head) { h.Part = true },
	}
	for _, h := range sound() {
		for choice := range 1 << len(wrong) {
			for _, proto := range append(kinds(), h.Proto) {
				if choice == 0 && proto == h.Proto {
					continue
				}
				x := h
				x.Proto = proto
				for i := range wrong {
					if choice>>i&1 == 1 {
						wrong[i](&x)
					}
				}
				for _, size := range []int{0, 1, 40, 2008, 2009, 5000} {
					if b, e := ipsix.Write(x, make([]byte, size)); b != nil || e != api.ErrArg {
						t.Errorf("Write of %v and %d bytes is %d bytes, %d", x, size, len(b), e)
					}
				}
			}
		}
	}
}

// P14.3: addresses of IPv4 are ErrArg, good or not.
func TestWriteErrArgAddresses(t *testing.T) {
	for _, a := range []api.Addr{{}, {B: [16]byte{12: 10, 15: 1}}, {B: hostA.B}, {B: [16]byte{15: 1}}, {B: [16]byte{0: 1}}} {
		for _, h := range sound() {
			for _, size := range []int{0, 2008, 2009} {
				for _, x := range []api.Head{
					{Six: true, Proto: h.Proto, Src: a, Dst: h.Dst, Hops: h.Hops},
					{Six: true, Proto: h.Proto, Src: h.Src, Dst: a, Hops: h.Hops},
					{Six: true, Proto: h.Proto, Src: a, Dst: a, Hops: h.Hops},
				} {
					if b, e := ipsix.Write(x, make([]byte, size)); b != nil || e != api.ErrArg {
						t.Errorf("Write of %v and %d bytes is %d bytes, %d", x, size, len(b), e)
					}
				}
			}
		}
	}
	if b, e := ipsix.Write(api.Head{}, nil); b != nil || e != api.ErrArg {
		t.Errorf("Write of the zero head is %x, %d", b, e)
	}
}

// P14.3: each number of bytes of data; more than 2008 are too many.
func TestWriteSizes(t *testing.T) {
	data := text(5000, 61)
	for _, h := range sound()[1:3] {
		for size := range 5000 {
			b, e := asWrite(t, h, data[:size])
			if (e == api.OK) != (size <= 2008) || e == api.OK && len(b) != 40+size || e != api.OK && (b != nil || e != api.ErrLong) {
				t.Errorf("%d bytes of data: %d bytes, %d", size, len(b), e)
			}
		}
		for _, size := range []int{1<<16 - 40, 1<<16 - 1, 1 << 16, 1<<16 + 8, 1 << 20, 1 << 24} {
			if b, e := ipsix.Write(h, make([]byte, size)); b != nil || e != api.ErrLong {
				t.Errorf("%d bytes of data: %d bytes, %d", size, len(b), e)
			}
		}
	}
}

// P14.3: Hops and Proto, each of them with each; the bytes that are to be 0 are 0.
func TestWriteHopsAndProto(t *testing.T) {
	h := sound()[2]
	for n := range 1 << 16 {
		h.Hops, h.Proto = byte(n>>8), byte(n)
		b, e := ipsix.Write(h, []byte{7, 9})
		if h.Hops == 0 || stands(h.Proto) {
			if b != nil || e != api.ErrArg {
				t.Fatalf("%v: %x, %d", h, b, e)
			}
			continue
		}
		want := []byte{0x60, 0, 0, 0, 0, 2, h.Proto, h.Hops}
		if e != api.OK || len(b) != 42 || !bytes.Equal(b[:8], want) {
			t.Fatalf("%v: %x, %d, not %x", h, b, e, want)
		}
	}
}

// P14.3: At plays no part in what is written.
func TestWriteAt(t *testing.T) {
	for _, h := range sound() {
		for _, at := range []int{math.MinInt, -1, 0, 1, 20, 39, 40, 41, 48, 1 << 16, math.MaxInt} {
			h.At = at
			if b, e := asWrite(t, h, []byte{9, 8, 7}); e != api.OK || b[0] != 0x60 {
				t.Errorf("At %d: %x, %d", at, b, e)
			}
		}
	}
}

// P14.3, P14.4: drawn heads and data: the packet's bytes, and Read of it is the head, with At 40, and the data is behind.
func TestWriteAndRead(t *testing.T) {
	r := draw(62)
	for range 40000 {
		h := api.Head{
			Six: true, Proto: byte(r.Uint32()), At: r.IntN(100) - 30, Hops: byte(1 + r.IntN(255)),
			Src: six(text(16, r.Uint64())), Dst: six(text(16, r.Uint64())),
		}
		if stands(h.Proto) {
			h.Proto++
		}
		if stands(h.Proto) {
			h.Proto = 6
		}
		size := r.IntN(50)
		if r.IntN(10) == 0 {
			size = r.IntN(2009)
		}
		data := text(size, r.Uint64())
		b, e := ipsix.Write(h, data)
		if e != api.OK || len(b) < 40 || !bytes.Equal(b[40:], data) {
			t.Fatalf("Write of %v and %x is %x, %d", h, data, b, e)
		}
		asWrite(t, h, data)
		h.At = 40
		wantRead(t, "as written", b, h, api.OK)
	}
}

// P14.4: there and back at the edges of the sizes, with each Proto that may be.
func TestThereAndBackEdges(t *testing.T) {
	for _, h := range sound() {
		for proto := range 256 {
			if stands(byte(proto)) {
				continue
			}
			h.Proto, h.At = byte(proto), 40
			for _, size := range []int{0, 1, 8, 215, 216, 255, 256, 257, 2007, 2008} {
				for _, x := range []byte{0, 44, 255} {
					b, e := ipsix.Write(h, bytes.Repeat([]byte{x}, size))
					if e != api.OK {
						t.Errorf("%v, %d bytes: %d", h, size, e)
					}
					wantRead(t, "as written", b, h, api.OK)
				}
			}
		}
	}
}

// P14.3: heads of all kinds, most of them wrong, held against the document's words.
func TestWriteDrawn(t *testing.T) {
	r := draw(63)
	few := func(n int) bool { return r.IntN(n) == 0 }
	address := func() api.Addr {
		a := six(text(16, r.Uint64()))
		a.Six = !few(8)
		return a
	}
	seen := map[api.Errno]int{}
	for range 60000 {
		h := api.Head{Six: !few(10), Proto: byte(r.Uint32()), At: r.IntN(50), Src: address(), Dst: address(), Part: few(10), Hops: byte(r.IntN(15))}
		if few(8) {
			h.Proto = kinds()[r.IntN(4)]
		}
		size := r.IntN(6)
		if few(5) {
			size = 2006 + r.IntN(6)
		}
		_, e := asWrite(t, h, make([]byte, size))
		seen[e]++
	}
	if seen[api.OK] < 10000 || seen[api.ErrArg] < 10000 || seen[api.ErrLong] < 1000 {
		t.Errorf("what came how often: %v", seen)
	}
}
