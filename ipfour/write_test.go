package ipfour_test

import (
	"bytes"
	"math"
	"testing"

	"stanchion/api"
	"stanchion/ipfour"
)

// P13.2: packets with sums that are reckoned by hand, one of no data.
func TestWriteTold(t *testing.T) {
	for _, x := range []struct {
		h    api.Head
		data []byte
		want string
	}{
		{api.Head{Proto: 17, Src: hostA, Dst: hostB, Hops: 64}, nil, "45000014000000004011f8c0c0a80001c0a800c7"},
		{api.Head{Proto: 6, Src: four(10, 0, 0, 1), Dst: four(10, 0, 0, 2), Hops: 1}, []byte{1, 2, 3}, "45000017000000000106a5df0a0000010a000002" + "010203"},
	} {
		b, e := ipfour.Write(x.h, x.data)
		if want := unhex(x.want); e != api.OK || !bytes.Equal(b, want) {
			t.Errorf("Write of %v is %x, %d, not %x", x.h, b, e, want)
		}
	}
}

// sound are heads that may be written.
func sound() []api.Head {
	return []api.Head{
		{Src: four(0, 0, 0, 0), Dst: four(0, 0, 0, 0), Hops: 1},
		{Proto: 255, Src: four(255, 255, 255, 255), Dst: four(255, 255, 255, 255), Hops: 255},
		{Proto: 6, Src: four(1, 2, 3, 4), Dst: four(5, 6, 7, 8), Hops: 64},
		{Proto: 17, Src: hostA, Dst: hostB, Hops: 128},
	}
}

// P13.2: all that is wrong in a head is ErrArg, alone, with others, and ahead of data that is too long.
func TestWriteErrArg(t *testing.T) {
	six := api.Addr{Six: true, B: [16]byte{0x20, 1, 15: 1}}
	likeFour := api.Addr{Six: true, B: four(1, 2, 3, 4).B}
	wrong := []func(h *api.Head){
		func(h *api.Head) { h.Six = true },
		func(h *api.Head) { h.Src = six },
		func(h *api.Head) { h.Dst = six },
		func(h *api.Head) { h.Src = likeFour },
		func(h *api.Head) { h.Dst = likeFour },
		func(h *api.Head) { h.Src = api.Addr{Six: true} },
		func(h *api.Head) { h.Dst = api.Addr{Six: true} },
		func(h *api.Head) { h.Hops = 0 },
		func(h *api.Head) { h.Part = true },
	}
	for at := range 12 {
		for bit := range 8 {
			wrong = append(wrong, func(h *api.Head) { h.Src.B[at] |= 1 << bit }, func(h *api.Head) { h.Dst.B[at] |= 1 << bit })
		}
	}
	for _, h := range sound() {
		for i := range wrong {
			for k := 0; k <= i; k++ {
				x := h
				wrong[i](&x)
				if k < i && i < 9 {
					wrong[k](&x)
				}
				for _, size := range []int{0, 20, 2028, 2029} {
					if b, e := ipfour.Write(x, make([]byte, size)); b != nil || e != api.ErrArg {
						t.Errorf("Write of %v and %d bytes is %d bytes, %d", x, size, len(b), e)
					}
				}
				if i >= 9 {
					break
				}
			}
		}
	}
}

// P13.2: each number of bytes of data; more than 2028 are too many.
func TestWriteSizes(t *testing.T) {
	data := text(5000, 61)
	for _, h := range sound()[1:3] {
		for size := range 5000 {
			b, e := asWrite(t, h, data[:size])
			if (e == api.OK) != (size <= 2028) || e == api.OK && len(b) != 20+size {
				t.Errorf("%d bytes of data: %d bytes, %d", size, len(b), e)
			}
		}
		for _, size := range []int{1<<16 - 20, 1 << 16, 1<<16 + 8, 1 << 20, 1 << 24} {
			if b, e := ipfour.Write(h, make([]byte, size)); b != nil || e != api.ErrLong {
				t.Errorf("%d bytes of data: %d bytes, %d", size, len(b), e)
			}
		}
	}
}

// P13.2: At plays no part in what is written.
func TestWriteAt(t *testing.T) {
	for _, h := range sound() {
		for _, at := range []int{math.MinInt, -1, 0, 1, 19, 20, 21, 24, 60, 1 << 16, math.MaxInt} {
			h.At = at
			if b, e := asWrite(t, h, []byte{9, 8, 7}); e != api.OK || b[0] != 0x45 {
				t.Errorf("At %d: %x, %d", at, b, e)
			}
		}
	}
}

// P13.2: Hops and Proto, each of them with each; the bytes that are to be 0 are 0.
func TestWriteHopsAndProto(t *testing.T) {
	h := sound()[3]
	for n := range 1 << 16 {
		h.Hops, h.Proto = byte(n>>8), byte(n)
		b, e := ipfour.Write(h, nil)
		if h.Hops == 0 {
			if b != nil || e != api.ErrArg {
				t.Fatalf("no hops: %x, %d", b, e)
			}
			continue
		}
		if want, _ := slowWrite(h, nil); e != api.OK || !bytes.Equal(b, want) || b[1]|b[4]|b[5]|b[6]|b[7] != 0 {
			t.Fatalf("%v: %x, %d, not %x", h, b, e, want)
		}
	}
}

// P13.2: a sum that carries more than once, and one that is 0.
func TestWriteSums(t *testing.T) {
	for n := range 1 << 16 {
		h := api.Head{Proto: 1, Src: four(0, 0, byte(n>>8), byte(n)), Dst: four(255, 255, 255, 255), Hops: 1}
		want, _ := slowWrite(h, nil)
		if b, e := ipfour.Write(h, nil); e != api.OK || !bytes.Equal(b, want) {
			t.Fatalf("%v: %x, %d, not %x", h, b, e, want)
		}
	}
}

// P13.2, P13.3: drawn heads and data: the packet's bytes, and Read of it is the head, with At 20, and the data is behind.
func TestWriteAndRead(t *testing.T) {
	r := draw(62)
	for range 40000 {
		h := api.Head{
			Proto: byte(r.Uint32()), At: r.IntN(100) - 30, Hops: byte(1 + r.IntN(255)),
			Src: four(text(4, r.Uint64())...), Dst: four(text(4, r.Uint64())...),
		}
		size := r.IntN(50)
		if r.IntN(10) == 0 {
			size = r.IntN(2029)
		}
		data := text(size, r.Uint64())
		b, e := ipfour.Write(h, data)
		if e != api.OK || len(b) < 20 || !bytes.Equal(b[20:], data) {
			t.Fatalf("Write of %v and %x is %x, %d", h, data, b, e)
		}
		asWrite(t, h, data)
		h.At = 20
		wantRead(t, "as written", b, h, api.OK)
	}
}

// P13.3: there and back at the edges of the sizes.
func TestThereAndBackEdges(t *testing.T) {
	for _, h := range sound() {
		h.At = 20
		for _, size := range []int{0, 1, 235, 236, 237, 2027, 2028} {
			b, e := ipfour.Write(h, bytes.Repeat([]byte{255}, size))
			if e != api.OK {
				t.Errorf("%v, %d bytes: %d", h, size, e)
			}
			wantRead(t, "as written", b, h, api.OK)
		}
	}
}

// P13.2: heads of all kinds, most of them wrong, held against the document's words.
func TestWriteDrawn(t *testing.T) {
	r := draw(63)
	few := func(n int) bool { return r.IntN(n) == 0 }
	address := func() api.Addr {
		a := four(text(4, r.Uint64())...)
		a.Six = few(8)
		if a.Six || few(8) {
			a.B[r.IntN(16)] = byte(r.IntN(3))
		}
		return a
	}
	wrong := 0
	for range 60000 {
		h := api.Head{Six: few(10), Proto: byte(r.Uint32()), At: r.IntN(30), Src: address(), Dst: address(), Part: few(10), Hops: byte(r.IntN(9))}
		size := r.IntN(6)
		if few(10) {
			size = 2026 + r.IntN(6)
		}
		if _, e := asWrite(t, h, make([]byte, size)); e != api.OK {
			wrong++
		}
	}
	if wrong < 10000 || wrong > 50000 {
		t.Errorf("%d of 60000 are wrong", wrong)
	}
}
