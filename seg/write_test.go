package seg_test

import (
	"bytes"
	"math"
	"testing"

	"stanchion/api"
	"stanchion/seg"
)

// sound is a seg that may be written.
var sound = api.Seg{Src: 0x1234, Dst: 0xfedc, Flags: 0xa5}

// P15.3: segments that are told by hand: the chapter's example is the first one.
func TestWriteTold(t *testing.T) {
	hostA, hostB := four(10, 0, 0, 1), four(10, 0, 0, 2)
	oneTwo := api.Seg{Src: 1, Dst: 2, Flags: 18}
	zero := oneTwo
	zero.Zero = true
	udp := api.Head{Proto: 17, Src: hostA, Dst: hostB}
	tcp := api.Head{Proto: 6, Src: hostA, Dst: hostB}
	udpSix := api.Head{Six: true, Proto: 17, Src: ends6(1), Dst: ends6(2)}
	tcpSix := api.Head{Six: true, Proto: 6, Src: ends6(1), Dst: ends6(2)}
	for _, x := range []struct {
		h    api.Head
		s    api.Seg
		data []byte
		want string
	}{
		{udp, oneTwo, nil, "0001 0002 0008 ebd8"},
		{udp, zero, nil, "0001 0002 0008 0000"},
		{udp, zero, []byte{9}, "0001 0002 0009 0000 09"},
		{udp, api.Seg{Src: 65534, Dst: 65535}, []byte{0x85}, "fffe ffff 0009 66da 85"},
		{tcp, oneTwo, nil, "0001 0002 00000000 00000000 5012 0000 9bcd 0000"},
		{tcp, zero, []byte{0x9b, 0xcb}, "0001 0002 00000000 00000000 5012 0000 0000 0000 9bcb"},
		{udp, oneTwo, []byte{0xeb, 0xd4}, "0001 0002 000a ffff ebd4"},
		{udpSix, oneTwo, []byte{0xff, 0xd4}, "0001 0002 000a ffff ffd4"},
		{udpSix, oneTwo, nil, "0001 0002 0008 ffd8"},
		{udpSix, zero, nil, "0001 0002 0008 ffd8"},
		{tcpSix, api.Seg{Src: 258, Dst: 772, Flags: 255}, nil, "0102 0304 00000000 00000000 50ff 0000 aadd 0000"},
	} {
		wantWrite(t, "told by hand", x.h, x.s, x.data, unhex(x.want), api.OK)
		asWrite(t, "the model", x.h, x.s, x.data)
	}
}

// P15.3: each Proto: all but two are ErrNone, ahead of all else.
func TestWriteProtos(t *testing.T) {
	for _, h := range heads() {
		for n := range 256 {
			h.Proto = byte(n)
			bad := h
			bad.Src.Six = !bad.Src.Six
			for _, size := range []int{0, 1, 1900, 1901} {
				for _, s := range []api.Seg{sound, {}, {Src: 1}} {
					for _, h := range []api.Head{h, bad} {
						_, e := asWrite(t, "a Proto", h, s, make([]byte, size))
						if (e == api.ErrNone) != (n != 6 && n != 17) {
							t.Errorf("Proto %d: %d", n, e)
						}
					}
				}
			}
		}
	}
}

// P15.3: all choices of what is wrong in the arguments, but for the Proto: ErrArg, ahead of data that is too long.
func TestWriteErrArg(t *testing.T) {
	wrong := []func(h *api.Head, s *api.Seg){
		func(h *api.Head, s *api.Seg) { s.Src = 0 },
		func(h *api.Head, s *api.Seg) { s.Dst = 0 },
		func(h *api.Head, s *api.Seg) { h.Six = !h.Six },
		func(h *api.Head, s *api.Seg) { h.Src.Six = !h.Src.Six },
		func(h *api.Head, s *api.Seg) { h.Dst.Six = !h.Dst.Six },
		func(h *api.Head, s *api.Seg) { h.Src = api.Addr{B: [16]byte{11: 1, 15: 1}} },
		func(h *api.Head, s *api.Seg) { h.Dst = api.Addr{B: [16]byte{0: 1, 15: 1}} },
	}
	for _, first := range heads() {
		for choice := 1; choice < 1<<len(wrong); choice++ {
			h, s := first, sound
			for i := range wrong {
				if choice>>i&1 == 1 {
					wrong[i](&h, &s)
				}
			}
			for _, size := range []int{0, 1, 1900, 1901, 5000} {
				for _, s.Zero = range []bool{false, true} {
					b, e := asWrite(t, "wrong", h, s, make([]byte, size))
					kinds := choice >> 2 & 7
					if choice>>5 == 0 && (choice&3 != 0 || kinds != 0 && kinds != 7) && (b != nil || e != api.ErrArg) {
						t.Errorf("choice %b, %d bytes: %x, %d", choice, size, b, e)
					}
				}
			}
		}
	}
}

// P15.3: of IPv4 each bit of an address's first twelve bytes lets it be none; of IPv6 each bit may be.
func TestWriteAddressBits(t *testing.T) {
	for _, h := range heads() {
		for i := range 128 {
			want := api.OK
			if !h.Six && i < 96 {
				want = api.ErrArg
			}
			src, dst := h, h
			src.Src.B[i/8] ^= 1 << (i % 8)
			dst.Dst.B[i/8] ^= 1 << (i % 8)
			for _, x := range []api.Head{src, dst} {
				if _, e := asWrite(t, "a bit", x, sound, []byte{1, 2, 3}); e != want {
					t.Errorf("bit %d of %v: %d, not %d", i, x, e, want)
				}
			}
		}
	}
}

// P15.3: ports of 0, each alone and both, and each other number.
func TestWritePorts(t *testing.T) {
	for _, h := range heads() {
		for _, x := range [][2]uint16{{0, 0}, {0, 1}, {1, 0}, {0, 65535}, {65535, 0}, {0, 256}, {256, 0}} {
			wantWrite(t, "no port", h, api.Seg{Src: x[0], Dst: x[1]}, nil, nil, api.ErrArg)
			wantWrite(t, "no port", h, api.Seg{Src: x[0], Dst: x[1], Zero: true}, make([]byte, 1901), nil, api.ErrArg)
		}
		for n := 1; n < 1<<16; n++ {
			s := api.Seg{Src: uint16(n), Dst: uint16(n*7919) | 1, Flags: byte(n)}
			if b, e := asWrite(t, "ports", h, s, nil); e != api.OK || number(b, 0) != n || number(b, 2) != n*7919&0xffff|1 {
				t.Fatalf("%v: %x, %d", s, b, e)
			}
		}
	}
}

// P15.3: each number of bytes of data; more than 1900 are too many.
func TestWriteSizes(t *testing.T) {
	data := text(3000, 61)
	for _, h := range heads() {
		least := 8
		if h.Proto == 6 {
			least = 20
		}
		for _, zero := range []bool{false, true} {
			s := sound
			s.Zero = zero
			for size := range 3000 {
				b, e := asWrite(t, "a size", h, s, data[:size])
				if size > 1900 && (e != api.ErrLong || b != nil) || size <= 1900 && (e != api.OK || len(b) != least+size || !bytes.Equal(b[least:], data[:size])) {
					t.Errorf("%d bytes of data: %d bytes, %d", size, len(b), e)
				}
			}
			for _, size := range []int{1<<16 - 20, 1<<16 - 8, 1 << 16, 1<<16 + 1900, 1 << 20, 1 << 24} {
				wantWrite(t, "far too long", h, s, make([]byte, size), nil, api.ErrLong)
			}
		}
	}
}

// P15.3: of TCP the bytes that are to be 0 are 0, and byte 12 tells of twenty bytes, whatever the flags are.
func TestWriteTCPBytes(t *testing.T) {
	r := draw(62)
	for _, h := range tcps() {
		for n := range 256 {
			s := api.Seg{Src: uint16(1 + r.IntN(65535)), Dst: uint16(1 + r.IntN(65535)), Flags: byte(n)}
			b, e := seg.Write(h, s, text(n, r.Uint64()))
			if e != api.OK || len(b) != 20+n || !bytes.Equal(b[4:14], []byte{0, 0, 0, 0, 0, 0, 0, 0, 0x50, byte(n)}) || b[14]|b[15]|b[18]|b[19] != 0 {
				t.Errorf("%v: %x, %d", s, b, e)
			}
		}
	}
}

// P15.3: flags are TCP's alone, SumAt and Data play no part; nor does what a head says beside its kind, its Proto, its addresses.
func TestWriteOther(t *testing.T) {
	for _, h := range heads() {
		s := sound
		want, _ := slowWrite(h, s, []byte{1, 2, 3})
		for _, n := range []int{math.MinInt, -1, 0, 1, 6, 8, 16, 20, 1 << 16, math.MaxInt} {
			s.SumAt, s.Data = n, -n
			if h.Proto == 17 {
				s.Flags = byte(n)
			}
			h.At, h.Part, h.Hops = n, n > 7, byte(n)
			wantWrite(t, "other things", h, s, []byte{1, 2, 3}, want, api.OK)
		}
	}
}

// P15.3: Zero counts of UDP and IPv4 alone: there it has no sum, whatever the data is; all others have theirs.
func TestWriteZero(t *testing.T) {
	r := draw(63)
	for range 2000 {
		for _, h := range heads() {
			s, zero := sound, sound
			zero.Zero = true
			data := text(r.IntN(60), r.Uint64())
			with, _ := asWrite(t, "with a sum", h, s, data)
			want := with
			if h == udp4 {
				want = put2(with, 6, 0)
			}
			wantWrite(t, "Zero", h, zero, data, want, api.OK)
			if h.Proto == 17 && number(with, 6) == 0 {
				t.Errorf("%x has no sum", with)
			}
			read := api.Seg{Src: s.Src, Dst: s.Dst, SumAt: 6, Data: 8, Zero: h == udp4}
			if h.Proto == 6 {
				read = api.Seg{Src: s.Src, Dst: s.Dst, Flags: s.Flags, SumAt: 16, Data: 20}
			}
			wantRead(t, "Zero", h, want, read, api.OK)
		}
	}
}

// P15.3: each sum, by each two bytes of data: of UDP ffff in place of 0, of TCP 0.
func TestWriteEachSum(t *testing.T) {
	for _, h := range heads() {
		seen := make([]bool, 1<<16)
		for n := range 1 << 16 {
			b, e := asWrite(t, "a sum", h, sound, []byte{byte(n >> 8), byte(n)})
			if e != api.OK {
				t.Fatal(e)
			}
			seen[number(b, sumAt(h))] = true
			want := api.Seg{Src: sound.Src, Dst: sound.Dst, SumAt: sumAt(h), Data: len(b) - 2}
			if h.Proto == 6 {
				want.Flags = sound.Flags
			}
			wantRead(t, "as written", h, b, want, api.OK)
		}
		for n, s := range seen {
			if s != (n != 0 && n != 65535) && s != (n == 0 && h.Proto == 6 || n == 65535 && h.Proto == 17) {
				t.Errorf("%v: a sum of %d: %v", h, n, s)
			}
		}
	}
}

// P15.3: a sum that would be 0, with data of even and odd sizes.
func TestWriteSumOfNothing(t *testing.T) {
	r := draw(64)
	for _, h := range heads() {
		for range 500 {
			data := text(2+r.IntN(40), r.Uint64())
			data[0], data[1] = 0, 0
			b, _ := slowWrite(h, sound, data)
			n := number(b, sumAt(h))
			data[0], data[1] = byte(n>>8), byte(n)
			want := 65535
			if h.Proto == 6 {
				want = 0
			}
			b, e := seg.Write(h, sound, data)
			if e != api.OK || number(b, sumAt(h)) != want {
				t.Errorf("%v: %x, %d", h, b, e)
			}
			if s, e := asRead(t, "as written", h, b); e != api.OK || s.Zero {
				t.Errorf("%v: %v, %d", h, s, e)
			}
		}
	}
}

// P15.3, P15.4: drawn heads, segs and data: the segment's bytes, and Read of it is the ports and flags, and the data is behind.
func TestThereAndBack(t *testing.T) {
	r := draw(65)
	for range 40000 {
		h := drawn(r)
		s := api.Seg{Src: uint16(1 + r.IntN(65535)), Dst: uint16(1 + r.IntN(65535)), Flags: byte(r.Uint32()), Zero: r.IntN(3) == 0}
		size := r.IntN(50)
		if r.IntN(10) == 0 {
			size = r.IntN(1901)
		}
		data := text(size, r.Uint64())
		asWrite(t, "drawn", h, s, data)
		b, e := seg.Write(h, s, data)
		if e != api.OK {
			t.Fatalf("Write with %v of %v and %x is %x, %d", h, s, data, b, e)
		}
		want := api.Seg{Src: s.Src, Dst: s.Dst, SumAt: 6, Data: 8, Zero: s.Zero && !h.Six}
		if h.Proto == 6 {
			want = api.Seg{Src: s.Src, Dst: s.Dst, Flags: s.Flags, SumAt: 16, Data: 20}
		}
		wantRead(t, "as written", h, b, want, api.OK)
		if !bytes.Equal(b[want.Data:], data) {
			t.Fatalf("%x is not behind %x", data, b)
		}
	}
}

// P15.4: there and back at the edges of ports, flags and sizes.
func TestThereAndBackEdges(t *testing.T) {
	for _, h := range heads() {
		for _, ports := range [][2]uint16{{1, 1}, {1, 65535}, {65535, 1}, {65535, 65535}, {256, 255}} {
			for _, flags := range []byte{0, 1, 2, 4, 16, 18, 255} {
				for _, size := range []int{0, 1, 2, 247, 248, 1899, 1900} {
					for _, x := range []byte{0, 255} {
						s := api.Seg{Src: ports[0], Dst: ports[1], Flags: flags}
						b, e := asWrite(t, "at the edges", h, s, bytes.Repeat([]byte{x}, size))
						want := api.Seg{Src: ports[0], Dst: ports[1], SumAt: sumAt(h), Data: len(b) - size}
						if h.Proto == 6 {
							want.Flags = flags
						}
						wantRead(t, "as written", h, b, want, e)
					}
				}
			}
		}
	}
}

// Rules, First error: heads, segs and data of all kinds, many of them wrong, held against the document's words.
func TestWriteDrawn(t *testing.T) {
	r := draw(66)
	few := func(n int) bool { return r.IntN(n) == 0 }
	seen := map[api.Errno]int{}
	for range 60000 {
		h := drawn(r)
		s := api.Seg{Src: uint16(r.Uint32()), Dst: uint16(r.Uint32()), Flags: byte(r.Uint32()), SumAt: r.IntN(20), Data: r.IntN(20), Zero: few(2)}
		h.Six, h.Src.Six, h.Dst.Six = h.Six != few(12), h.Src.Six != few(12), h.Dst.Six != few(12)
		if few(12) {
			h.Proto = byte(r.Uint32())
		}
		if few(12) {
			s.Src = 0
		}
		if few(12) {
			s.Dst = 0
		}
		if few(12) {
			h.Src.B[r.IntN(16)]++
		}
		size := r.IntN(6)
		if few(10) {
			size = 1898 + r.IntN(6)
		}
		_, e := asWrite(t, "drawn", h, s, make([]byte, size))
		seen[e]++
	}
	for _, e := range []api.Errno{api.OK, api.ErrNone, api.ErrArg, api.ErrLong} {
		if seen[e] < 500 {
			t.Errorf("error %d came but %d times", e, seen[e])
		}
	}
}
