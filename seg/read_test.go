package seg_test

import (
	"bytes"
	"testing"

	"stanchion/api"
)

// P15.2: segments with sums that are reckoned by hand, or by others: the chapter's example is the first one.
func TestReadTold(t *testing.T) {
	hostA, hostB := four(10, 0, 0, 1), four(10, 0, 0, 2)
	syn := api.Head{Proto: 6, Src: four(145, 254, 160, 237), Dst: four(65, 208, 228, 223)}
	for _, x := range []struct {
		h    api.Head
		data string
		want api.Seg
	}{
		{api.Head{Proto: 17, Src: hostA, Dst: hostB}, "0001 0002 0008 ebd8", api.Seg{Src: 1, Dst: 2, SumAt: 6, Data: 8}},
		{api.Head{Proto: 17, Src: hostA, Dst: hostB}, "0001 0002 0008 0000", api.Seg{Src: 1, Dst: 2, SumAt: 6, Data: 8, Zero: true}},
		{api.Head{Proto: 17, Src: hostA, Dst: hostB}, "fffe ffff 0009 66da 85", api.Seg{Src: 65534, Dst: 65535, SumAt: 6, Data: 8}},
		{syn, "0d2c 0050 38affe13 00000000 7002 2238 c30c 0000 020405b4 01010402", api.Seg{Src: 3372, Dst: 80, Flags: 2, SumAt: 16, Data: 28}},
		{api.Head{Six: true, Proto: 17, Src: ends6(1), Dst: ends6(2)}, "0001 0002 0008 ffd8", api.Seg{Src: 1, Dst: 2, SumAt: 6, Data: 8}},
		{api.Head{Six: true, Proto: 6, Src: ends6(1), Dst: ends6(2)}, "0102 0304 00000000 00000000 50ff 0000 aadd 0000", api.Seg{Src: 258, Dst: 772, Flags: 255, SumAt: 16, Data: 20}},
	} {
		wantRead(t, "told by hand", x.h, unhex(x.data), x.want, api.OK)
		asRead(t, "the model", x.h, unhex(x.data))
	}
}

// P15.2: each Proto: of all but two there is no segment, whatever the bytes are.
func TestReadProtos(t *testing.T) {
	r := draw(1)
	for _, h := range heads() {
		sound := segment(r, h, 6, 40)
		for n := range 256 {
			h.Proto = byte(n)
			for _, data := range [][]byte{nil, sound, sound[:7], make([]byte, 40)} {
				if _, e := asRead(t, "a Proto", h, data); (e == api.ErrNone) != (n != 6 && n != 17) {
					t.Errorf("Proto %d: %d", n, e)
				}
			}
		}
	}
}

// fault is what may be wrong in a segment, and how it becomes so.
type fault struct {
	what string
	do   func(b []byte) []byte
	want api.Errno
}

// tcpFaults are in the order in which they are told.
func tcpFaults() []fault {
	return []fault{
		{"19 bytes", func(b []byte) []byte { return b[:19] }, api.ErrShort},
		{"4 words", func(b []byte) []byte { return put(b, 12, 0x4f) }, api.ErrForm},
		{"11 words", func(b []byte) []byte { return put(b, 12, 0xb0) }, api.ErrShort},
		{"another sum", func(b []byte) []byte { return put(b, 17, b[17]^1) }, api.ErrSum},
		{"no port from", func(b []byte) []byte { return put(b, 0, 0, 0) }, api.ErrForm},
		{"no port to", func(b []byte) []byte { return put(b, 2, 0, 0) }, api.ErrForm},
	}
}

// udpFaults likewise; of IPv4 a sum that is 0 is no fault.
func udpFaults(sumless api.Errno) []fault {
	return []fault{
		{"7 bytes", func(b []byte) []byte { return b[:7] }, api.ErrShort},
		{"a size of 7", func(b []byte) []byte { return put2(b, 4, 7) }, api.ErrForm},
		{"a size above", func(b []byte) []byte { return put2(b, 4, len(b)+1) }, api.ErrShort},
		{"a size below", func(b []byte) []byte { return put2(b, 4, len(b)-1) }, api.ErrLong},
		{"a sum of 0", func(b []byte) []byte { return put2(b, 6, 0) }, sumless},
		{"another sum", func(b []byte) []byte { return put(b, 7, b[7]^1) }, api.ErrSum},
		{"no port from", func(b []byte) []byte { return put(b, 0, 0, 0) }, api.ErrForm},
		{"no port to", func(b []byte) []byte { return put(b, 2, 0, 0) }, api.ErrForm},
	}
}

// choices tries all choices of faults in sound segments: the first one is told. Those from sums to behind it change the sum, ahead of which all others are done, so that the sum is right where it is no fault.
func choices(t *testing.T, h api.Head, l []fault, sums, behind int, may func(choice int) bool) {
	t.Helper()
	for choice := range 1 << len(l) {
		if !may(choice) {
			continue
		}
		b := segment(draw(uint64(choice)), h, 5, 43)
		what, want := "", api.OK
		do := func(i int) {
			if choice>>i&1 == 1 {
				b = l[i].do(b)
			}
		}
		for i := len(l) - 1; i > 0; i-- {
			if i < sums || i >= behind {
				do(i)
			}
			if choice>>i&1 == 1 && l[i].want != api.OK {
				what, want = l[i].what+", "+what, l[i].want
			}
		}
		b = summed(h, b)
		for i := sums; i < behind; i++ {
			do(i)
		}
		do(0)
		if choice&1 == 1 {
			what, want = l[0].what+", "+what, l[0].want
		}
		if _, e := asRead(t, what, h, b); e != want {
			t.Errorf("%s: %d, not %d", what, e, want)
		}
	}
}

// P15.2: all choices of what may be wrong of TCP: each alone, and each ahead of those behind it.
func TestReadTCPFaults(t *testing.T) {
	for _, h := range tcps() {
		choices(t, h, tcpFaults(), 3, 4, func(choice int) bool {
			return choice>>1&3 != 3 // one field can't say two things
		})
	}
}

// P15.2: likewise of UDP.
func TestReadUDPFaults(t *testing.T) {
	for _, h := range udps() {
		sumless := api.OK
		if h.Six {
			sumless = api.ErrForm
		}
		choices(t, h, udpFaults(sumless), 4, 6, func(choice int) bool {
			return choice>>1&1+choice>>2&1+choice>>3&1 < 2 && choice>>4&3 != 3
		})
	}
}

// P15.2: each number of bytes, from none on, of sound segments, and of bytes that go on.
func TestReadSizes(t *testing.T) {
	r := draw(2)
	for _, h := range heads() {
		least := sumAt(h) + 2
		if h.Proto == 6 {
			least = 20
		}
		long := segment(r, h, 5, 3000)
		for size := range 3001 {
			want := api.OK
			if size < least {
				want = api.ErrShort
				wantErr(t, "too few bytes", h, make([]byte, size), want)
			} else {
				b := segment(r, h, 5, size)
				wantRead(t, "as many bytes", h, b, api.Seg{
					Src: uint16(number(b, 0)), Dst: uint16(number(b, 2)), Flags: flags(h, b), SumAt: sumAt(h), Data: least,
				}, want)
			}
			if _, e := asRead(t, "cut off", h, long[:size]); size < least && e != api.ErrShort || size < 3000 && e == api.OK {
				t.Errorf("%d bytes: %d", size, e)
			}
		}
		for _, size := range []int{65534, 65535} {
			if _, e := asRead(t, "long", h, segment(r, h, 5, size)); e != api.OK {
				t.Errorf("%d bytes: %d", size, e)
			}
		}
	}
}

// flags is byte 13 of TCP.
func flags(h api.Head, b []byte) byte {
	if h.Proto == 6 {
		return b[13]
	}
	return 0
}

// P15.2: of UDP the size has two bytes: more bytes are too many, not as many as two bytes of their number say.
func TestReadUDPFarTooLong(t *testing.T) {
	for _, h := range udps() {
		for _, size := range []int{65536, 65536 + 7, 65536 + 8, 65536 + 20, 2*65536 + 8, 1 << 24} {
			for _, says := range []int{8, 9, 20, size & 0xffff, 65535} {
				want := api.ErrLong
				if says < 8 {
					want = api.ErrForm
				}
				wantErr(t, "far too long", h, summed(h, put2(put(make([]byte, size), 0, 1, 1, 1, 1), 4, says)), want)
			}
		}
	}
}

// P15.2: of TCP each number in byte 12, with fewer bytes than it says, as many, and more.
func TestReadTCPWords(t *testing.T) {
	r := draw(3)
	for _, h := range tcps() {
		for first := range 256 {
			n := first >> 4
			for size := 20; size < 70; size++ {
				b := summed(h, put(segment(r, h, 5, size), 12, byte(first)))
				want := api.OK
				if n < 5 {
					want = api.ErrForm
				} else if size < 4*n {
					want = api.ErrShort
				}
				s, e := asRead(t, "words", h, b)
				if e != want || e == api.OK && (s.Data != 4*n || s.SumAt != 16 || s.Flags != b[13]) {
					t.Errorf("byte 12 is %02x, %d bytes: %v, %d", first, size, s, e)
				}
				if want == api.OK {
					want = api.ErrSum
				}
				b[size-1] ^= 1
				wantErr(t, "words and another sum", h, b, want)
			}
		}
	}
}

// P15.2: of TCP each byte 13 is the flags.
func TestReadTCPFlags(t *testing.T) {
	r := draw(4)
	for _, h := range tcps() {
		for n := range 256 {
			b := summed(h, put(segment(r, h, 7, 50), 13, byte(n)))
			want := api.Seg{Src: uint16(number(b, 0)), Dst: uint16(number(b, 2)), Flags: byte(n), SumAt: 16, Data: 28}
			wantRead(t, "flags", h, b, want, api.OK)
		}
	}
}

// P15.2: of UDP each number in bytes 4 and 5, with some numbers of bytes.
func TestReadUDPNumbers(t *testing.T) {
	r := draw(5)
	for _, h := range udps() {
		for _, size := range []int{8, 9, 21, 300} {
			b := segment(r, h, 0, size)
			for n := range 1 << 16 {
				b[4], b[5] = byte(n>>8), byte(n)
				want := api.ErrLong
				switch {
				case n < 8:
					want = api.ErrForm
				case n > size:
					want = api.ErrShort
				case n == size:
					want = api.OK
				}
				if _, e := asRead(t, "a size", h, b); e != want {
					t.Errorf("it has %d bytes and says %d: %d, not %d", size, n, e, want)
				}
			}
		}
	}
}

// P15.2: of UDP each size below 8 and a few more, with each number of bytes up to 30.
func TestReadUDPSizes(t *testing.T) {
	for _, h := range udps() {
		for says := range 40 {
			for size := range 31 {
				b := make([]byte, max(size, 8))
				b = summed(h, put(b, 0, 1, 2, 3, 4, 0, byte(says)))
				asRead(t, "a size", h, b[:size])
			}
		}
	}
}

// P15.2: of UDP, each sum: one is right, none is 0, all others are wrong; of TCP 0 is a sum like others.
func TestReadEachSum(t *testing.T) {
	r := draw(6)
	for _, h := range heads() {
		b := segment(r, h, 5, 45)
		right := number(b, sumAt(h))
		if right == 0 || right == 65535 {
			t.Fatal("draw another one")
		}
		for n := range 1 << 16 {
			want := api.ErrSum
			switch {
			case n == right, n == 0 && h == udp4:
				want = api.OK
			case n == 0 && h == udp6:
				want = api.ErrForm
			}
			s, e := asRead(t, "a sum", h, put2(b, sumAt(h), n))
			if e != want || s.Zero != (n == 0 && h == udp4) {
				t.Errorf("%v: the sum is %d, not %d: %v, %d, not %d", h, n, right, s, e, want)
			}
		}
	}
}

// P15.2: where all else makes up 65535, the sum may stand as 0 or turned: of UDP 0 is none.
func TestReadSumsOfNothing(t *testing.T) {
	r := draw(7)
	for _, h := range heads() {
		for range 200 {
			b := nothing(h, segment(r, h, 5, 40+r.IntN(20)))
			for n, want := range map[int]api.Errno{0: api.OK, 65535: api.OK, 1: api.ErrSum, 65534: api.ErrSum} {
				if n == 0 && h == udp6 {
					want = api.ErrForm
				}
				s, e := asRead(t, "a sum of nothing", h, put2(b, sumAt(h), n))
				if e != want || s.Zero != (n == 0 && h == udp4) {
					t.Errorf("%v, %d: %v, %d", h, n, s, e)
				}
			}
		}
	}
}

// nothing is a copy of b, of which bytes 20 and 21 are data or options, so that its sum is 0.
func nothing(h api.Head, b []byte) []byte {
	b = put2(put2(b, 20, 0), sumAt(h), 0)
	return put2(b, 20, sum(h, b))
}

// P15.2: one bit that is another one, anywhere in the head, the data and the addresses: ErrSum, unless something else is told ahead.
func TestReadSpoiltBits(t *testing.T) {
	r := draw(8)
	for _, h := range heads() {
		for _, size := range []int{40, 41, 77} {
			b := segment(r, h, 6, size)
			for i := range 8 * size {
				b[i/8] ^= 1 << (i % 8)
				ahead := h.Proto == 6 && i/8 == 12 && i%8 >= 4 || h.Proto == 17 && (i/8 == 4 || i/8 == 5)
				if _, e := asRead(t, "a spoilt bit", h, b); e == api.OK || !ahead && e != api.ErrSum {
					t.Errorf("bit %d of byte %d: %d", i%8, i/8, e)
				}
				b[i/8] ^= 1 << (i % 8)
			}
			for i := range 8 * 16 {
				if !h.Six && i < 8*12 {
					continue
				}
				src, dst := h, h
				src.Src.B[i/8] ^= 1 << (i % 8)
				dst.Dst.B[i/8] ^= 1 << (i % 8)
				wantErr(t, "a spoilt address", src, b, api.ErrSum)
				wantErr(t, "a spoilt address", dst, b, api.ErrSum)
			}
			asRead(t, "as it was", h, b)
		}
	}
}

// P15.2: without a sum any data and any addresses will do, of IPv4 alone.
func TestReadWithoutSum(t *testing.T) {
	r := draw(9)
	for range 2000 {
		for _, h := range udps() {
			b := put2(segment(r, h, 0, 8+r.IntN(50)), 6, 0)
			h.Src.B[15], h.Dst.B[12] = byte(r.Uint32()), byte(r.Uint32())
			if h.Six {
				wantErr(t, "without a sum", h, b, api.ErrForm)
				continue
			}
			wantRead(t, "without a sum", h, b, api.Seg{Src: uint16(number(b, 0)), Dst: uint16(number(b, 2)), SumAt: 6, Zero: true, Data: 8}, api.OK)
		}
	}
}

// P15.2: ports of 0 are ErrForm, each alone and both, behind all that is told of the sum; others are told.
func TestReadPorts(t *testing.T) {
	r := draw(10)
	some := []int{0, 1, 255, 256, 257, 0x8000, 0xff00, 65535}
	for _, h := range heads() {
		b := segment(r, h, 5, 40)
		for _, src := range some {
			for _, dst := range some {
				b := summed(h, put2(put2(b, 0, src), 2, dst))
				want, wantE := api.Seg{Src: uint16(src), Dst: uint16(dst), Flags: flags(h, b), SumAt: sumAt(h), Data: 20}, api.OK
				if h.Proto == 17 {
					want.Data = 8
				}
				if src == 0 || dst == 0 {
					want, wantE = api.Seg{}, api.ErrForm
				}
				wantRead(t, "ports", h, b, want, wantE)
				wantErr(t, "ports and another sum", h, put(b, 39, b[39]^4), api.ErrSum)
				if h == udp4 {
					want.Zero = wantE == api.OK
					wantRead(t, "ports and no sum", h, put2(b, 6, 0), want, wantE)
				}
			}
		}
	}
	b := segment(r, udp4, 0, 20)
	for n := range 1 << 16 {
		asRead(t, "a port", udp4, put2(put2(b, 0, n), 6, 0))
		asRead(t, "a port", udp4, put2(put2(b, 2, n), 6, 0))
	}
}

// P15.2: of the head Six, Proto and the addresses' bytes tell, nothing else.
func TestReadHead(t *testing.T) {
	r := draw(12)
	for range 3000 {
		h := drawn(r)
		b := segment(r, h, 5+r.IntN(3), 32+r.IntN(30))
		want, e := asRead(t, "as it is", h, b)
		if e != api.OK {
			t.Errorf("%v, %x: %d", h, b, e)
		}
		h.At, h.Part, h.Hops = r.IntN(5000)-2000, r.IntN(2) == 0, byte(r.Uint32())
		wantRead(t, "with another At, Part, Hops", h, b, want, api.OK)
		h.Proto = 23 - h.Proto
		asRead(t, "with the other Proto", h, b)
		wantErr(t, "no bytes", h, nil, api.ErrShort)
	}
}

// Rules, Ends: heads that no packet has, and bytes of no form at all.
func TestReadAnything(t *testing.T) {
	r := draw(13)
	seen := map[api.Errno]int{}
	for range 60000 {
		h := drawn(r)
		if r.IntN(4) == 0 {
			h.Six, h.Src.Six, h.Dst.Six = r.IntN(2) == 0, r.IntN(2) == 0, r.IntN(2) == 0
		}
		b := text(r.IntN(70), r.Uint64())
		if len(b) >= 20 && r.IntN(4) > 0 {
			b[12] = byte(3+r.IntN(10)) << 4
			b = put2(b, 4, len(b)+r.IntN(5)/2-1)
			if b[0] &= 3; b[0] == 0 {
				b[1] = 0
			}
			if r.IntN(3) > 0 {
				b = summed(h, b)
			}
		}
		_, e := asRead(t, "anything", h, b)
		seen[e]++
	}
	for _, e := range []api.Errno{api.OK, api.ErrForm, api.ErrSum, api.ErrShort, api.ErrLong} {
		if seen[e] < 500 {
			t.Errorf("error %d came but %d times", e, seen[e])
		}
	}
	for _, h := range append(heads(), api.Head{}, api.Head{Six: true}, api.Head{Proto: 6}, api.Head{Proto: 17}) {
		for size := range 80 {
			asRead(t, "bytes 0", h, make([]byte, size))
			asRead(t, "bytes 255", h, bytes.Repeat([]byte{255}, size))
		}
	}
}
