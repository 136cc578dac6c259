package ipfour_test

import (
	"bytes"
	"strings"
	"testing"

	"stanchion/api"
	"stanchion/ipfour"
)

// hostA, hostB are the addresses of a packet that others tell.
var hostA, hostB = four(192, 168, 0, 1), four(192, 168, 0, 199)

// P13.1: heads that are told by hand, the chapter's example among them.
func TestReadTold(t *testing.T) {
	for _, x := range []struct {
		digits string
		want   api.Head
	}{
		{"450000140000000001060000" + "0a0000010a000102", api.Head{Proto: 6, At: 20, Src: four(10, 0, 0, 1), Dst: four(10, 0, 1, 2), Hops: 1}},
		{"450000730000400040110000" + "c0a80001c0a800c7" + strings.Repeat("5a", 95), api.Head{Proto: 17, At: 20, Src: hostA, Dst: hostB, Hops: 64}},
		{"4500001c0000200040010000" + "0a0000010a000002" + "0102030405060708", api.Head{Proto: 1, At: 20, Src: four(10, 0, 0, 1), Dst: four(10, 0, 0, 2), Part: true, Hops: 64}},
		{"46c000180001000001020000" + "c0a80001e0000016" + "94040000", api.Head{Proto: 2, At: 24, Src: hostA, Dst: four(224, 0, 0, 22), Hops: 1}},
	} {
		wantRead(t, "told by hand", summed(unhex(x.digits), x.want.At), x.want, api.OK)
	}
	wantRead(t, "a sum that others tell", unhex("45000073000040004011b861c0a80001c0a800c7"+strings.Repeat("00", 95)),
		api.Head{Proto: 17, At: 20, Src: hostA, Dst: hostB, Hops: 64}, api.OK)
}

// P13.1: each error, alone.
func TestReadErrors(t *testing.T) {
	b := packet(draw(1), 6, 60)
	for _, x := range []struct {
		what string
		b    []byte
		want api.Errno
	}{
		{"none", nil, api.ErrShort},
		{"empty", []byte{}, api.ErrShort},
		{"19 bytes", b[:19], api.ErrShort},
		{"2049 bytes", packet(draw(2), 6, 2049), api.ErrLong},
		{"version 6", put(b, 0, 0x66), api.ErrVersion},
		{"version 5", put(b, 0, 0x56), api.ErrVersion},
		{"version 0", put(b, 0, 0x06), api.ErrVersion},
		{"4 words", put(b, 0, 0x44), api.ErrForm},
		{"no words", put(b, 0, 0x40), api.ErrForm},
		{"a longer head than the packet", packet(draw(3), 15, 60)[:59], api.ErrShort},
		{"less than the head", put(b, 3, 23), api.ErrForm},
		{"one byte less", b[:59], api.ErrShort},
		{"one byte more", append(bytes.Clone(b), 0), api.ErrLong},
		{"another sum", put(b, 11, b[11]+1), api.ErrSum},
		{"another option", put(b, 23, b[23]^1), api.ErrSum},
		{"no hops", summed(put(b, 8, 0), 24), api.ErrForm},
		{"the highest bit", summed(put(b, 6, b[6]|0x80), 24), api.ErrForm},
	} {
		wantErr(t, x.what, x.b, x.want)
	}
	asRead(t, "nothing is wrong", b)
}

// faults are what may be wrong in a packet, and how it becomes so, in the order in which it is told.
var faults = []struct {
	what string
	do   func(b []byte) []byte
	want api.Errno
}{
	{"too long", func(b []byte) []byte { return append(bytes.Clone(b), make([]byte, 2049)...) }, api.ErrLong},
	{"version", func(b []byte) []byte { return put(b, 0, b[0]&0xf|0x60) }, api.ErrVersion},
	{"few words", func(b []byte) []byte { return put(b, 0, b[0]&0xf0|4) }, api.ErrForm},
	{"more words than bytes", func(b []byte) []byte { return put(b, 0, b[0]&0xf0|15) }, api.ErrShort},
	{"below the head", func(b []byte) []byte { return put(put(b, 2, 0), 3, 19) }, api.ErrForm},
	{"above the bytes", func(b []byte) []byte { return put(put(b, 2, 0), 3, byte(len(b)+1)) }, api.ErrShort},
	{"below the bytes", func(b []byte) []byte { return put(put(b, 2, 0), 3, byte(len(b)-1)) }, api.ErrLong},
	{"another sum", func(b []byte) []byte { return put(b, 11, b[11]^1) }, api.ErrSum},
	{"no hops", func(b []byte) []byte { return put(b, 8, 0) }, api.ErrForm},
	{"the highest bit", func(b []byte) []byte { return put(b, 6, b[6]|0x80) }, api.ErrForm},
}

// put is a copy of b with x at the place at.
func put(b []byte, at int, x byte) []byte {
	b = bytes.Clone(b)
	b[at] = x
	return b
}

// P13.1: of several errors the first one: all choices of faults, each ahead of those behind it.
func TestReadFirstError(t *testing.T) {
	const sum = 7
	for choice := 1; choice < 1<<len(faults); choice++ {
		b := packet(draw(uint64(choice)), 5, 40)
		first, what := api.OK, ""
		if choice>>2&3 == 3 || choice>>4&1+choice>>5&1+choice>>6&1 > 1 {
			continue // one field can't say two things
		}
		for i := len(faults) - 1; i >= 0; i-- {
			if choice>>i&1 == 0 {
				continue
			}
			if i == sum {
				b = summed(b, 20)
			}
			b = faults[i].do(b)
			first, what = faults[i].want, faults[i].what+", "+what
		}
		if choice>>sum&1 == 0 && choice&(1<<sum-1) == 0 {
			b = summed(b, 20)
		}
		wantErr(t, what, b, first)
	}
}

// P13.1: each first byte, with each number of bytes up to 70, the sum right or not.
func TestReadFirstByte(t *testing.T) {
	r := draw(4)
	for first := range 256 {
		for size := 20; size <= 70; size++ {
			b := packet(r, 5, size)
			b[0] = byte(first)
			asRead(t, "a first byte", b)
			at := min(4*(first&0xf), size)
			if at < 20 {
				at = 20
			}
			b = summed(b, at)
			h, e := asRead(t, "a first byte", b)
			if may := first>>4 == 4 && first&0xf >= 5 && 4*(first&0xf) <= size; may != (e == api.OK) || may && h.At != 4*(first&0xf) {
				t.Errorf("the first byte %02x of %d: At %d, error %d", first, size, h.At, e)
			}
		}
	}
}

// P13.1: each number of bytes from none to more than there may be, and far more.
func TestReadSizes(t *testing.T) {
	r := draw(5)
	all := packet(r, 5, 5000)
	for size := range 5000 {
		want := api.OK
		if size < 20 {
			want = api.ErrShort
		} else if size > 2048 {
			want = api.ErrLong
		}
		b := all[:size:size]
		if size >= 20 {
			b = summed(sized(b), 20)
		}
		if _, e := asRead(t, "a size", b); e != want {
			t.Errorf("%d bytes: %d, not %d", size, e, want)
		}
	}
	for _, size := range []int{1 << 16, 1<<16 + 20, 1<<16 + 40, 1 << 17, 1 << 20, 1<<24 + 20} {
		b := make([]byte, size)
		copy(b, packet(r, 5, 40))
		wantErr(t, "far too long", b, api.ErrLong)
	}
}

// P13.1: each number in bytes 2 and 3, with heads of each size.
func TestReadSays(t *testing.T) {
	r := draw(6)
	for n := 5; n <= 15; n++ {
		for _, size := range []int{4 * n, 4*n + 1, 255, 256, 257, 258, 2047, 2048} {
			b := packet(r, n, size)
			for says := range 1 << 16 {
				b[2], b[3] = byte(says>>8), byte(says)
				if says%257 == 0 || says == size {
					b = summed(b, 4*n)
				}
				want := api.ErrLong
				switch {
				case says < 4*n:
					want = api.ErrForm
				case says > size:
					want = api.ErrShort
				case says == size:
					want = api.OK
				}
				if _, e := ipfour.Read(b); e != want {
					t.Fatalf("a head of %d words, %d bytes that say %d: %d, not %d", n, size, says, e, want)
				}
			}
		}
	}
}

// P13.1: Part and the highest bit hang on all of bytes 6 and 7, each number of them.
func TestReadParts(t *testing.T) {
	b := packet(draw(7), 5, 28)
	for n := range 1 << 16 {
		b[6], b[7] = byte(n>>8), byte(n)
		b = summed(b, 20)
		h, e := ipfour.Read(b)
		if n >= 1<<15 {
			if e != api.ErrForm || h != (api.Head{}) {
				t.Fatalf("bytes 6 and 7 %04x: %v, %d", n, h, e)
			}
			continue
		}
		if want := n%(1<<14) != 0; e != api.OK || h.Part != want {
			t.Fatalf("bytes 6 and 7 %04x: Part is %v, error %d", n, h.Part, e)
		}
	}
}

// P13.1: Hops and Proto are bytes 8 and 9, all of them, and Hops is not 0.
func TestReadHopsAndProto(t *testing.T) {
	b := packet(draw(8), 7, 33)
	for n := range 1 << 16 {
		b[8], b[9] = byte(n>>8), byte(n)
		b = summed(b, 28)
		h, e := ipfour.Read(b)
		if b[8] == 0 {
			if e != api.ErrForm || h != (api.Head{}) {
				t.Fatalf("no hops: %v, %d", h, e)
			}
			continue
		}
		if e != api.OK || h.Hops != b[8] || h.Proto != b[9] {
			t.Fatalf("bytes 8 and 9 %04x: %v, %d", n, h, e)
		}
	}
}

// P13.1: each of the addresses' bytes tells, and its place.
func TestReadAddresses(t *testing.T) {
	b := packet(draw(9), 5, 20)
	for at := 12; at < 20; at++ {
		for x := range 256 {
			b[at] = byte(x)
			b = summed(b, 20)
			h, e := asRead(t, "an address", b)
			if e != api.OK || h.Src != four(b[12:16]...) || h.Dst != four(b[16:20]...) {
				t.Errorf("%x: %v, %d", b, h, e)
			}
		}
	}
}

// P13.1: each sum in bytes 10 and 11: one of them is right.
func TestReadSums(t *testing.T) {
	for i, n := range []int{5, 6, 15} {
		b := packet(draw(uint64(10+i)), n, 4*n+9)
		right := 256*int(b[10]) + int(b[11])
		for sum := range 1 << 16 {
			b[10], b[11] = byte(sum>>8), byte(sum)
			_, want := slowRead(b)
			if _, e := ipfour.Read(b); e != want || (sum == right) != (e == api.OK) {
				t.Fatalf("the sum %04x, where %04x is right: %d", sum, right, e)
			}
		}
	}
}

// P13.1: a sum that should be 0 may be ffff too, as Good (11) has it.
func TestReadSumZero(t *testing.T) {
	b := packet(draw(14), 5, 20)
	b[4], b[5] = 0, 0
	b = summed(b, 20)
	b[4], b[5] = b[10], b[11]
	b[10], b[11] = 0, 0
	if _, e := asRead(t, "the sum 0", b); e != api.OK {
		t.Errorf("the sum 0: %d", e)
	}
	b[10], b[11] = 255, 255
	if _, e := asRead(t, "the sum ffff", b); e != api.OK {
		t.Errorf("the sum ffff: %d", e)
	}
}

// P13.1: options count in the sum, all of them; what is behind the head does not.
func TestReadSumReaches(t *testing.T) {
	r := draw(15)
	for n := 5; n <= 15; n++ {
		b := packet(r, n, 100)
		want, e := asRead(t, "a packet", b)
		if e != api.OK {
			t.Fatalf("%d words: %d", n, e)
		}
		for at := 20; at < 100; at++ {
			c := put(b, at, b[at]+byte(1+r.IntN(255)))
			if at < 4*n {
				wantErr(t, "another option", c, api.ErrSum)
			} else {
				wantRead(t, "another byte behind the head", c, want, api.OK)
			}
		}
	}
}

// P13.1: what data there is tells nothing of the head, though it looks like one.
func TestReadHeadInHead(t *testing.T) {
	in := packet(draw(16), 5, 60)
	out, e := ipfour.Write(api.Head{Src: hostA, Dst: hostB, Hops: 3, Proto: 4}, in)
	if e != api.OK {
		t.Fatal(e)
	}
	wantRead(t, "a packet in a packet", out, api.Head{Src: hostA, Dst: hostB, Hops: 3, Proto: 4, At: 20}, api.OK)
}

// P13.1: packets of all kinds that are drawn, many of them spoilt, held against the document's words.
func TestReadDrawn(t *testing.T) {
	r := draw(17)
	seen := map[api.Errno]int{}
	for range 150000 {
		n := 5 + r.IntN(11)
		size := 4*n + r.IntN(30)
		if r.IntN(20) == 0 {
			size = 4*n + r.IntN(2060-4*n)
		}
		b := packet(r, n, size)
		for range r.IntN(3) {
			switch r.IntN(6) {
			case 0:
				b = b[:r.IntN(len(b)+1)]
			case 1:
				b = append(b, text(r.IntN(4), r.Uint64())...)
			case 2:
				if len(b) >= 20 {
					b[[]int{0, 2, 3, 6, 8, 10, 11}[r.IntN(7)]] = byte(r.Uint32())
				}
			case 3:
				if len(b) >= 20 {
					b = summed(b, min(len(b), 4*n))
				}
			case 4:
				if len(b) > 0 {
					b[r.IntN(len(b))] ^= 1 << r.IntN(8)
				}
			case 5:
				if len(b) >= 20 {
					b = sized(b)
				}
			}
		}
		_, e := asRead(t, "a drawn packet", b)
		seen[e]++
	}
	for _, e := range []api.Errno{api.OK, api.ErrForm, api.ErrSum, api.ErrShort, api.ErrLong, api.ErrVersion} {
		if seen[e] < 100 {
			t.Errorf("the error %d came but %d times", e, seen[e])
		}
	}
}

// Rules, Ends: bytes of no form at all.
func TestReadAnyBytes(t *testing.T) {
	r := draw(18)
	for range 20000 {
		b := text(r.IntN(80), r.Uint64())
		if len(b) > 0 && r.IntN(2) == 0 {
			b[0] = 0x40 | b[0]&0xf
		}
		asRead(t, "any bytes", b)
	}
	for size := range 70 {
		asRead(t, "bytes 0", make([]byte, size))
		asRead(t, "bytes 255", bytes.Repeat([]byte{255}, size))
		asRead(t, "bytes 69", bytes.Repeat([]byte{0x45}, size))
	}
}
