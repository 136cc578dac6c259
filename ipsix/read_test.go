package ipsix_test

import (
	"bytes"
	"math/rand/v2"
	"testing"

	"stanchion/api"
	"stanchion/ipsix"
)

// hostA, hostB are the addresses of packets that are told by hand.
var hostA, hostB = six(unhex("20010db8000000000000000000000001")), six(unhex("fe800000000000000202b3fffe1e8329"))

// addresses are both, as digits.
const addresses = "20010db8000000000000000000000001 fe800000000000000202b3fffe1e8329 "

// P14.1, P14.2: packets that are told by hand, the chapter's example among them.
func TestReadTold(t *testing.T) {
	zero := six(nil)
	for _, x := range []struct {
		what, digits string
		want         api.Head
	}{
		{"the example", "60000000 0000 3b 01" + "00000000000000000000000000000000 00000000000000000000000000000000", api.Head{Proto: 59, At: 40, Src: zero, Dst: zero, Hops: 1}},
		{"TCP", "6f123456 0003 06 40" + addresses + "010203", api.Head{Proto: 6, At: 40, Src: hostA, Dst: hostB, Hops: 64}},
		{"UDP", "60000000 0008 11 ff" + addresses + "0001000200080000", api.Head{Proto: 17, At: 40, Src: hostA, Dst: hostB, Hops: 255}},
		{"options for each hop", "60000000 0010 00 01" + addresses + "3a00050200000100 8f00000000000000", api.Head{Proto: 58, At: 48, Src: hostA, Dst: hostB, Hops: 1}},
		{"a way", "60000000 001a 2b 02" + addresses + "0602000000000000 1111111111111111 2222222222222222 abcd", api.Head{Proto: 6, At: 64, Src: hostA, Dst: hostB, Hops: 2}},
		{"a first part", "60000000 0010 2c 40" + addresses + "1100000112345678 0001000200ff0000", api.Head{Proto: 17, At: 48, Src: hostA, Dst: hostB, Part: true, Hops: 64}},
		{"a last part", "60000000 0010 2c 40" + addresses + "1100000812345678 0001000200ff0000", api.Head{Proto: 17, At: 48, Src: hostA, Dst: hostB, Part: true, Hops: 64}},
		{"all in one part", "60000000 0009 2c 40" + addresses + "1100000012345678 aa", api.Head{Proto: 17, At: 48, Src: hostA, Dst: hostB, Hops: 64}},
		{"all kinds", "60000000 0028 00 40" + addresses + "3c00010400000000 2b00010400000000 2c00000000000000 3cff000600000000 1100010400000000", api.Head{Proto: 17, At: 80, Src: hostA, Dst: hostB, Hops: 64}},
	} {
		x.want.Six = true
		wantRead(t, x.what, unhex(x.digits), x.want, api.OK)
		asRead(t, x.what, unhex(x.digits))
	}
}

// P14.1: each error, alone.
func TestReadErrors(t *testing.T) {
	b := packet(draw(1), nil, 6, 60)
	twice := packet(draw(2), []extra{{60, 0}, {43, 1}}, 6, 0)
	for _, x := range []struct {
		what string
		b    []byte
		want api.Errno
	}{
		{"none", nil, api.ErrShort},
		{"empty", []byte{}, api.ErrShort},
		{"39 bytes", b[:39], api.ErrShort},
		{"2049 bytes", packet(draw(3), nil, 6, 2009), api.ErrLong},
		{"version 4", put(b, 0, 0x46), api.ErrVersion},
		{"version 5", put(b, 0, 0x50), api.ErrVersion},
		{"version 7", put(b, 0, 0x70), api.ErrVersion},
		{"version 0", put(b, 0, 0x06), api.ErrVersion},
		{"version 14", put(b, 0, 0xe0), api.ErrVersion},
		{"one byte less", b[:99], api.ErrShort},
		{"one byte more", append(bytes.Clone(b), 0), api.ErrLong},
		{"it says one more", put(b, 5, 61), api.ErrShort},
		{"it says one fewer", put(b, 5, 59), api.ErrLong},
		{"it says 256 more", put(b, 4, 1), api.ErrShort},
		{"it says none", put(b, 5, 0), api.ErrLong},
		{"no hops", put(b, 7, 0), api.ErrForm},
		{"nine heads", packet(draw(4), repeat(extra{60, 0}, 9), 6, 3), api.ErrLong},
		{"options for each hop behind others", packet(draw(5), []extra{{60, 0}, {0, 0}}, 6, 3), api.ErrForm},
		{"no bytes of a head", sized(twice[:48]), api.ErrShort},
		{"seven bytes of a head", sized(twice[:55]), api.ErrShort},
		{"eight bytes of a head of sixteen", sized(twice[:56]), api.ErrShort},
		{"one byte of a head wanting", sized(twice[:63]), api.ErrShort},
	} {
		wantErr(t, x.what, x.b, x.want)
		if _, e := slowRead(x.b); e != x.want {
			t.Errorf("%s: the document's words tell %d, not %d", x.what, e, x.want)
		}
	}
	for _, c := range [][]byte{b, twice} {
		if _, e := asRead(t, "nothing is wrong", c); e != api.OK {
			t.Errorf("nothing is wrong: %d", e)
		}
	}
}

// repeat is n heads x.
func repeat(x extra, n int) []extra {
	var l []extra
	for range n {
		l = append(l, x)
	}
	return l
}

// fault is what may be wrong in a packet, and how it becomes so.
type fault struct {
	what string
	do   func(b []byte) []byte
	want api.Errno
}

// sizeFaults, versionFaults, saidFaults, hopsFaults: in this order they are told; of those of one list there is one at most.
func sizeFaults() []fault {
	return []fault{
		{"long", func(b []byte) []byte { return append(bytes.Clone(b), make([]byte, 2049-len(b))...) }, api.ErrLong},
		{"far too long", func(b []byte) []byte { return append(bytes.Clone(b), make([]byte, 70000)...) }, api.ErrLong},
		{"short", func(b []byte) []byte { return b[:39] }, api.ErrShort},
		{"one byte", func(b []byte) []byte { return b[:1] }, api.ErrShort},
	}
}

func versionFaults() []fault {
	return []fault{
		{"version 4", func(b []byte) []byte { return put(b, 0, 0x45) }, api.ErrVersion},
		{"version 15", func(b []byte) []byte { return put(b, 0, 0xf6) }, api.ErrVersion},
	}
}

func saidFaults() []fault {
	return []fault{
		{"says more", func(b []byte) []byte { return put(b, 5, b[5]+1) }, api.ErrShort},
		{"says far more", func(b []byte) []byte { return put(b, 4, 255) }, api.ErrShort},
		{"says fewer", func(b []byte) []byte { return put(b, 5, b[5]-1) }, api.ErrLong},
		{"says none", func(b []byte) []byte { return put(put(b, 4, 0), 5, 0) }, api.ErrLong},
	}
}

func hopsFaults() []fault {
	return []fault{{"no hops", func(b []byte) []byte { return put(b, 7, 0) }, api.ErrForm}}
}

// betweens are packets of which the heads between err, or don't, and what they err.
func betweens() []fault {
	made := func(l []extra, last byte, keep int) func([]byte) []byte {
		b := packet(draw(6), l, last, 100)
		return func([]byte) []byte { return sized(b[:keep]) }
	}
	return []fault{
		{"nothing between", made(nil, 17, 50), api.OK},
		{"one head", made([]extra{{43, 1}}, 17, 60), api.OK},
		{"nine", made(repeat(extra{60, 0}, 9), 17, 130), api.ErrLong},
		{"nine, the last one cut off", made(repeat(extra{43, 0}, 8), 43, 104), api.ErrLong},
		{"nine, the last one 0", made(repeat(extra{44, 0}, 8), 0, 150), api.ErrLong},
		{"0 behind another one", made([]extra{{43, 0}, {0, 0}}, 17, 60), api.ErrForm},
		{"0 cut off behind another one", made([]extra{{60, 0}}, 0, 48), api.ErrForm},
		{"cut off", made([]extra{{44, 0}}, 17, 47), api.ErrShort},
		{"a longer one cut off", made([]extra{{0, 3}}, 17, 71), api.ErrShort},
	}
}

// P14.1: of several errors the first one: all choices of faults that may be together, each ahead of those behind it.
func TestReadFirstError(t *testing.T) {
	same := []fault{{"", func(b []byte) []byte { return b }, api.OK}}
	choices := 0
	for _, between := range betweens() {
		for _, hops := range append(same, hopsFaults()...) {
			for _, said := range append(same, saidFaults()...) {
				for _, version := range append(same, versionFaults()...) {
					for _, size := range append(same, sizeFaults()...) {
						b, what, first := []byte(nil), "", api.OK
						for _, x := range []fault{between, hops, said, version, size} {
							b = x.do(b)
							what = x.what + ", " + what
							if x.want != api.OK {
								first = x.want
							}
						}
						choices++
						if first != api.OK {
							wantErr(t, what, b, first)
						} else if h, e := asRead(t, what, b); e != api.OK || h.Proto != 17 {
							t.Errorf("%s: %v, %d", what, h, e)
						}
					}
				}
			}
		}
	}
	if choices != 9*2*5*3*5 {
		t.Errorf("%d choices", choices)
	}
}

// P14.1: each number of bytes from none to more than there may be, and far more.
func TestReadSizes(t *testing.T) {
	all := packet(draw(7), nil, 6, 5000)
	for size := range 5000 {
		want := api.OK
		if size < 40 {
			want = api.ErrShort
		} else if size > 2048 {
			want = api.ErrLong
		}
		b := all[:size:size]
		if size >= 40 {
			b = sized(b)
		}
		if _, e := asRead(t, "a size", b); e != want {
			t.Errorf("%d bytes: %d, not %d", size, e, want)
		}
	}
	for _, size := range []int{1 << 16, 1<<16 + 39, 1<<16 + 40, 1<<16 + 60, 1 << 17, 1 << 20, 1<<24 + 40} {
		b := make([]byte, size)
		copy(b, packet(draw(8), nil, 6, 20))
		wantErr(t, "far too long", b, api.ErrLong)
		b[4], b[5] = byte((size-40)>>8), byte(size-40)
		wantErr(t, "far too long", b, api.ErrLong)
	}
}

// P14.1: each first byte, with each number of bytes around 40.
func TestReadFirstByte(t *testing.T) {
	for x := range 256 {
		for size := range 60 {
			b := packet(draw(9), nil, 6, 20)[:size]
			if size >= 40 {
				b = sized(b)
			}
			want := api.OK
			switch {
			case size < 40:
				want = api.ErrShort
			case x < 0x60 || x > 0x6f:
				want = api.ErrVersion
			}
			if size > 0 {
				b = put(b, 0, byte(x))
			}
			if _, e := asRead(t, "a first byte", b); e != want {
				t.Errorf("the first byte %02x of %d: %d, not %d", x, size, e, want)
			}
		}
	}
}

// P14.1: what bytes 1 to 3 and the lower half of byte 0 are tells nothing.
func TestReadFreeBytes(t *testing.T) {
	b := packet(draw(10), []extra{{0, 0}, {44, 7}}, 6, 9)
	want, e := asRead(t, "a packet", b)
	if e != api.OK {
		t.Fatal(e)
	}
	for x := range 256 {
		for at := 1; at < 4; at++ {
			wantRead(t, "a free byte", put(b, at, byte(x)), want, api.OK)
		}
		wantRead(t, "a free half", put(b, 0, 0x60|byte(x%16)), want, api.OK)
	}
}

// P14.1: each number in bytes 4 and 5 against what there is behind.
func TestReadSays(t *testing.T) {
	for _, size := range []int{40, 41, 47, 48, 100, 295, 296, 297, 298, 552, 2046, 2047, 2048} {
		for _, l := range [][]extra{nil, {{60, 0}}} {
			if size < end(l) {
				continue
			}
			b := packet(draw(11), l, 6, size-end(l))
			for says := range 1 << 16 {
				b[4], b[5] = byte(says>>8), byte(says)
				want := api.OK
				switch {
				case 40+says > size:
					want = api.ErrShort
				case 40+says < size:
					want = api.ErrLong
				}
				if h, e := ipsix.Read(b); e != want || (h == api.Head{}) != (e != api.OK) {
					t.Fatalf("%d bytes that say %d: %v, %d, not %d", size, says, h, e, want)
				}
			}
		}
	}
}

// P14.1: Hops is byte 7, Proto byte 6, each of them with each; Hops is not 0.
func TestReadHopsAndProto(t *testing.T) {
	b := packet(draw(12), nil, 6, 0)
	long := packet(draw(13), nil, 6, 2008)
	for n := range 1 << 16 {
		hops, proto := byte(n>>8), byte(n)
		b[6], b[7] = proto, hops
		want, wantE := api.Head{Six: true, Proto: proto, At: 40, Src: six(b[8:24]), Dst: six(b[24:40]), Hops: hops}, api.OK
		if stands(proto) {
			want, wantE = api.Head{}, api.ErrShort
		}
		if hops == 0 {
			want, wantE = api.Head{}, api.ErrForm
		}
		if h, e := ipsix.Read(b); h != want || e != wantE {
			t.Fatalf("bytes 6 and 7 %02x%02x: %v, %d, not %v, %d", proto, hops, h, e, want, wantE)
		}
		if n%5 == 0 || hops == 0 || hops == 255 {
			long[6], long[7] = proto, hops
			asRead(t, "a long packet", long)
		}
	}
}

// P14.1: each of the addresses' bytes tells, and its place.
func TestReadAddresses(t *testing.T) {
	b := packet(draw(14), []extra{{43, 2}}, 17, 4)
	for at := 8; at < 40; at++ {
		for x := range 256 {
			c := put(b, at, byte(x))
			h, e := asRead(t, "an address", c)
			if e != api.OK || h.Src != six(c[8:24]) || h.Dst != six(c[24:40]) {
				t.Errorf("%x: %v, %d", c, h, e)
			}
		}
	}
	for _, x := range []string{"00", "ff"} {
		c := bytes.Clone(b)
		copy(c[8:40], bytes.Repeat(unhex(x), 32))
		if h, e := asRead(t, "addresses", c); e != api.OK || !h.Src.Six || !h.Dst.Six {
			t.Errorf("%v, %d", h, e)
		}
	}
}

// P14.1, P14.2: packets of all kinds that are drawn, many of them spoilt, held against the document's words.
func TestReadDrawn(t *testing.T) {
	r := draw(15)
	seen := map[api.Errno]int{}
	parts, ends := 0, map[int]int{}
	for range 200000 {
		var l []extra
		for i := range r.IntN(11) {
			x := extra{kinds()[1+r.IntN(3)], byte(r.IntN(4))}
			if i == 0 && r.IntN(3) == 0 || r.IntN(60) == 0 {
				x.kind = 0
			}
			if x.kind == 44 || r.IntN(200) == 0 {
				x.more = byte(r.Uint32())
			}
			l = append(l, x)
		}
		b := packet(r, l, byte(r.Uint32()), r.IntN(20))
		for at := 40; at+3 < len(b) && r.IntN(2) == 0; at += 8 {
			b[at+2], b[at+3] = 0, byte(r.IntN(8))
		}
		b = spoilt(r, b)
		h, e := asRead(t, "a drawn packet", b)
		seen[e]++
		if h.Part {
			parts++
		}
		ends[h.At]++
	}
	for _, e := range []api.Errno{api.OK, api.ErrForm, api.ErrShort, api.ErrLong, api.ErrVersion} {
		if seen[e] < 1000 {
			t.Errorf("the error %d came but %d times", e, seen[e])
		}
	}
	if parts < 1000 || seen[api.OK]-parts < 1000 || len(ends) < 30 {
		t.Errorf("of %d packets %d are parts; there are %d ends of heads", seen[api.OK], parts, len(ends))
	}
}

// spoilt is b, or what comes of it by some changes.
func spoilt(r *rand.Rand, b []byte) []byte {
	for range r.IntN(3) {
		switch r.IntN(6) {
		case 0:
			b = b[:r.IntN(len(b)+1)]
		case 1:
			b = append(bytes.Clone(b), text(r.IntN(4), r.Uint64())...)
		case 2:
			if len(b) >= 40 {
				b = put(b, []int{0, 4, 5, 6, 7}[r.IntN(5)], byte(r.IntN(64)))
			}
		case 3:
			if len(b) > 40 {
				b = put(b, 40+8*r.IntN((len(b)-33)/8), kinds()[r.IntN(4)])
			}
		case 4:
			if len(b) > 0 {
				at := r.IntN(len(b))
				b = put(b, at, b[at]^1<<r.IntN(8))
			}
		case 5:
			if len(b) > 40 {
				b = sized(b[:40+r.IntN(len(b)-39)])
			}
		}
	}
	if len(b) >= 40 && r.IntN(2) == 0 {
		b = sized(b)
	}
	return b
}

// Rules, Ends: bytes of no form at all.
func TestReadAnyBytes(t *testing.T) {
	r := draw(16)
	for range 30000 {
		b := text(r.IntN(300), r.Uint64())
		if len(b) >= 40 && r.IntN(4) > 0 {
			b[0] = 0x60 | b[0]&0xf
			b = sized(b)
			for at := 40; at < len(b) && r.IntN(8) > 0; at += 8 {
				b[at] = kinds()[r.IntN(4)]
			}
			b[6] = kinds()[r.IntN(4)]
		}
		asRead(t, "any bytes", b)
	}
	for size := range 2100 {
		asRead(t, "bytes 0", make([]byte, size))
		asRead(t, "bytes 255", bytes.Repeat([]byte{255}, size))
		for _, x := range []byte{0x60, 0x2b, 0x2c, 0x3c, 0} {
			b := bytes.Repeat([]byte{x}, size)
			asRead(t, "one byte", b)
			if size >= 40 {
				b = sized(b)
				b[0], b[7] = 0x60, 1
				asRead(t, "one byte, of the right size", b)
			}
		}
	}
}
