package pkt_test

import (
	"math/bits"
	"testing"

	"stanchion/api"
)

// fault is what may be wrong in a packet, and how it becomes so; of those of one field there is but one at a time.
type fault struct {
	what  string
	field string
	do    func(d *draft)
	want  api.Errno
}

// off is a size that is by so many more than it should be.
func off(by int) func(n int) int {
	return func(n int) int { return n + by }
}

// said is a size of n, whatever it should be.
func said(n int) func(int) int {
	return func(int) int { return n }
}

// fourFaults are those of heads of IPv4, in the order in which they are told.
func fourFaults() []fault {
	return []fault{
		{"no bytes", "end", func(d *draft) { d.end = 0 }, api.ErrShort},
		{"another version", "version", func(d *draft) { d.head[0] = 0x50 | d.head[0]&15 }, api.ErrVersion},
		{"too many bytes", "end", func(d *draft) { d.least = 2049 }, api.ErrLong},
		{"19 bytes", "end", func(d *draft) { d.end = 19 }, api.ErrShort},
		{"4 words", "words", func(d *draft) { d.head[0] = d.head[0]&0xf0 | 4 }, api.ErrForm},
		{"15 words", "words", func(d *draft) { d.head[0] |= 15 }, api.ErrShort},
		{"a size of 19", "size", func(d *draft) { d.size = said(19) }, api.ErrForm},
		{"a size above", "size", func(d *draft) { d.size = off(1) }, api.ErrShort},
		{"a size below", "size", func(d *draft) { d.size = off(-1) }, api.ErrLong},
		{"another sum of the head", "sum", func(d *draft) { d.headSum = 1 }, api.ErrSum},
		{"no hops", "hops", func(d *draft) { d.head[8] = 0 }, api.ErrForm},
		{"the highest bit", "bit", func(d *draft) { d.partWords |= 0x8000 }, api.ErrForm},
		{"an offset", "part", func(d *draft) { d.partWords |= 1 }, api.ErrState},
		{"more parts", "part", func(d *draft) { d.partWords |= 0x2000 }, api.ErrState},
		{"another Proto", "proto", func(d *draft) { d.head[9] = 1 }, api.ErrNone},
	}
}

// sixFaults are those of heads of IPv6, likewise; the heads between are such as make no part, unless they are to.
func sixFaults() []fault {
	tell := func(l ...extra) func(d *draft) {
		return func(d *draft) {
			d.head = d.head[:40]
			d.between(draw(21), l...)
		}
	}
	eight := []extra{{60, 0}, {43, 0}, {60, 0}, {43, 0}, {60, 0}, {43, 0}, {60, 0}, {44, 0}}
	return []fault{
		{"no bytes", "end", func(d *draft) { d.end = 0 }, api.ErrShort},
		{"another version", "version", func(d *draft) { d.head[0] = 0x70 }, api.ErrVersion},
		{"too many bytes", "end", func(d *draft) { d.least = 2049 }, api.ErrLong},
		{"39 bytes", "end", func(d *draft) { d.end = 39 }, api.ErrShort},
		{"a size above", "size", func(d *draft) { d.size = off(1) }, api.ErrShort},
		{"a size below", "size", func(d *draft) { d.size = off(-1) }, api.ErrLong},
		{"no hops", "hops", func(d *draft) { d.head[7] = 0 }, api.ErrForm},
		{"nine heads", "between", tell(append(eight, extra{60, 0})...), api.ErrLong},
		{"a second first head", "between", tell(extra{0, 0}, extra{0, 0}, extra{44, 0}), api.ErrForm},
		{"a head that ends behind", "between", func(d *draft) { tell(extra{60, 0})(d); d.head[41] = 200 }, api.ErrShort},
		{"a part", "part", func(d *draft) { d.head[len(d.head)-6] = 1 }, api.ErrState},
		{"another part", "part", func(d *draft) { d.head[len(d.head)-5] |= 1 }, api.ErrState},
		{"another Proto", "proto", func(d *draft) { d.head[len(d.head)-8] = 1 }, api.ErrNone},
	}
}

// tcpFaults are those of segments of TCP, likewise.
func tcpFaults() []fault {
	return []fault{
		{"19 bytes of TCP", "seg", func(d *draft) { d.segEnd = 19 }, api.ErrShort},
		{"4 words of TCP", "tcp", func(d *draft) { d.seg[12] = 0x40 }, api.ErrForm},
		{"15 words of TCP", "tcp", func(d *draft) { d.seg[12] = 0xf0 }, api.ErrShort},
		{"another sum of TCP", "segsum", func(d *draft) { d.segSum = 1 }, api.ErrSum},
		{"no port from", "src", func(d *draft) { d.seg[0], d.seg[1] = 0, 0 }, api.ErrForm},
		{"no port to", "dst", func(d *draft) { d.seg[2], d.seg[3] = 0, 0 }, api.ErrForm},
	}
}

// udpFaults likewise; a sum of 0 is told as sumless.
func udpFaults(sumless api.Errno) []fault {
	return []fault{
		{"7 bytes of UDP", "seg", func(d *draft) { d.segEnd = 7 }, api.ErrShort},
		{"a size of 7", "udp", func(d *draft) { d.udpSize = said(7) }, api.ErrForm},
		{"a size of UDP above", "udp", func(d *draft) { d.udpSize = off(1) }, api.ErrShort},
		{"a size of UDP below", "udp", func(d *draft) { d.udpSize = off(-1) }, api.ErrLong},
		{"a sum of 0", "segsum", func(d *draft) { d.sumless = true }, sumless},
		{"another sum of UDP", "segsum", func(d *draft) { d.segSum = 1 }, api.ErrSum},
		{"no port from", "src", func(d *draft) { d.seg[0], d.seg[1] = 0, 0 }, api.ErrForm},
		{"no port to", "dst", func(d *draft) { d.seg[2], d.seg[3] = 0, 0 }, api.ErrForm},
	}
}

// together says whether all of l that choice has may be in one packet.
func together(l []fault, choice int) bool {
	fields := map[string]bool{}
	for i, x := range l {
		if choice>>i&1 == 1 {
			if fields[x.field] {
				return false
			}
			fields[x.field] = true
		}
	}
	return true
}

// choices tries all choices of up to four faults in packets that are sound without them: the first one is told.
func choices(t *testing.T, l []fault, sound func() *draft) {
	t.Helper()
	seen := map[api.Errno]int{}
	for choice := range 1 << len(l) {
		if bits.OnesCount(uint(choice)) > 4 || !together(l, choice) {
			continue
		}
		d, what, want := sound(), "", api.OK
		for i, x := range l {
			if choice>>i&1 == 1 {
				x.do(d)
				what += ", " + x.what
				if want == api.OK {
					want = x.want
				}
			}
		}
		p, e := asParse(t, "faults"+what, d.lay())
		if e != want || want == api.OK && p != d.packet() {
			t.Fatalf("faults%s: %v, %d, not %d", what, p, e, want)
		}
		seen[want]++
	}
	for _, e := range []api.Errno{api.OK, api.ErrShort, api.ErrVersion, api.ErrLong, api.ErrForm, api.ErrSum, api.ErrState, api.ErrNone} {
		if seen[e] == 0 {
			t.Errorf("error %d is never told", e)
		}
	}
}

// P16.1: choices of what may be wrong in packets of IPv4: each alone, and each ahead of every later one.
func TestParseFaultsOfFour(t *testing.T) {
	choices(t, append(fourFaults(), tcpFaults()...), func() *draft {
		return plain(tcp4, 18, 64, text(9, 22))
	})
	choices(t, append(fourFaults(), udpFaults(api.OK)...), func() *draft {
		return plain(udp4, 0, 64, text(9, 22))
	})
}

// P16.1: likewise of IPv6.
func TestParseFaultsOfSix(t *testing.T) {
	choices(t, append(sixFaults(), tcpFaults()...), func() *draft {
		return plain(tcp6, 18, 64, text(9, 23)).between(draw(24), extra{0, 0}, extra{44, 0})
	})
	choices(t, append(sixFaults(), udpFaults(api.ErrForm)...), func() *draft {
		return plain(udp6, 0, 64, text(9, 23)).between(draw(24), extra{44, 0})
	})
}

// P16.1: each byte of a packet that is another one, each of the other 255 there may be.
func TestParseSpoilt(t *testing.T) {
	r := draw(25)
	for _, f := range flows() {
		plains := []*draft{plain(f, 24, 77, nil), plain(f, 24, 77, text(13, 26))}
		for _, d := range plains {
			spoil(t, d)
		}
		if f.Src.Six {
			spoil(t, plain(f, 24, 77, text(5, 27)).between(r, extra{0, 1}, extra{44, 0}, extra{43, 0}))
		} else {
			spoil(t, plain(f, 24, 77, text(5, 27)).options(r, 7))
		}
	}
}

// spoil holds Parse of d's packet, of which one byte is another one, against the document's words; of IPv4 none is a packet, of IPv6 those alone of whose bytes no sum is made; what stands between is the model's.
func spoil(t *testing.T, d *draft) {
	t.Helper()
	b := d.lay()
	wantParse(t, "sound", b, d.packet(), api.OK)
	for at := range b {
		for x := range 256 {
			if b[at] == byte(x) {
				continue
			}
			_, e := asParse(t, "spoilt", put(b, at, byte(x)))
			free := d.flow.Src.Six && (at == 0 && x/16 == 6 || at >= 1 && at <= 3 || at == 7 && x != 0)
			between := d.flow.Src.Six && len(d.head) > 40 && (at == 6 || at >= 40 && at < len(d.head))
			if !between && (e == api.OK) != free {
				t.Errorf("byte %d of %x is %x: %d", at, b, x, e)
			}
		}
	}
}

// Rules, Ends; P16.1: bytes of all kinds, most of them no packets, held against the document's words.
func TestParseDrawn(t *testing.T) {
	r := draw(28)
	seen := map[api.Errno]int{}
	for range 100000 {
		b := text(r.IntN(100), r.Uint64())
		if len(b) > 0 && r.IntN(4) > 0 {
			b[0] = []byte{0x45, 0x46, 0x60}[r.IntN(3)]
		}
		if r.IntN(3) > 0 {
			d := plain(drawn(r), byte(r.Uint32()), byte(r.Uint32()), b)
			b = d.lay()
			if len(b) > 0 {
				b[r.IntN(len(b))] = byte(r.IntN(4))
			}
		}
		_, e := asParse(t, "drawn", b)
		seen[e]++
	}
	for _, e := range []api.Errno{api.OK, api.ErrShort, api.ErrVersion, api.ErrLong, api.ErrForm, api.ErrSum} {
		if seen[e] < 100 {
			t.Errorf("error %d came but %d times", e, seen[e])
		}
	}
}
