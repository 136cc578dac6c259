package nat_test

import (
	"testing"

	"stanchion/api"
	"stanchion/pkt"
)

// fault is what may be wrong in a packet, how it becomes so, and what is told of it.
type fault struct {
	what string
	do   func(d *draft)
	want api.Errno
}

// off is a number that is by so many more than it should be.
func off(by int) func(n int) int {
	return func(n int) int { return n + by }
}

// said is n, whatever it should be.
func said(n int) func(int) int {
	return func(int) int { return n }
}

// spoilt is another sum.
func spoilt(n int) int {
	return n ^ 0x0101
}

// allFaults are those of packets of each kind.
func allFaults() []fault {
	return []fault{
		{"no bytes", func(d *draft) { d.end = 0 }, api.ErrShort},
		{"another version", func(d *draft) { d.head[0] = 0x50 }, api.ErrVersion},
		{"version 0", func(d *draft) { d.head[0] &= 0x0f }, api.ErrVersion},
		{"too many bytes", func(d *draft) { d.least = 2049 }, api.ErrLong},
		{"one byte", func(d *draft) { d.end = 1 }, api.ErrShort},
		{"19 bytes", func(d *draft) { d.end = 19 }, api.ErrShort},
		{"a size above", func(d *draft) { d.size = off(1) }, api.ErrShort},
		{"a size below", func(d *draft) { d.size = off(-1) }, api.ErrLong},
		{"7 bytes of a segment", func(d *draft) { d.segEnd = 7 }, api.ErrShort},
		{"another sum of the segment", func(d *draft) { d.segSum = spoilt }, api.ErrSum},
		{"no port from", func(d *draft) { d.flow.SrcPort = 0 }, api.ErrForm},
		{"no port to", func(d *draft) { d.flow.DstPort = 0 }, api.ErrForm},
	}
}

// fourFaults are those of heads of IPv4.
func fourFaults() []fault {
	return []fault{
		{"4 words", func(d *draft) { d.head[0] = 0x44 }, api.ErrForm},
		{"15 words", func(d *draft) { d.head[0] = 0x4f }, api.ErrShort},
		{"a size of 19", func(d *draft) { d.size = said(19) }, api.ErrForm},
		{"another sum of the head", func(d *draft) { d.headSum = spoilt }, api.ErrSum},
		{"no hops", func(d *draft) { d.head[8] = 0 }, api.ErrForm},
		{"the highest bit", func(d *draft) { d.partWords |= 0x8000 }, api.ErrForm},
		{"an offset", func(d *draft) { d.partWords |= 1 }, api.ErrState},
		{"more parts", func(d *draft) { d.partWords |= 0x2000 }, api.ErrState},
		{"another Proto", func(d *draft) { d.head[9] = 1 }, api.ErrNone},
	}
}

// sixFaults are those of heads of IPv6, and of what stands between.
func sixFaults() []fault {
	tell := func(l ...extra) func(d *draft) {
		return func(d *draft) { d.between(draw(21), l...) }
	}
	part := func(d *draft) {
		tell(extra{44, 0})(d)
		d.head[42] = 1
	}
	return []fault{
		{"39 bytes", func(d *draft) { d.end = 39 }, api.ErrShort},
		{"no hops", func(d *draft) { d.head[7] = 0 }, api.ErrForm},
		{"nine heads", tell(make9(60)...), api.ErrLong},
		{"a second first head", tell(extra{0, 0}, extra{0, 0}), api.ErrForm},
		{"a head that ends behind", func(d *draft) { tell(extra{60, 0})(d); d.head[41] = 200 }, api.ErrShort},
		{"a part", part, api.ErrState},
		{"another Proto", func(d *draft) { d.head[6] = 58 }, api.ErrNone},
	}
}

// make9 is nine heads of one kind.
func make9(kind byte) []extra {
	l := make([]extra, 9)
	for i := range l {
		l[i].kind = kind
	}
	return l
}

// segFaults are those of segments of f.
func segFaults(f api.Flow) []fault {
	if f.Proto == 6 {
		return []fault{
			{"19 bytes of TCP", func(d *draft) { d.segEnd = 19 }, api.ErrShort},
			{"4 words of TCP", func(d *draft) { d.seg[12] = 0x40 }, api.ErrForm},
			{"15 words of TCP", func(d *draft) { d.seg[12] = 0xf0 }, api.ErrShort},
		}
	}
	l := []fault{
		{"a size of 7", func(d *draft) { d.udpSize = said(7) }, api.ErrForm},
		{"a size of UDP above", func(d *draft) { d.udpSize = off(1) }, api.ErrShort},
		{"a size of UDP below", func(d *draft) { d.udpSize = off(-1) }, api.ErrLong},
	}
	if f.Src.Six {
		l = append(l, fault{"a sum of 0", func(d *draft) { d.sumless() }, api.ErrForm})
	}
	return l
}

// faults are all of f's packets, and none at all.
func faults(f api.Flow) []fault {
	l := append(allFaults(), segFaults(f)...)
	if f.Src.Six {
		l = append(l, sixFaults()...)
	} else {
		l = append(l, fourFaults()...)
	}
	return append(l, fault{"nothing", func(*draft) {}, api.OK})
}

// wrongs are what may be wrong with the address that a packet of f is given: not good, of another kind, both, or nothing.
func wrongs(f api.Flow, at int) []api.Addr {
	other := sixA
	if f.Src.Six {
		other = fourA
	}
	return []api.Addr{bad(sameKind(f.Src), at), other, bad(other, at), {Six: !f.Src.Six}, sameKind(f.Src)}
}

// P17.1: each error of Parse ahead of all others; then an address that is not good, or of the other kind, or a port of 0; each alone and each with the others.
func TestFaults(t *testing.T) {
	for _, f := range flows() {
		seen := map[api.Errno]int{}
		for i, x := range faults(f) {
			d := plain(f, 18, 64, text(9, 22))
			x.do(d)
			b := d.lay()
			if _, e := pkt.Parse(b); e != x.want {
				t.Fatalf("%s: Parse errs %d, not %d", x.what, e, x.want)
			}
			for k, a := range wrongs(f, i%12) {
				for _, n := range []uint16{0, 1, 80, 65535} {
					e := x.want
					if e == api.OK && (k < 4 || n == 0) {
						e = api.ErrArg
					}
					for _, w := range ways() {
						if _, got := w.as(t, x.what, b, a, n); got != e {
							t.Errorf("%s: %s to %v, %d: %d, not %d", x.what, w.name, a, n, got, e)
						}
						seen[e]++
					}
				}
			}
		}
		for _, e := range []api.Errno{api.OK, api.ErrArg, api.ErrShort, api.ErrVersion, api.ErrLong, api.ErrForm, api.ErrSum, api.ErrState, api.ErrNone} {
			if seen[e] == 0 {
				t.Errorf("error %d is never told", e)
			}
		}
	}
}

// P17.1: each bit that an address of IPv4 must not have, alone; of IPv6 each address is good.
func TestAddresses(t *testing.T) {
	for _, f := range flows() {
		b := plain(f, 18, 64, text(9, 23)).lay()
		for at := range 16 {
			for bit := range 8 {
				a := api.Addr{Six: f.Src.Six}
				a.B[at] = 1 << bit
				e := api.OK
				if !a.Six && at < 12 {
					e = api.ErrArg
				}
				for _, w := range ways() {
					if _, got := w.as(t, "a bit", b, a, 80); got != e {
						t.Errorf("%s %v: %d", w.name, a, got)
					}
					a.Six = !a.Six
					w.wantErr(t, "the other kind", b, a, 80, api.ErrArg)
					a.Six = !a.Six
				}
			}
		}
	}
}

// P17.1: addresses of the other kind that lie in the bytes alike are of the other kind still.
func TestOtherKind(t *testing.T) {
	for _, f := range flows() {
		b := plain(f, 18, 64, nil).lay()
		for _, a := range []api.Addr{{}, f.Src, f.Dst, four(1, 2, 3, 4)} {
			a.Six = !f.Src.Six
			for _, w := range ways() {
				w.wantErr(t, "the other kind", b, a, 80, api.ErrArg)
				w.wantErr(t, "and no port", b, a, 0, api.ErrArg)
			}
		}
	}
}

// P17.1: each byte of a packet that is another one: as Parse has it, and then as it is read.
func TestSpoilt(t *testing.T) {
	r := draw(24)
	for _, f := range flows() {
		for _, d := range []*draft{plain(f, 24, 77, text(3, 25)), dressed(r, f)} {
			b := d.lay()
			for at := range b {
				for _, x := range []byte{0, 1, 128, 255, b[at] ^ 1, b[at] ^ 64, b[at] + 1} {
					for _, w := range ways() {
						w.as(t, "spoilt", put(b, at, x), sameKind(f.Src), 80)
					}
				}
			}
		}
	}
}

// Rules, Ends: bytes of all kinds, most of them no packets, and addresses of all kinds.
func TestWrongDrawn(t *testing.T) {
	r := draw(26)
	seen := map[api.Errno]int{}
	for range 30000 {
		b := text(r.IntN(100), r.Uint64())
		if r.IntN(2) == 0 {
			d := dressed(r, drawn(r))
			b = d.lay()
			if r.IntN(2) == 0 {
				b[r.IntN(len(b))] = byte(r.IntN(4))
			}
		}
		a := address(r, r.IntN(2) == 0)
		if r.IntN(8) == 0 {
			a = bad(a, r.IntN(12))
		}
		n := port(r)
		if r.IntN(8) == 0 {
			n = 0
		}
		for _, w := range ways() {
			_, e := w.as(t, "drawn", b, a, n)
			seen[e]++
		}
	}
	for _, e := range []api.Errno{api.OK, api.ErrArg, api.ErrShort, api.ErrVersion, api.ErrForm, api.ErrSum} {
		if seen[e] < 50 {
			t.Errorf("error %d came but %d times", e, seen[e])
		}
	}
}
