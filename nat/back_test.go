package nat_test

import (
	"bytes"
	"testing"

	"stanchion/api"
	"stanchion/pkt"
)

// P17.2: what is told is read as the packet, but for that address, that port.
func TestRead(t *testing.T) {
	r := draw(41)
	for range 5000 {
		d := dressed(r, drawn(r))
		if p, e := pkt.Parse(d.lay()); p != d.packet() || e != api.OK {
			t.Fatalf("%x is read as %v, %d", d.lay(), p, e)
		}
		for _, w := range ways() {
			a, n := address(r, d.flow.Src.Six), port(r)
			b, _ := w.do(d.lay(), a, n)
			if p, e := pkt.Parse(b); p != d.moved(w.end, a, n).packet() || e != api.OK {
				t.Errorf("%s of %x, %v, %d is read as %v, %d", w.name, d.lay(), a, n, p, e)
			}
		}
	}
}

// P17.3: each byte is as it was, but for those of the address, of the port and of the sums.
func TestElsewhere(t *testing.T) {
	r := draw(42)
	for range 5000 {
		d := dressed(r, drawn(r))
		b := d.lay()
		for _, w := range ways() {
			got, e := w.do(b, address(r, d.flow.Src.Six), port(r))
			if len(got) != len(b) || e != api.OK {
				t.Fatalf("%s of %x is %x, %d", w.name, b, got, e)
			}
			for i, mayBe := range places(d, w.end) {
				if !mayBe && got[i] != b[i] {
					t.Errorf("%s of %x: byte %d is %x", w.name, b, i, got[i])
				}
			}
		}
	}
}

// places says of each byte of d whether it may be another one, when that end is.
func places(d *draft, end int) []bool {
	l := make([]bool, len(d.lay()))
	mark := func(at, size int) {
		for i := range size {
			l[at+i] = true
		}
	}
	if d.flow.Src.Six {
		mark(8+16*end, 16)
	} else {
		mark(12+4*end, 4)
		mark(10, 2)
	}
	mark(len(d.head)+2*end, 2)
	if d.segSum(1) != 0 {
		mark(len(d.head)+d.sumAt(), 2)
	}
	return l
}

// P17.1, P17.3: each bit of the address and of the port that turns alone turns in the packet, with the sums.
func TestEachBit(t *testing.T) {
	r := draw(43)
	for _, f := range flows() {
		d := dressed(r, f)
		for _, w := range ways() {
			a, n := f.Src, f.SrcPort
			if w.end == 1 {
				a, n = f.Dst, f.DstPort
			}
			for at, x := range a.B {
				if !f.Src.Six && at < 12 {
					continue
				}
				for bit := range 8 {
					other := a
					other.B[at] = x ^ 1<<bit
					w.moves(t, "a bit of the address", d, other, n)
				}
			}
			for bit := range 16 {
				if n != 1<<bit {
					w.moves(t, "a bit of the port", d, a, n^1<<bit)
				}
			}
		}
	}
}

// P17.4: there and back: the packet again, of those that Build wrote and of all others whose sums are such.
func TestBack(t *testing.T) {
	r := draw(44)
	for i := range 10000 {
		f := drawn(r)
		b := dressed(r, f).lay()
		if i%2 == 0 {
			b, _ = pkt.Build(f, byte(r.Uint32()), byte(1+r.IntN(255)), text(r.IntN(60), r.Uint64()))
		}
		for _, w := range ways() {
			there, e := w.do(b, address(r, f.Src.Six), port(r))
			if e != api.OK {
				t.Fatalf("%s of %x: %d", w.name, b, e)
			}
			a, n := f.Src, f.SrcPort
			if w.end == 1 {
				a, n = f.Dst, f.DstPort
			}
			w.want(t, "and back", there, a, n, b, api.OK)
		}
	}
}

// P17.4: back from wherever it goes, one place after the other.
func TestBackFromFar(t *testing.T) {
	r := draw(45)
	for range 300 {
		f := drawn(r)
		d := dressed(r, f)
		b := d.lay()
		for range 20 {
			w := ways()[r.IntN(2)]
			d = d.moved(w.end, address(r, f.Src.Six), port(r))
			a, n := d.flow.Src, d.flow.SrcPort
			if w.end == 1 {
				a, n = d.flow.Dst, d.flow.DstPort
			}
			w.want(t, "on its way", b, a, n, d.lay(), api.OK)
			b = d.lay()
		}
		home := d.moved(0, f.Src, f.SrcPort)
		ways()[0].want(t, "back", b, f.Src, f.SrcPort, home.lay(), api.OK)
		ways()[1].want(t, "back", home.lay(), f.Dst, f.DstPort, home.moved(1, f.Dst, f.DstPort).lay(), api.OK)
	}
}

// P17.4: a packet whose sums are ffff where they should be 0 comes back with right ones.
func TestBackWithTurnedSums(t *testing.T) {
	r := draw(46)
	for i := range 1000 {
		for _, w := range ways() {
			d := aimed(i, r.Uint64())
			d.aimSeg()
			if !d.flow.Src.Six {
				d.aimHead()
			}
			want := d.lay()
			d.headSum, d.segSum = turned, turned
			a, n := d.flow.Src, d.flow.SrcPort
			if w.end == 1 {
				a, n = d.flow.Dst, d.flow.DstPort
			}
			there, _ := w.do(d.lay(), address(r, a.Six), port(r))
			w.want(t, "and back", there, a, n, want, api.OK)
			w.want(t, "as it was", d.lay(), a, n, want, api.OK)
		}
	}
}

// P17.1: To and From in either order come to the same, and to both at once.
func TestEitherOrder(t *testing.T) {
	r := draw(47)
	for range 5000 {
		d := dressed(r, drawn(r))
		to, from := address(r, d.flow.Src.Six), address(r, d.flow.Src.Six)
		p, q := port(r), port(r)
		l := ways()
		one, _ := l[1].do(d.lay(), to, p)
		one, e := l[0].do(one, from, q)
		two, _ := l[0].do(d.lay(), from, q)
		two, e2 := l[1].do(two, to, p)
		want := d.moved(1, to, p).moved(0, from, q).lay()
		if !bytes.Equal(one, want) || !bytes.Equal(two, want) || e != api.OK || e2 != api.OK {
			t.Errorf("%x goes to %v %d from %v %d: %x, %x, not %x", d.lay(), to, p, from, q, one, two, want)
		}
	}
}
