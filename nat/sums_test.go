package nat_test

import (
	"bytes"
	"testing"

	"stanchion/api"
)

// turned is 65535 in place of 0, which sums up alike.
func turned(n int) int {
	if n == 0 {
		return 65535
	}
	return n
}

// aimHead lets the sum of d's head, of IPv4, be 0, by its bytes 4 and 5.
func (d *draft) aimHead() {
	d.head = put2(d.head, 4, 0)
	d.head = put2(d.head, 4, number(d.lay(), 10))
}

// aimSeg lets the sum of d's segment be 0, by bytes that say nothing here: 18 and 19 of TCP, the first two behind the head of UDP.
func (d *draft) aimSeg() {
	at := d.sumAt() + 2
	d.seg = put2(d.seg, at, 0)
	n := number(d.lay(), len(d.head)+d.sumAt())
	d.seg = put2(d.seg, at, n)
}

// zeroSums holds the sums that b, of d, has against those that d was aimed at.
func zeroSums(t *testing.T, what string, d *draft, b []byte, head, seg bool) {
	t.Helper()
	if head && number(b, 10) != 0 {
		t.Errorf("%s: the head's sum is %x", what, number(b, 10))
	}
	want := 0
	if d.flow.Proto == 17 {
		want = 65535
	}
	if n := number(b, len(d.head)+d.sumAt()); seg && n != want {
		t.Errorf("%s: the segment's sum is %x, not %x", what, n, want)
	}
}

// aimed is a drawn packet of one of flows, with two bytes behind the head at least.
func aimed(i int, seed uint64) *draft {
	r := draw(seed)
	d := dressed(r, flows()[i%4])
	d.segSum = same
	d.seg = append(d.seg, text(2, seed)...)
	return d
}

// P17.1: sums of 0 that are to be told: 0 of the head and of TCP, ffff of UDP.
func TestZeroSumsToBeTold(t *testing.T) {
	r := draw(31)
	for i := range 2000 {
		for _, w := range ways() {
			d := aimed(i, r.Uint64())
			m := d.moved(w.end, address(r, d.flow.Src.Six), port(r))
			m.aimSeg()
			head := !d.flow.Src.Six
			if head {
				m.aimHead()
			}
			d.head, d.seg = m.head, m.seg
			a, p := m.flow.Src, m.flow.SrcPort
			if w.end == 1 {
				a, p = m.flow.Dst, m.flow.DstPort
			}
			zeroSums(t, w.name, m, w.moves(t, "to be told", d, a, p), head, true)
		}
	}
}

// P17.1: sums of 0, and ffff in their place, that were told: what is told then is as of the packet with right sums.
func TestZeroSumsThatWereTold(t *testing.T) {
	r := draw(32)
	for i := range 3000 {
		for _, w := range ways() {
			d := aimed(i, r.Uint64())
			d.aimSeg()
			head := !d.flow.Src.Six
			if head {
				d.aimHead()
			}
			zeroSums(t, "the packet", d, d.lay(), head, true)
			a, p := address(r, d.flow.Src.Six), port(r)
			want := w.moves(t, "told", d, a, p)
			d.segSum = turned
			w.want(t, "a segment's of ffff", d.lay(), a, p, want, api.OK)
			d.headSum = turned
			w.want(t, "both of ffff", d.lay(), a, p, want, api.OK)
			d.segSum = same
			w.want(t, "a head's of ffff", d.lay(), a, p, want, api.OK)
		}
	}
}

// filled is the address whose bytes all are x.
func filled(isSix bool, x byte) api.Addr {
	if isSix {
		return six(bytes.Repeat([]byte{x}, 16)...)
	}
	return four(x, x, x, x)
}

// P17.1: sums of ffff that were told, where the address and the port stay as they are, or turn from all ones to all noughts: they are told as they should be.
func TestTurnedSums(t *testing.T) {
	for i, f := range flows() {
		for _, w := range ways() {
			ones, noughts := filled(f.Src.Six, 255), filled(f.Src.Six, 0)
			for _, ends := range [][2]api.Addr{{ones, noughts}, {noughts, ones}, {ones, ones}, {noughts, noughts}} {
				for _, ports := range [][2]uint16{{65535, 1}, {65535, 65535}, {1, 65535}, {1, 1}} {
					d := aimed(i, uint64(33+i)).moved(w.end, ends[0], ports[0])
					d.aimSeg()
					if !f.Src.Six {
						d.aimHead()
					}
					want := d.moved(w.end, ends[1], ports[1]).lay()
					d.headSum, d.segSum = turned, turned
					w.want(t, "turned", d.lay(), ends[1], ports[1], want, api.OK)
					w.as(t, "turned", d.lay(), ends[1], ports[1])
				}
			}
		}
	}
}

// P17.1: all sums are told, of a port that goes through all: each of 65535 of the segment comes once, 0 of TCP and ffff of UDP.
func TestAllSums(t *testing.T) {
	for _, f := range flows() {
		d := plain(f, 16, 9, text(6, 34))
		for _, w := range ways() {
			seen := map[int]bool{}
			for n := 1; n <= 65535; n++ {
				b, e := w.do(d.lay(), sameKind(f.Src), uint16(n))
				if e != api.OK {
					t.Fatalf("%s port %d: %d", w.name, n, e)
				}
				seen[number(b, len(d.head)+d.sumAt())] = true
			}
			if len(seen) != 65535 || seen[0] != (f.Proto == 6) || seen[65535] != (f.Proto == 17) {
				t.Errorf("%s of Proto %d: %d sums, 0: %v, ffff: %v", w.name, f.Proto, len(seen), seen[0], seen[65535])
			}
		}
	}
}
