package pkt_test

import (
	"bytes"
	"slices"
	"testing"

	"stanchion/api"
	"stanchion/pkt"
)

// wantLess holds Less against want, and against like flows and the other way round.
func wantLess(t *testing.T, what string, a, b api.Flow, want bool) {
	t.Helper()
	if got := pkt.Less(a, b); got != want {
		t.Errorf("%s: Less of %v, %v is %v", what, a, b, got)
	}
	if got := pkt.Less(b, a); got != (a != b && !want) {
		t.Errorf("%s: Less of %v, %v is %v, the other way too", what, b, a, got)
	}
}

// odd are flows that no packet has: without ports, without a Proto, of two kinds, of addresses that are not good.
func odd() []api.Flow {
	return []api.Flow{
		{}, {Proto: 255}, {SrcPort: 9}, {DstPort: 9}, {Src: fourA}, {Dst: fourA}, {Src: sixA, Dst: fourA, SrcPort: 1, DstPort: 2, Proto: 6},
		{Src: bad(fourA, 3), Dst: bad(fourB, 11), SrcPort: 3, DstPort: 4, Proto: 17}, {Src: bad(fourA, 0), Dst: sixA},
	}
}

// P16.3: Back turns addresses and ports, and nothing else.
func TestBack(t *testing.T) {
	for _, x := range []struct{ f, want api.Flow }{
		{tcp4, api.Flow{Src: fourB, Dst: fourA, SrcPort: 80, DstPort: 40000, Proto: 6}},
		{udp6, api.Flow{Src: sixA, Dst: sixB, SrcPort: 258, DstPort: 65534, Proto: 17}},
		{api.Flow{}, api.Flow{}},
		{api.Flow{Proto: 255}, api.Flow{Proto: 255}},
		{api.Flow{Src: fourA}, api.Flow{Dst: fourA}},
		{api.Flow{Dst: sixB}, api.Flow{Src: sixB}},
		{api.Flow{SrcPort: 7}, api.Flow{DstPort: 7}},
		{api.Flow{DstPort: 65535}, api.Flow{SrcPort: 65535}},
		{api.Flow{Src: sixA, Dst: bad(fourA, 5), SrcPort: 1}, api.Flow{Src: bad(fourA, 5), Dst: sixA, DstPort: 1}},
	} {
		if got := pkt.Back(x.f); got != x.want {
			t.Errorf("Back of %v is %v, not %v", x.f, got, x.want)
		}
	}
}

// P16.3: Back twice is the flow, whatever it is.
func TestBackTwice(t *testing.T) {
	r := draw(41)
	l := append(flows(), odd()...)
	for range 1000 {
		l = append(l, drawn(r))
	}
	for _, f := range l {
		back := pkt.Back(f)
		if back.Src != f.Dst || back.Dst != f.Src || back.SrcPort != f.DstPort || back.DstPort != f.SrcPort || back.Proto != f.Proto {
			t.Errorf("Back of %v is %v", f, back)
		}
		if got := pkt.Back(back); got != f {
			t.Errorf("Back of Back of %v is %v", f, got)
		}
	}
}

// P16.3: what a packet tells turned is what a packet of the flow of the other way tells.
func TestBackOfPackets(t *testing.T) {
	for _, f := range flows() {
		there, _ := pkt.Build(f, 2, 9, nil)
		back, _ := pkt.Build(pkt.Back(f), 18, 9, nil)
		p, _ := pkt.Parse(there)
		q, e := pkt.Parse(back)
		if e != api.OK || q.Flow != pkt.Back(p.Flow) || q.Flow == p.Flow {
			t.Errorf("%v, and back %v, %d", p, q, e)
		}
	}
}

// field is a field of flows, that is to be n (of 0 to 3, of which each is more than those below it).
type field func(f *api.Flow, n int)

// fields are those by which Less goes, the first ones ahead.
func fields() []field {
	some := []api.Addr{four(1, 0, 0, 255), four(1, 0, 1, 0), {Six: true, B: [16]byte{15: 1}}, {Six: true, B: [16]byte{0: 1}}}
	ports := []uint16{0, 255, 256, 65535}
	return []field{
		func(f *api.Flow, n int) { f.Proto = []byte{0, 6, 17, 255}[n] },
		func(f *api.Flow, n int) { f.Src = some[n] },
		func(f *api.Flow, n int) { f.Dst = some[n] },
		func(f *api.Flow, n int) { f.SrcPort = ports[n] },
		func(f *api.Flow, n int) { f.DstPort = ports[n] },
	}
}

// P16.3: each field alone, either way and alike.
func TestLessByOneField(t *testing.T) {
	for _, f := range append(flows(), odd()...) {
		wantLess(t, "alike", f, f, false)
		for _, set := range fields() {
			for n := range 4 {
				for m := range 4 {
					a, b := f, f
					set(&a, n)
					set(&b, m)
					wantLess(t, "one field", a, b, n < m)
				}
			}
		}
	}
}

// P16.3: each field is ahead of every later one: whatever those say, the first that is another one tells.
func TestLessByFirstField(t *testing.T) {
	all := fields()
	var l [][5]int
	for n := range 1 << 10 { // two bits a field
		l = append(l, [5]int{n & 3, n >> 2 & 3, n >> 4 & 3, n >> 6 & 3, n >> 8 & 3})
	}
	flow := func(x [5]int) api.Flow {
		f := api.Flow{}
		for i, n := range x {
			all[i](&f, n)
		}
		return f
	}
	for _, x := range l {
		for _, y := range l {
			wantLess(t, "fields", flow(x), flow(y), slices.Compare(x[:], y[:]) < 0)
		}
	}
}

// P16.3: addresses go by their kind, then by each of their bytes, the first ones ahead, those that are not good too.
func TestLessByAddresses(t *testing.T) {
	r := draw(42)
	for range 20000 {
		a, b := drawn(r), drawn(r)
		b.Proto, b.SrcPort, b.DstPort = a.Proto, a.SrcPort, a.DstPort
		if r.IntN(2) == 0 {
			b.Src = a.Src
			b.Dst = a.Dst
			b.Dst.B[r.IntN(16)] ^= 1 << r.IntN(8)
		}
		if r.IntN(2) == 0 {
			a, b = pkt.Back(a), pkt.Back(b)
		}
		want := bytes.Compare(key(a), key(b)) < 0
		wantLess(t, "addresses", a, b, want)
	}
}

// key is bytes that are in the order of their flows.
func key(f api.Flow) []byte {
	k := []byte{f.Proto}
	for _, a := range []api.Addr{f.Src, f.Dst} {
		if a.Six {
			k = append(k, 1)
		} else {
			k = append(k, 0)
		}
		k = append(k, a.B[:]...)
	}
	return append(k, byte(f.SrcPort>>8), byte(f.SrcPort), byte(f.DstPort>>8), byte(f.DstPort))
}

// P16.3: each bit of a flow alone makes another one of it, which is less or more.
func TestLessByEachBit(t *testing.T) {
	for _, f := range append(flows(), odd()...) {
		for bit := range 16 {
			a, b := f, f
			a.SrcPort ^= 1 << bit
			b.DstPort ^= 1 << bit
			wantLess(t, "a bit of a port", a, f, a.SrcPort < f.SrcPort)
			wantLess(t, "a bit of a port", b, f, b.DstPort < f.DstPort)
			for at := range 16 {
				a, b = f, f
				a.Src.B[at] ^= 1 << (bit % 8)
				b.Dst.B[at] ^= 1 << (bit % 8)
				wantLess(t, "a bit of an address", a, f, a.Src.B[at] < f.Src.B[at])
				wantLess(t, "a bit of an address", b, f, b.Dst.B[at] < f.Dst.B[at])
			}
			a = f
			a.Proto ^= 1 << (bit % 8)
			wantLess(t, "a bit of the Proto", a, f, a.Proto < f.Proto)
		}
		a, b := f, f
		a.Src.Six, b.Dst.Six = !f.Src.Six, !f.Dst.Six
		wantLess(t, "the kind", a, f, f.Src.Six)
		wantLess(t, "the kind", b, f, f.Dst.Six)
	}
}

// P16.3: flows that are sorted by Less are in the order of their keys, whatever order they come in.
func TestLessSorts(t *testing.T) {
	r := draw(43)
	var l []api.Flow
	for range 2000 {
		f := drawn(r)
		if len(l) > 0 && r.IntN(3) > 0 {
			old := l[r.IntN(len(l))]
			f.Proto, f.Src = old.Proto, old.Src
			if r.IntN(2) == 0 {
				f.Dst = old.Dst
			}
		}
		l = append(l, f)
	}
	slices.SortFunc(l, func(a, b api.Flow) int {
		switch {
		case pkt.Less(a, b):
			return -1
		case pkt.Less(b, a):
			return 1
		}
		return 0
	})
	for i := 1; i < len(l); i++ {
		if bytes.Compare(key(l[i-1]), key(l[i])) > 0 {
			t.Fatalf("%v stands ahead of %v", l[i-1], l[i])
		}
	}
}
