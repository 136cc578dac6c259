package pkt_test

import (
	"bytes"
	"testing"

	"stanchion/api"
	"stanchion/pkt"
)

// P16.2: packets whose bytes and sums are put together by hand: the chapter's example is the first one.
func TestBuildTold(t *testing.T) {
	hostA, hostB := four(10, 0, 0, 1), four(10, 0, 0, 2)
	far, near := six(unhex("20010db8 00000000 00000000 00000001")...), six(unhex("20010db8 00000000 00000000 00000002")...)
	for _, x := range []struct {
		f           api.Flow
		flags, hops byte
		data, want  string
	}{
		{api.Flow{Src: hostA, Dst: hostB, SrcPort: 5, DstPort: 6, Proto: 17}, 0, 64, "", "4500001c 00000000 401166cf 0a000001 0a000002 0005 0006 0008 ebd0"},
		{api.Flow{Src: hostA, Dst: hostB, SrcPort: 258, DstPort: 772, Proto: 6}, 18, 255, "686921", "4500002b 00000000 ff06a7ca 0a000001 0a000002 01020304 00000000 00000000 50120000 0e5e0000 686921"},
		{api.Flow{Src: far, Dst: near, SrcPort: 53, DstPort: 4660, Proto: 17}, 9, 7, "ab", "60000000 0009 11 07 20010db8000000000000000000000001 20010db8000000000000000000000002 0035 1234 0009 e6fd ab"},
	} {
		wantBuild(t, "told by hand", x.f, x.flags, x.hops, unhex(x.data), unhex(x.want), api.OK)
		asBuild(t, "the model", x.f, x.flags, x.hops, unhex(x.data))
	}
	b, e := pkt.Build(api.Flow{Src: hostA, Dst: hostB, SrcPort: 5, DstPort: 6, Proto: 17}, 0, 1, nil)
	if len(b) != 28 || e != api.OK {
		t.Errorf("the chapter's example: %d bytes, %d", len(b), e)
	}
}

// P16.2: each Proto: of all but two there is no packet, whatever else is wrong.
func TestBuildProtos(t *testing.T) {
	for _, f := range flows() {
		for n := range 256 {
			f.Proto = byte(n)
			if _, e := asBuild(t, "a Proto", f, 2, 9, nil); e == api.ErrNone != (n != 6 && n != 17) {
				t.Errorf("Proto %d: %d", n, e)
			}
			if n != 6 && n != 17 {
				wantBuild(t, "no ports", api.Flow{Src: f.Src, Dst: f.Dst, Proto: f.Proto}, 0, 0, make([]byte, 1901), nil, api.ErrNone)
				wantBuild(t, "nothing else", api.Flow{Proto: f.Proto}, 0, 9, nil, nil, api.ErrNone)
				wantBuild(t, "two kinds", api.Flow{Src: fourA, Dst: sixB, SrcPort: 1, DstPort: 1, Proto: f.Proto}, 0, 9, nil, nil, api.ErrNone)
			}
		}
	}
}

// P16.2: all choices of what may be wrong: each alone, and each ahead of every later one.
func TestBuildFaults(t *testing.T) {
	for _, sound := range flows() {
		for choice := range 1 << 9 {
			f, data, hops, want := sound, make([]byte, 1900), byte(3), api.OK
			err := func(i int, e api.Errno) bool {
				if choice>>i&1 == 1 && want == api.OK {
					want = e
				}
				return choice>>i&1 == 1
			}
			if err(0, api.ErrNone) {
				f.Proto = 58
			}
			if err(1, api.ErrArg) {
				f.SrcPort = 0
			}
			if err(2, api.ErrArg) {
				f.DstPort = 0
			}
			if choice>>3&1 == 1 {
				f.Src.Six = !f.Src.Six
			}
			if choice>>4&1 == 1 {
				f.Dst.Six = !f.Dst.Six
			}
			if err(5, api.ErrArg) {
				f.Src = bad(four(1, 2, 3, 4), choice%12)
			}
			if err(6, api.ErrArg) {
				f.Dst = bad(four(1, 2, 3, 4), choice%12)
			}
			if want == api.OK && (f.Src.Six != f.Dst.Six || !good(f.Src) || !good(f.Dst)) {
				want = api.ErrArg
			}
			if err(7, api.ErrLong) {
				data = make([]byte, 1901)
			}
			if err(8, api.ErrArg) {
				hops = 0
			}
			if _, e := asBuild(t, "faults", f, 16, hops, data); e != want {
				t.Errorf("choice %b: %d, not %d", choice, e, want)
			}
		}
	}
}

// P16.2: addresses that are not good, each byte that may be so alone, on each side and on both; and those of the other kind.
func TestBuildAddresses(t *testing.T) {
	for _, f := range []api.Flow{tcp4, udp4} {
		for at := range 12 {
			for bit := range 8 {
				one, two := f, f
				one.Src.B[at] = 1 << bit
				two.Dst.B[at] = 1 << bit
				both := api.Flow{Src: one.Src, Dst: two.Dst, SrcPort: 1, DstPort: 1, Proto: f.Proto}
				for _, x := range []api.Flow{one, two, both} {
					wantBuild(t, "not good", x, 2, 9, nil, nil, api.ErrArg)
				}
			}
		}
	}
	for _, f := range flows() {
		f.Src, f.Dst = fourA, sixA
		wantBuild(t, "to the other kind", f, 2, 9, []byte{1}, nil, api.ErrArg)
		f.Src, f.Dst = sixA, fourA
		wantBuild(t, "from the other kind", f, 2, 9, []byte{1}, nil, api.ErrArg)
		f.Src, f.Dst = bad(fourA, 0), sixA
		wantBuild(t, "neither good nor alike", f, 2, 9, []byte{1}, nil, api.ErrArg)
		for _, a := range []api.Addr{{}, {Six: true}, four(255, 255, 255, 255), {Six: true, B: four(1, 2, 3, 4).B}} {
			f.Src, f.Dst = a, a
			asBuild(t, "a packet to whom it comes from", f, 2, 9, []byte{1})
			wantParse(t, "a packet to whom it comes from", plain(f, 2, 9, nil).lay(), plain(f, 2, 9, nil).packet(), api.OK)
		}
	}
}

// P16.2: ports of 0, one and both, whatever else is there.
func TestBuildPorts(t *testing.T) {
	for _, f := range flows() {
		for _, x := range [][2]uint16{{0, 0}, {0, 1}, {1, 0}, {0, 65535}, {65535, 0}, {256, 0}, {0, 256}} {
			f.SrcPort, f.DstPort = x[0], x[1]
			wantBuild(t, "no port", f, 2, 9, nil, nil, api.ErrArg)
			wantBuild(t, "no port, too long", f, 2, 9, make([]byte, 1901), nil, api.ErrArg)
		}
		for n := 1; n < 1<<16; n += 13 {
			f.SrcPort, f.DstPort = uint16(n), uint16(n*7919)|1
			asBuild(t, "ports", f, 2, 9, nil)
		}
	}
}

// P16.2: each number of bytes of data, from none to as many as may be; one more is too many, with hops or without.
func TestBuildSizes(t *testing.T) {
	data := text(3000, 31)
	for _, f := range flows() {
		ahead := len(plain(f, 0, 1, nil).lay())
		for size := range 3000 {
			b, e := asBuild(t, "a size", f, 2, 9, data[:size])
			if size <= 1900 && (e != api.OK || len(b) != ahead+size || !bytes.Equal(b[ahead:], data[:size])) || size > 1900 && e != api.ErrLong {
				t.Errorf("%d bytes of data: %d bytes, %d", size, len(b), e)
			}
		}
		for _, size := range []int{1901, 1988, 2008, 2028, 2048, 2049, 1<<16 - 8, 1 << 16, 1<<16 + 1900, 1 << 24} {
			wantBuild(t, "too long", f, 2, 9, make([]byte, size), nil, api.ErrLong)
			wantBuild(t, "too long, no hops", f, 2, 0, make([]byte, size), nil, api.ErrLong)
		}
	}
}

// P16.2: each number of hops; none is an error, with data of each size that may be.
func TestBuildHops(t *testing.T) {
	for _, f := range flows() {
		for n := range 256 {
			if _, e := asBuild(t, "hops", f, 2, byte(n), text(n, 32)); (e == api.OK) != (n > 0) {
				t.Errorf("%d hops: %d", n, e)
			}
		}
		for _, size := range []int{0, 1, 1899, 1900} {
			wantBuild(t, "no hops", f, 2, 0, make([]byte, size), nil, api.ErrArg)
		}
	}
}

// P16.2: each number of flags: of TCP in the packet as they are, of UDP not at all.
func TestBuildFlags(t *testing.T) {
	for _, f := range flows() {
		none, _ := asBuild(t, "no flags", f, 0, 9, []byte{7})
		for n := range 256 {
			b, e := asBuild(t, "flags", f, byte(n), 9, []byte{7})
			if e != api.OK {
				t.Fatal(e)
			}
			if f.Proto == 17 && !bytes.Equal(b, none) {
				t.Errorf("flags of %d are in %x, of UDP", n, b)
			}
			if f.Proto == 6 && b[len(b)-8] != byte(n) {
				t.Errorf("flags of %d are not in %x", n, b)
			}
		}
	}
}

// P16.2: a packet of UDP has a sum always: where it would be 0, ffff in place of it; of TCP 0 stays.
func TestBuildSums(t *testing.T) {
	for _, f := range flows() {
		b, _ := asBuild(t, "a sum", f, 2, 9, []byte{0, 0})
		at, want := len(b)-4, 65535
		if f.Proto == 6 {
			at, want = len(b)-6, 0
		}
		n := number(b, at)
		b, e := asBuild(t, "a sum of nothing", f, 2, 9, []byte{byte(n >> 8), byte(n)})
		if e != api.OK || number(b, at) != want {
			t.Errorf("the sum of %x is not %d", b, want)
		}
		if p, e := asParse(t, "a sum of nothing", b); e != api.OK || p.Seg.Zero {
			t.Errorf("%v, %d", p, e)
		}
	}
}

// wantBack holds Parse of Build against the flow, the flags (of TCP), the hops, and the data behind.
func wantBack(t *testing.T, f api.Flow, flags, hops byte, data []byte) {
	t.Helper()
	b, e := pkt.Build(f, flags, hops, data)
	if e != api.OK {
		t.Fatalf("Build of %v, %d, %d and %d bytes: %d", f, flags, hops, len(data), e)
	}
	p, e := pkt.Parse(b)
	if f.Proto == 17 {
		flags = 0
	}
	if e != api.OK || p.Flow != f || p.Seg.Flags != flags || p.Head.Hops != hops || p.Seg.Zero || !bytes.Equal(b[p.Head.At+p.Seg.Data:], data) {
		t.Errorf("Parse of Build of %v, %d, %d and %x is %v, %d", f, flags, hops, data, p, e)
	}
	if p.Head.Six != f.Src.Six || p.Head.Proto != f.Proto || p.Head.Src != f.Src || p.Head.Dst != f.Dst || p.Head.Part || p.Seg.Src != f.SrcPort || p.Seg.Dst != f.DstPort {
		t.Errorf("the head and the segment of %v are %v, %v", f, p.Head, p.Seg)
	}
}

// P16.4: flows, flags, hops and data that are drawn.
func TestThereAndBack(t *testing.T) {
	r := draw(33)
	for range 40000 {
		size := r.IntN(50)
		if r.IntN(10) == 0 {
			size = r.IntN(1901)
		}
		f, flags, hops, data := drawn(r), byte(r.Uint32()), byte(1+r.IntN(255)), text(size, r.Uint64())
		asBuild(t, "drawn", f, flags, hops, data)
		wantBack(t, f, flags, hops, data)
	}
}

// P16.4: there and back at the edges of addresses, ports, flags, hops and sizes.
func TestThereAndBackEdges(t *testing.T) {
	ends := [][2]api.Addr{{fourA, fourA}, {{}, four(255, 255, 255, 255)}, {four(255, 255, 255, 255), {}}, {sixA, sixA}, {{Six: true}, sixB}, {{Six: true, B: fourA.B}, {Six: true}}}
	for _, a := range ends {
		for _, ports := range [][2]uint16{{1, 1}, {1, 65535}, {65535, 1}, {65535, 65535}, {256, 255}} {
			for _, flags := range []byte{0, 1, 2, 4, 16, 18, 255} {
				for _, size := range []int{0, 1, 2, 248, 1899, 1900} {
					for _, hops := range []byte{1, 2, 64, 255} {
						for _, proto := range []byte{6, 17} {
							wantBack(t, api.Flow{Src: a[0], Dst: a[1], SrcPort: ports[0], DstPort: ports[1], Proto: proto}, flags, hops, bytes.Repeat([]byte{hops}, size))
						}
					}
				}
			}
		}
	}
}
