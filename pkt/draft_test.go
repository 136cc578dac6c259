package pkt_test

import (
	"bytes"
	"math/rand/v2"

	"stanchion/api"
)

// draft is a packet that is not put together yet: its sizes and sums are laid in at last, and are right, unless they are to be others.
type draft struct {
	flow             api.Flow
	head             []byte // with what stands between
	seg              []byte
	size, udpSize    func(n int) int // what is said of n bytes
	headSum, segSum  byte            // what is added to the sums' last byte
	sumless          bool            // of UDP
	segEnd, end      int             // how many bytes there are at most
	least, partWords int             // how many bytes there are at least; bytes 6 and 7 of IPv4
}

// same says n of n.
func same(n int) int { return n }

// plain is the packet that Build is to make.
func plain(f api.Flow, flags, hops byte, data []byte) *draft {
	d := &draft{flow: f, size: same, udpSize: same, segEnd: 1 << 20, end: 1 << 20}
	if f.Proto == 6 {
		d.seg = make([]byte, 20)
		d.seg[12], d.seg[13] = 0x50, flags
	} else {
		d.seg = make([]byte, 8)
	}
	d.seg = append(put2(put2(d.seg, 0, int(f.SrcPort)), 2, int(f.DstPort)), data...)
	if f.Src.Six {
		d.head = append(append([]byte{0x60, 0, 0, 0, 0, 0, f.Proto, hops}, f.Src.B[:]...), f.Dst.B[:]...)
	} else {
		d.head = append(append([]byte{0x45, 0, 0, 0, 0, 0, 0, 0, hops, f.Proto, 0, 0}, f.Src.B[12:]...), f.Dst.B[12:]...)
	}
	return d
}

// rest is what 65535 leaves of all numbers of two bytes of b, but 65535, not 0, of all but bytes 0.
func rest(b []byte) int {
	n := 0
	for i, x := range b {
		if i%2 == 0 {
			n += 256 * int(x)
		} else {
			n += int(x)
		}
	}
	if n == 0 {
		return 0
	}
	return (n-1)%65535 + 1
}

// pseudo is what a segment of f is summed with.
func pseudo(f api.Flow, size int) []byte {
	if f.Src.Six {
		ends := append(bytes.Clone(f.Src.B[:]), f.Dst.B[:]...)
		return append(ends, 0, 0, byte(size>>8), byte(size), 0, 0, 0, f.Proto)
	}
	ends := append(bytes.Clone(f.Src.B[12:]), f.Dst.B[12:]...)
	return append(ends, 0, f.Proto, byte(size>>8), byte(size))
}

// segment is d's segment with its size and its sum.
func (d *draft) segment() []byte {
	s, at := bytes.Clone(d.seg[:min(len(d.seg), d.segEnd)]), 16
	if d.flow.Proto == 17 {
		at = 6
	}
	if d.flow.Proto == 17 && len(s) >= 6 {
		s = put2(s, 4, d.udpSize(len(s)))
	}
	if len(s) < at+2 {
		return s
	}
	n := 65535 - rest(append(pseudo(d.flow, len(s)), put2(s, at, 0)...))
	if d.flow.Proto == 17 && n == 0 {
		n = 65535
	}
	s = put2(s, at, n)
	s[at+1] += d.segSum
	if d.sumless {
		s = put2(s, at, 0)
	}
	return s
}

// lay is d's bytes.
func (d *draft) lay() []byte {
	b := append(bytes.Clone(d.head), d.segment()...)
	if d.flow.Src.Six {
		b = put2(b, 4, d.size(len(b)-40))
	} else {
		b = put2(put2(b, 2, d.size(len(b))), 6, d.partWords)
		n := 65535 - rest(put2(b, 10, 0)[:min(4*int(b[0]&15), len(b))])
		b = put2(b, 10, n)
		b[11] += d.headSum
	}
	if len(b) < d.least {
		b = append(b, make([]byte, d.least-len(b))...)
	}
	return b[:min(len(b), d.end)]
}

// extra is a head between: its kind, and its byte 1.
type extra struct{ kind, more byte }

// between puts the heads l between d's head and its segment; what else may be is drawn, but none makes a part.
func (d *draft) between(r *rand.Rand, l ...extra) *draft {
	tells := 6
	for _, x := range l {
		at, size := len(d.head), 8+8*int(x.more)
		if x.kind == 44 {
			size = 8
		}
		d.head = append(d.head, text(size, r.Uint64())...)
		d.head[tells], d.head[at+1] = x.kind, x.more
		if x.kind == 44 {
			d.head[at+2], d.head[at+3] = 0, d.head[at+3]&6
		}
		tells = at
	}
	d.head[tells] = d.flow.Proto
	return d
}

// options gives d's head of IPv4 n times 4 bytes; those behind the first 20 are drawn.
func (d *draft) options(r *rand.Rand, n int) *draft {
	d.head = append(d.head[:20], text(4*n-20, r.Uint64())...)
	d.head[0] = 0x40 + byte(n)
	return d
}

// words gives d's head of TCP n times 4 bytes; those behind the first 20 are drawn.
func (d *draft) words(r *rand.Rand, n int) *draft {
	data := d.seg[4*(d.seg[12]/16):]
	d.seg = append(append(bytes.Clone(d.seg[:20]), text(4*n-20, r.Uint64())...), data...)
	d.seg[12] = byte(n)<<4 | byte(r.IntN(16))
	return d
}

// packet is what Parse is to tell of a sound d.
func (d *draft) packet() api.Packet {
	f := d.flow
	p := api.Packet{Flow: f}
	p.Head = api.Head{Six: f.Src.Six, Proto: f.Proto, At: len(d.head), Src: f.Src, Dst: f.Dst, Hops: d.head[8]}
	if f.Src.Six {
		p.Head.Hops = d.head[7]
	}
	p.Seg = api.Seg{Src: f.SrcPort, Dst: f.DstPort, SumAt: 6, Data: 8, Zero: d.sumless}
	if f.Proto == 6 {
		p.Seg = api.Seg{Src: f.SrcPort, Dst: f.DstPort, SumAt: 16, Data: 4 * int(d.seg[12]/16), Flags: d.seg[13]}
	}
	return p
}
