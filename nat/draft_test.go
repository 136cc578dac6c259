package nat_test

import (
	"bytes"
	"math/rand/v2"

	"stanchion/api"
)

// draft is a packet that is not put together yet: its addresses, ports, sizes and sums are laid in at last, as its flow says and as they should be, unless they are to be others.
type draft struct {
	flow             api.Flow
	head             []byte // with what stands between
	seg              []byte
	size, udpSize    func(n int) int // what is said of n bytes
	headSum, segSum  func(n int) int // what stands in place of the sum n
	segEnd, end      int             // how many bytes there are at most
	least, partWords int             // how many bytes there are at least; bytes 6 and 7 of IPv4
}

// same says n of n.
func same(n int) int { return n }

// plain is the packet that Build is to make.
func plain(f api.Flow, flags, hops byte, data []byte) *draft {
	d := &draft{flow: f, size: same, udpSize: same, headSum: same, segSum: same, segEnd: 1 << 20, end: 1 << 20}
	d.seg = make([]byte, 8)
	if f.Proto == 6 {
		d.seg = make([]byte, 20)
		d.seg[12], d.seg[13] = 0x50, flags
	}
	d.seg = append(d.seg, data...)
	if f.Src.Six {
		d.head = append([]byte{0x60, 0, 0, 0, 0, 0, f.Proto, hops}, make([]byte, 32)...)
	} else {
		d.head = append([]byte{0x45, 0, 0, 0, 0, 0, 0, 0, hops, f.Proto}, make([]byte, 10)...)
	}
	return d
}

// moved is d with another address and port at one end: 0 is whence it comes, 1 whither it goes.
func (d *draft) moved(end int, a api.Addr, port uint16) *draft {
	m := *d
	if end == 0 {
		m.flow.Src, m.flow.SrcPort = a, port
	} else {
		m.flow.Dst, m.flow.DstPort = a, port
	}
	return &m
}

// sized puts as many drawn bytes behind d that it has n.
func (d *draft) sized(r *rand.Rand, n int) *draft {
	d.seg = append(d.seg, text(n-len(d.head)-len(d.seg), r.Uint64())...)
	return d
}

// summed is the sum of all numbers of two bytes of b, a 0 behind, if need be.
func summed(b []byte) int {
	n := 0
	for i, x := range b {
		if i%2 == 0 {
			n += 256 * int(x)
		} else {
			n += int(x)
		}
	}
	for n >= 65536 {
		n = n%65536 + n/65536
	}
	return 65535 - n
}

// ends is both addresses of f, with the bytes that their kind has.
func ends(f api.Flow) []byte {
	if f.Src.Six {
		return append(bytes.Clone(f.Src.B[:]), f.Dst.B[:]...)
	}
	return append(bytes.Clone(f.Src.B[12:]), f.Dst.B[12:]...)
}

// pseudo is what a segment of f is summed with.
func pseudo(f api.Flow, size int) []byte {
	if f.Src.Six {
		return append(ends(f), 0, 0, byte(size>>8), byte(size), 0, 0, 0, f.Proto)
	}
	return append(ends(f), 0, f.Proto, byte(size>>8), byte(size))
}

// sumAt is where a segment of d has its sum.
func (d *draft) sumAt() int {
	if d.flow.Proto == 6 {
		return 16
	}
	return 6
}

// segment is d's segment with its ports, its size and its sum.
func (d *draft) segment() []byte {
	s := put2(put2(d.seg, 0, int(d.flow.SrcPort)), 2, int(d.flow.DstPort))
	s = s[:min(len(s), d.segEnd)]
	if d.flow.Proto == 17 && len(s) >= 6 {
		s = put2(s, 4, d.udpSize(len(s)))
	}
	at := d.sumAt()
	if len(s) < at+2 {
		return s
	}
	n := summed(append(pseudo(d.flow, len(s)), put2(s, at, 0)...))
	if d.flow.Proto == 17 && n == 0 {
		n = 65535
	}
	return put2(s, at, d.segSum(n))
}

// lay is d's bytes.
func (d *draft) lay() []byte {
	b := append(bytes.Clone(d.head), d.segment()...)
	if d.flow.Src.Six {
		b = put2(put(b, 8, ends(d.flow)...), 4, d.size(len(b)-40))
	} else {
		b = put2(put2(put(b, 12, ends(d.flow)...), 2, d.size(len(b))), 6, d.partWords)
		b = put2(b, 10, d.headSum(summed(put2(b, 10, 0)[:min(4*int(b[0]&15), len(b))])))
	}
	if len(b) < d.least {
		b = append(b, make([]byte, d.least-len(b))...)
	}
	return b[:min(len(b), d.end)]
}

// extra is a head between: its kind, and its byte 1.
type extra struct{ kind, more byte }

// between puts the heads l between d's head and its segment; what else may be is drawn, but none makes a part.
func (d *draft) between(r *rand.Rand, l ...extra) *draft {
	tells := 6
	for _, x := range l {
		at, size := len(d.head), 8+8*int(x.more)
		if x.kind == 44 {
			size = 8
		}
		d.head = append(d.head, text(size, r.Uint64())...)
		d.head[tells], d.head[at+1] = x.kind, x.more
		if x.kind == 44 {
			d.head[at+2], d.head[at+3] = 0, d.head[at+3]&6
		}
		tells = at
	}
	d.head[tells] = d.flow.Proto
	return d
}

// options gives d's head of IPv4 n times 4 bytes; those behind the first 20 are drawn, and so are those that say nothing here.
func (d *draft) options(r *rand.Rand, n int) *draft {
	d.head = append(d.head[:20], text(4*n-20, r.Uint64())...)
	d.head[0], d.head[1] = 0x40+byte(n), byte(r.Uint32())
	d.head = put2(d.head, 4, r.IntN(65536))
	d.partWords = 0x4000 * r.IntN(2)
	return d
}

// words gives d's head of TCP n times 4 bytes; those behind the first 20 are drawn, and so are those that say nothing here.
func (d *draft) words(r *rand.Rand, n int) *draft {
	data := d.seg[4*(d.seg[12]/16):]
	first := put(d.seg[:20], 4, text(8, r.Uint64())...)
	first = put(first, 18, text(2, r.Uint64())...)
	d.seg = append(append(first, text(4*n-20, r.Uint64())...), data...)
	d.seg[12] = byte(n)<<4 | byte(r.IntN(16))
	return d
}

// sumless is d without a sum, of UDP.
func (d *draft) sumless() *draft {
	d.segSum = said(0)
	return d
}

// packet is what is read of a sound d.
func (d *draft) packet() api.Packet {
	f := d.flow
	p := api.Packet{Flow: f}
	p.Head = api.Head{Six: f.Src.Six, Proto: f.Proto, At: len(d.head), Src: f.Src, Dst: f.Dst, Hops: d.head[8]}
	if f.Src.Six {
		p.Head.Hops = d.head[7]
	}
	p.Seg = api.Seg{Src: f.SrcPort, Dst: f.DstPort, SumAt: 6, Data: 8, Zero: d.segSum(1) == 0}
	if f.Proto == 6 {
		p.Seg = api.Seg{Src: f.SrcPort, Dst: f.DstPort, SumAt: 16, Data: 4 * int(d.seg[12]/16), Flags: d.seg[13]}
	}
	return p
}
