package nat

import (
	"stanchion/addr"
	"stanchion/api"
	"stanchion/inet"
	"stanchion/num"
	"stanchion/seg"
)

// Where a head has the address of its first end; that of the other end lies behind it.
const (
	fourAt = 12
	sixAt  = 8
)

const (
	headSumAt = 10 // of IPv4
	numSize   = 2  // bytes of a number
)

// noSum says of UDP that there is no sum; a sum that is this is told as turned, which sums up alike.
const (
	noSum  = 0
	turned = 0xffff
)

// parcel is a packet that is on its way elsewhere: what was read, its head with the addresses that it has now, and bytes of its own.
type parcel struct {
	api.Packet
	bytes []byte
}

// readdress gives one end an address of the packet's kind.
func (p *parcel) readdress(end int, a api.Addr) {
	switch end {
	case source:
		p.Head.Src = a
	case destination:
		p.Head.Dst = a
	}
	at := fourAt
	if p.Head.Six {
		at = sixAt
	}
	x := addr.Bytes(a)
	copy(p.bytes[at+end*len(x):], x)
}

// sumHead tells the head's sum anew; heads of IPv6 have none.
func (p *parcel) sumHead() {
	if p.Head.Six {
		return
	}
	p.put(headSumAt, 0)
	p.put(headSumAt, inet.Sum(p.bytes[:p.Head.At]))
}

// sumSegment tells the segment's sum anew, with the addresses that the head has now; if it had none, it has none.
func (p *parcel) sumSegment() {
	if p.Seg.Zero {
		return
	}
	at, data := p.Head.At+p.Seg.SumAt, p.bytes[p.Head.At:]
	p.put(at, 0)
	sum := inet.Sum(seg.Pseudo(p.Head, len(data)), data)
	if sum == noSum && p.Head.Proto == api.ProtoUDP {
		sum = turned
	}
	p.put(at, sum)
}

// put writes the number n over the bytes from at on.
func (p *parcel) put(at int, n uint16) {
	copy(p.bytes[at:], num.Put(nil, uint64(n), numSize))
}
