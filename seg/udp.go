package seg

import (
	"stanchion/api"
	"stanchion/inet"
	"stanchion/num"
)

// Where the fields of a head of UDP lie.
const (
	udpSizeAt = 4 // of the head and all behind it
	udpSumAt  = 6
	udpEnd    = 8
)

// noSum stands where a segment has no sum; a sum that is this is told as turned, which sums up alike.
const (
	noSum  = 0
	turned = 0xffff
)

// readUDP is the head that data begins with; its ports may be 0.
func readUDP(h api.Head, data []byte) (api.Seg, api.Errno) {
	if e := whole(data); e != api.OK {
		return api.Seg{}, e
	}
	zero := number(data, udpSumAt) == noSum
	if zero && h.Six {
		return api.Seg{}, api.ErrForm
	}
	if !zero && !good(h, data) {
		return api.Seg{}, api.ErrSum
	}
	return api.Seg{
		Src:   number(data, srcAt),
		Dst:   number(data, dstAt),
		SumAt: udpSumAt,
		Zero:  zero,
		Data:  udpEnd,
	}, api.OK
}

// whole holds data against the size that its head says it has.
func whole(data []byte) api.Errno {
	if len(data) < udpEnd {
		return api.ErrShort
	}
	size := int(number(data, udpSizeAt))
	switch {
	case size < udpEnd:
		return api.ErrForm
	case size > len(data):
		return api.ErrShort
	case size < len(data):
		return api.ErrLong
	}
	return api.OK
}

// writeUDP is a segment, without a sum only where Read takes it so.
func writeUDP(h api.Head, s api.Seg, data []byte) []byte {
	size := udpEnd + len(data)
	first := num.Put(ports(s), uint64(size), numSize)
	sum := uint16(noSum)
	if !s.Zero || h.Six {
		sum = inet.Sum(Pseudo(h, size), first, data)
		if sum == noSum {
			sum = turned
		}
	}
	return num.Bytes(num.Put(first, uint64(sum), numSize), data)
}
