package seg

import (
	"stanchion/api"
	"stanchion/inet"
	"stanchion/num"
)

// Where the fields of a head of TCP lie.
const (
	tcpWordsAt = 12 // the higher half
	tcpFlagsAt = 13
	tcpSumAt   = 16
	tcpEnd     = 20 // of a head without options; others are longer
)

const (
	word       = 4 // how many bytes a head's size is counted in
	leastWords = 5
)

// readTCP is the head that data begins with; its ports may be 0.
func readTCP(h api.Head, data []byte) (api.Seg, api.Errno) {
	if len(data) < tcpEnd {
		return api.Seg{}, api.ErrShort
	}
	n := int(data[tcpWordsAt] >> 4)
	if n < leastWords {
		return api.Seg{}, api.ErrForm
	}
	if len(data) < n*word {
		return api.Seg{}, api.ErrShort
	}
	if !good(h, data) {
		return api.Seg{}, api.ErrSum
	}
	return api.Seg{
		Src:   number(data, srcAt),
		Dst:   number(data, dstAt),
		Flags: data[tcpFlagsAt],
		SumAt: tcpSumAt,
		Data:  n * word,
	}, api.OK
}

// writeTCP is a segment without options.
func writeTCP(h api.Head, s api.Seg, data []byte) []byte {
	first := num.Bytes(ports(s), make([]byte, tcpWordsAt-dstAt-numSize), []byte{leastWords << 4, s.Flags, 0, 0})
	last := num.Bytes(make([]byte, tcpEnd-tcpSumAt-numSize), data)
	sum := inet.Sum(Pseudo(h, tcpEnd+len(data)), first, last)
	return num.Bytes(num.Put(first, uint64(sum), numSize), last)
}
