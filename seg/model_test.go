package seg_test

import (
	"bytes"
	"encoding/hex"
	"math/rand/v2"
	"strings"
	"testing"

	"stanchion/api"
	"stanchion/seg"
)

// draw is a source of numbers that are the same in each run.
func draw(seed uint64) *rand.Rand {
	return rand.New(rand.NewPCG(seed, 15))
}

// text is n bytes that have no short rule and are the same in each run.
func text(n int, seed uint64) []byte {
	b := make([]byte, n)
	r := draw(seed)
	for i := range b {
		b[i] = byte(r.Uint32())
	}
	return b
}

// unhex is the bytes that digits say, between which there may be blanks.
func unhex(digits string) []byte {
	b, err := hex.DecodeString(strings.ReplaceAll(digits, " ", ""))
	if err != nil {
		panic(err)
	}
	return b
}

// four is the address of IPv4 of these bytes, put together by hand.
func four(b ...byte) api.Addr {
	a := api.Addr{}
	copy(a.B[12:], b)
	return a
}

// six is the address of IPv6 of these bytes, put together by hand.
func six(b ...byte) api.Addr {
	a := api.Addr{Six: true}
	copy(a.B[:], b)
	return a
}

// ends6 is the address of IPv6 whose last byte is n, the others 0.
func ends6(n byte) api.Addr {
	return api.Addr{Six: true, B: [16]byte{15: n}}
}

// Addresses that others tell, two of each kind.
var (
	fourA, fourB = four(192, 168, 0, 1), four(10, 0, 7, 199)
	sixA         = six(unhex("20010db8 00000000 00000000 00000001")...)
	sixB         = six(unhex("fe800000 00000000 0202b3ff fe1e8329")...)
)

// The heads of packets that carry segments: of each kind and each Proto.
var (
	tcp4 = api.Head{Proto: 6, At: 20, Src: fourA, Dst: fourB, Hops: 64}
	udp4 = api.Head{Proto: 17, At: 24, Src: fourB, Dst: fourA, Hops: 1}
	tcp6 = api.Head{Six: true, Proto: 6, At: 40, Src: sixA, Dst: sixB, Hops: 255}
	udp6 = api.Head{Six: true, Proto: 17, At: 64, Src: sixB, Dst: sixA, Hops: 7}
)

func tcps() []api.Head  { return []api.Head{tcp4, tcp6} }
func udps() []api.Head  { return []api.Head{udp4, udp6} }
func heads() []api.Head { return append(tcps(), udps()...) }

// drawn is one of heads, with other addresses.
func drawn(r *rand.Rand) api.Head {
	h := heads()[r.IntN(4)]
	for i := range 16 {
		if h.Six || i >= 12 {
			h.Src.B[i], h.Dst.B[i] = byte(r.Uint32()), byte(r.Uint32())
		}
	}
	return h
}

// put is a copy of b with x from the place at on.
func put(b []byte, at int, x ...byte) []byte {
	b = bytes.Clone(b)
	copy(b[at:at+len(x)], x)
	return b
}

// put2 is a copy of b with the number n at the place at.
func put2(b []byte, at, n int) []byte {
	return put(b, at, byte(n>>8), byte(n))
}

// number is the number that b has at the place at.
func number(b []byte, at int) int {
	return 256*int(b[at]) + int(b[at+1])
}

// ends is the bytes of h's addresses: four each, or sixteen.
func ends(h api.Head) []byte {
	var b []byte
	for _, a := range []api.Addr{h.Src, h.Dst} {
		if a.Six {
			b = append(b, a.B[:]...)
		} else {
			b = append(b, a.B[12:]...)
		}
	}
	return b
}

// slowPseudo is P15.1 in the document's words.
func slowPseudo(h api.Head, size int) []byte {
	if h.Six {
		return append(ends(h), byte(size>>24), byte(size>>16), byte(size>>8), byte(size), 0, 0, 0, h.Proto)
	}
	return append(ends(h), 0, h.Proto, byte(size>>8), byte(size))
}

// rest is what 65535 leaves of all numbers of two bytes of b, but 65535, not 0, of all but bytes 0.
func rest(b []byte) int {
	n := 0
	for i, x := range b {
		if i%2 == 0 {
			n += 256 * int(x)
		} else {
			n += int(x)
		}
	}
	if n == 0 {
		return 0
	}
	return (n-1)%65535 + 1
}

// sum is the sum of data and what it is summed with, as it stands there.
func sum(h api.Head, data []byte) int {
	return 65535 - rest(append(slowPseudo(h, len(data)), data...))
}

// sumAt is where the sum lies.
func sumAt(h api.Head) int {
	if h.Proto == 6 {
		return 16
	}
	return 6
}

// summed is a copy of data with its sum.
func summed(h api.Head, data []byte) []byte {
	data = put2(data, sumAt(h), 0)
	n := sum(h, data)
	if n == 0 && h.Proto == 17 {
		n = 65535
	}
	return put2(data, sumAt(h), n)
}

// segment is a sound segment of so many bytes, of TCP with a head of n times 4 of them; what else may be is drawn.
func segment(r *rand.Rand, h api.Head, n, size int) []byte {
	b := text(size, r.Uint64())
	b[1] |= 1
	b[2] |= 1
	if h.Proto == 6 {
		b[12] = byte(n)<<4 | b[12]&0xf
	} else {
		b = put2(b, 4, size)
	}
	return summed(h, b)
}

// slowRead is P15.2 in the document's words.
func slowRead(h api.Head, data []byte) (api.Seg, api.Errno) {
	none := api.Seg{}
	var s api.Seg
	switch h.Proto {
	case 6:
		if len(data) < 20 {
			return none, api.ErrShort
		}
		n := int(data[12] / 16)
		if n < 5 {
			return none, api.ErrForm
		}
		if len(data) < 4*n {
			return none, api.ErrShort
		}
		if sum(h, data) != 0 {
			return none, api.ErrSum
		}
		s.Flags, s.SumAt, s.Data = data[13], 16, 4*n
	case 17:
		if len(data) < 8 {
			return none, api.ErrShort
		}
		n := number(data, 4)
		if n < 8 {
			return none, api.ErrForm
		}
		if n > len(data) {
			return none, api.ErrShort
		}
		if n < len(data) {
			return none, api.ErrLong
		}
		s.SumAt, s.Data, s.Zero = 6, 8, data[6] == 0 && data[7] == 0
		if s.Zero && h.Six {
			return none, api.ErrForm
		}
		if !s.Zero && sum(h, data) != 0 {
			return none, api.ErrSum
		}
	default:
		return none, api.ErrNone
	}
	s.Src, s.Dst = uint16(number(data, 0)), uint16(number(data, 2))
	if s.Src == 0 || s.Dst == 0 {
		return none, api.ErrForm
	}
	return s, api.OK
}

// slowWrite is P15.3 in the document's words.
func slowWrite(h api.Head, s api.Seg, data []byte) ([]byte, api.Errno) {
	if h.Proto != 6 && h.Proto != 17 {
		return nil, api.ErrNone
	}
	if s.Src == 0 || s.Dst == 0 {
		return nil, api.ErrArg
	}
	for _, a := range []api.Addr{h.Src, h.Dst} {
		if a.Six != h.Six || !a.Six && [12]byte(a.B[:12]) != [12]byte{} {
			return nil, api.ErrArg
		}
	}
	if len(data) > 1900 {
		return nil, api.ErrLong
	}
	if h.Proto == 6 {
		b := append(make([]byte, 20), data...)
		b[12], b[13] = 0x50, s.Flags
		return summed(h, put2(put2(b, 0, int(s.Src)), 2, int(s.Dst))), api.OK
	}
	b := append(make([]byte, 8), data...)
	b = put2(put2(put2(b, 0, int(s.Src)), 2, int(s.Dst)), 4, len(b))
	if s.Zero && !h.Six {
		return b, api.OK
	}
	return summed(h, b), api.OK
}

// wantRead holds Read against want, and what it tells beside an error against the zero seg.
func wantRead(t *testing.T, what string, h api.Head, data []byte, want api.Seg, wantE api.Errno) {
	t.Helper()
	if s, e := seg.Read(h, data); s != want || e != wantE {
		t.Errorf("%s: Read with %v of %d bytes, %.64x, is %v, %d, not %v, %d", what, h, len(data), data, s, e, want, wantE)
	}
}

// wantErr holds Read's error against want, likewise.
func wantErr(t *testing.T, what string, h api.Head, data []byte, want api.Errno) {
	t.Helper()
	wantRead(t, what, h, data, api.Seg{}, want)
}

// asRead holds Read against the document's words, and tells them.
func asRead(t *testing.T, what string, h api.Head, data []byte) (api.Seg, api.Errno) {
	t.Helper()
	s, e := slowRead(h, data)
	wantRead(t, what, h, data, s, e)
	return s, e
}

// wantWrite holds Write against want.
func wantWrite(t *testing.T, what string, h api.Head, s api.Seg, data, want []byte, wantE api.Errno) {
	t.Helper()
	if b, e := seg.Write(h, s, data); !bytes.Equal(b, want) || e != wantE || e != api.OK && b != nil {
		t.Errorf("%s: Write with %v of %v and %d bytes is %.64x, %d, not %.64x, %d", what, h, s, len(data), b, e, want, wantE)
	}
}

// asWrite holds Write against the document's words, and tells them.
func asWrite(t *testing.T, what string, h api.Head, s api.Seg, data []byte) ([]byte, api.Errno) {
	t.Helper()
	b, e := slowWrite(h, s, data)
	wantWrite(t, what, h, s, data, b, e)
	return b, e
}
