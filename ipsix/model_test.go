package ipsix_test

import (
	"bytes"
	"encoding/hex"
	"math/rand/v2"
	"testing"

	"stanchion/api"
	"stanchion/ipsix"
)

// draw is a source of numbers that are the same in each run.
func draw(seed uint64) *rand.Rand {
	return rand.New(rand.NewPCG(seed, 14))
}

// text is n bytes that have no short rule and are the same in each run.
func text(n int, seed uint64) []byte {
	b := make([]byte, n)
	r := draw(seed)
	for i := range b {
		b[i] = byte(r.Uint32())
	}
	return b
}

// unhex is the bytes that digits say, between which there may be blanks.
func unhex(digits string) []byte {
	b, err := hex.DecodeString(string(bytes.ReplaceAll([]byte(digits), []byte(" "), nil)))
	if err != nil {
		panic(err)
	}
	return b
}

// six is the address of IPv6 of these bytes, put together by hand.
func six(b []byte) api.Addr {
	a := api.Addr{Six: true}
	copy(a.B[:], b)
	return a
}

// put is a copy of b with x at the place at.
func put(b []byte, at int, x byte) []byte {
	b = bytes.Clone(b)
	b[at] = x
	return b
}

// sized is a copy of b that says how many bytes it has behind its first 40.
func sized(b []byte) []byte {
	b = bytes.Clone(b)
	b[4], b[5] = byte((len(b)-40)>>8), byte(len(b)-40)
	return b
}

// extra is a head between: its kind, and its byte 1.
type extra struct{ kind, more byte }

// size is how many bytes it has.
func (x extra) size() int {
	if x.kind == 44 {
		return 8
	}
	return 8 + 8*int(x.more)
}

// end is where the heads l end, which are all there.
func end(l []extra) int {
	at := 40
	for _, x := range l {
		at += x.size()
	}
	return at
}

// packet is a packet with these heads between, the last of which tells that of kind last so many bytes are behind; what else may be is drawn.
func packet(r *rand.Rand, l []extra, last byte, data int) []byte {
	b := text(end(l)+data, r.Uint64())
	b[0] = 0x60 | b[0]&0xf
	b[7] = byte(1 + r.IntN(255))
	tells, at := 6, 40
	for _, x := range l {
		b[tells], b[at+1] = x.kind, x.more
		tells, at = at, at+x.size()
	}
	b[tells] = last
	return sized(b)
}

// kinds are those of heads between.
func kinds() []byte {
	return []byte{0, 43, 44, 60}
}

// stands says whether heads of that kind stand between.
func stands(kind byte) bool {
	return bytes.IndexByte(kinds(), kind) >= 0
}

// slowRead is P14.1 in the document's words.
func slowRead(b []byte) (api.Head, api.Errno) {
	none := api.Head{}
	if len(b) > 2048 {
		return none, api.ErrLong
	}
	if len(b) < 40 {
		return none, api.ErrShort
	}
	if b[0]/16 != 6 {
		return none, api.ErrVersion
	}
	n := 256*int(b[4]) + int(b[5])
	if 40+n > len(b) {
		return none, api.ErrShort
	}
	if 40+n < len(b) {
		return none, api.ErrLong
	}
	if b[7] == 0 {
		return none, api.ErrForm
	}
	proto, at, part, e := slowBetween(b)
	if e != api.OK {
		return none, e
	}
	return api.Head{Six: true, Proto: proto, At: at, Src: six(b[8:24]), Dst: six(b[24:40]), Part: part, Hops: b[7]}, api.OK
}

// slowBetween is P14.2 in the document's words: what is carried, from where on, and whether it is a part.
func slowBetween(b []byte) (kind byte, at int, part bool, e api.Errno) {
	tells, at := 6, 40
	for passed := 0; b[tells] == 0 || b[tells] == 43 || b[tells] == 60 || b[tells] == 44; passed++ {
		if passed >= 8 {
			return 0, 0, false, api.ErrLong
		}
		if b[tells] == 0 && tells != 6 {
			return 0, 0, false, api.ErrForm
		}
		if at+8 > len(b) {
			return 0, 0, false, api.ErrShort
		}
		has := 8
		if b[tells] == 44 {
			for bit := range 16 {
				if bit != 1 && bit != 2 && b[at+3-bit/8]>>(bit%8)%2 == 1 {
					part = true
				}
			}
		} else {
			has += 8 * int(b[at+1])
			if at+has > len(b) {
				return 0, 0, false, api.ErrShort
			}
		}
		tells, at = at, at+has
	}
	return b[tells], at, part, api.OK
}

// slowWrite is P14.3 in the document's words.
func slowWrite(h api.Head, data []byte) ([]byte, api.Errno) {
	if !h.Six || !h.Src.Six || !h.Dst.Six || h.Hops == 0 || h.Part || h.Proto == 0 || h.Proto == 43 || h.Proto == 44 || h.Proto == 60 {
		return nil, api.ErrArg
	}
	if len(data) > 2008 {
		return nil, api.ErrLong
	}
	b := make([]byte, 40, 40+len(data))
	b[0], b[6], b[7] = 0x60, h.Proto, h.Hops
	copy(b[8:24], h.Src.B[:])
	copy(b[24:40], h.Dst.B[:])
	return sized(append(b, data...)), api.OK
}

// wantRead holds Read against want, and what it tells beside an error against the zero head.
func wantRead(t *testing.T, what string, b []byte, want api.Head, wantE api.Errno) {
	t.Helper()
	if h, e := ipsix.Read(b); h != want || e != wantE {
		t.Errorf("%s: Read of %d bytes, %.100x, is %v, %d, not %v, %d", what, len(b), b, h, e, want, wantE)
	}
}

// wantErr holds Read's error against want, likewise.
func wantErr(t *testing.T, what string, b []byte, want api.Errno) {
	t.Helper()
	wantRead(t, what, b, api.Head{}, want)
}

// asRead holds Read against the document's words, and tells them.
func asRead(t *testing.T, what string, b []byte) (api.Head, api.Errno) {
	t.Helper()
	h, e := slowRead(b)
	wantRead(t, what, b, h, e)
	return h, e
}

// asWrite holds Write against the document's words, and tells them.
func asWrite(t *testing.T, h api.Head, data []byte) ([]byte, api.Errno) {
	t.Helper()
	want, wantE := slowWrite(h, data)
	if b, e := ipsix.Write(h, data); !bytes.Equal(b, want) || e != wantE {
		t.Errorf("Write of %v and %d bytes is %.100x, %d, not %.100x, %d", h, len(data), b, e, want, wantE)
	}
	return want, wantE
}
