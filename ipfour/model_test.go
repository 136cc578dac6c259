package ipfour_test

import (
	"bytes"
	"encoding/hex"
	"math/rand/v2"
	"testing"

	"stanchion/api"
	"stanchion/ipfour"
)

// draw is a source of numbers that are the same in each run.
func draw(seed uint64) *rand.Rand {
	return rand.New(rand.NewPCG(seed, 13))
}

// text is n bytes that have no short rule and are the same in each run.
func text(n int, seed uint64) []byte {
	b := make([]byte, n)
	r := draw(seed)
	for i := range b {
		b[i] = byte(r.Uint32())
	}
	return b
}

// unhex is the bytes that digits say.
func unhex(digits string) []byte {
	b, err := hex.DecodeString(digits)
	if err != nil {
		panic(err)
	}
	return b
}

// four is the address of IPv4 of these bytes, put together by hand.
func four(b ...byte) api.Addr {
	a := api.Addr{}
	copy(a.B[12:], b)
	return a
}

// rest is what 65535 leaves of all numbers of two bytes of b, but 65535, not 0, of all but bytes 0.
func rest(b []byte) int {
	n := 0
	for i, x := range b {
		if i%2 == 0 {
			n += 256 * int(x)
		} else {
			n += int(x)
		}
	}
	if n == 0 {
		return 0
	}
	return (n-1)%65535 + 1
}

// summed is a copy of b whose first at bytes have their sum in bytes 10 and 11.
func summed(b []byte, at int) []byte {
	b = bytes.Clone(b)
	b[10], b[11] = 0, 0
	sum := 65535 - rest(b[:at])
	b[10], b[11] = byte(sum>>8), byte(sum)
	return b
}

// sized is a copy of b that says how many bytes it has.
func sized(b []byte) []byte {
	b = bytes.Clone(b)
	b[2], b[3] = byte(len(b)>>8), byte(len(b))
	return b
}

// packet is a sound packet, of which the head has n times 4 bytes and what else may be is drawn, and size bytes in all.
func packet(r *rand.Rand, n, size int) []byte {
	b := make([]byte, size)
	for i := range b {
		b[i] = byte(r.Uint32())
	}
	b[0] = 0x40 + byte(n)
	b[6] &= 0x7f
	b[8] = byte(1 + r.IntN(255))
	return summed(sized(b), 4*n)
}

// slowRead is P13.1 in the document's words.
func slowRead(b []byte) (api.Head, api.Errno) {
	none := api.Head{}
	if len(b) > 2048 {
		return none, api.ErrLong
	}
	if len(b) < 20 {
		return none, api.ErrShort
	}
	if b[0]/16 != 4 {
		return none, api.ErrVersion
	}
	n := int(b[0] % 16)
	if n < 5 {
		return none, api.ErrForm
	}
	if len(b) < 4*n {
		return none, api.ErrShort
	}
	all := 256*int(b[2]) + int(b[3])
	if all < 4*n {
		return none, api.ErrForm
	}
	if all > len(b) {
		return none, api.ErrShort
	}
	if all < len(b) {
		return none, api.ErrLong
	}
	if rest(b[:4*n]) != 65535 {
		return none, api.ErrSum
	}
	if b[8] == 0 || b[6] >= 128 {
		return none, api.ErrForm
	}
	part := b[7] != 0
	for bit := range 6 {
		part = part || b[6]>>bit%2 == 1
	}
	return api.Head{Proto: b[9], At: 4 * n, Src: four(b[12:16]...), Dst: four(b[16:20]...), Hops: b[8], Part: part}, api.OK
}

// good says whether a is an address of IPv4 that is good.
func good(a api.Addr) bool {
	return !a.Six && bytes.Equal(a.B[:12], make([]byte, 12))
}

// slowWrite is P13.2 in the document's words.
func slowWrite(h api.Head, data []byte) ([]byte, api.Errno) {
	if h.Six || !good(h.Src) || !good(h.Dst) || h.Hops == 0 || h.Part {
		return nil, api.ErrArg
	}
	if len(data) > 2028 {
		return nil, api.ErrLong
	}
	b := make([]byte, 20, 20+len(data))
	b[0], b[8], b[9] = 0x45, h.Hops, h.Proto
	copy(b[12:16], h.Src.B[12:])
	copy(b[16:20], h.Dst.B[12:])
	return summed(sized(append(b, data...)), 20), api.OK
}

// wantRead holds Read against want, and what it tells beside an error against the zero head.
func wantRead(t *testing.T, what string, b []byte, want api.Head, wantE api.Errno) {
	t.Helper()
	if h, e := ipfour.Read(b); h != want || e != wantE {
		t.Errorf("%s: Read of %d bytes, %.64x, is %v, %d, not %v, %d", what, len(b), b, h, e, want, wantE)
	}
}

// wantErr holds Read's error against want, likewise.
func wantErr(t *testing.T, what string, b []byte, want api.Errno) {
	t.Helper()
	wantRead(t, what, b, api.Head{}, want)
}

// asRead holds Read against the document's words, and tells them.
func asRead(t *testing.T, what string, b []byte) (api.Head, api.Errno) {
	t.Helper()
	h, e := slowRead(b)
	wantRead(t, what, b, h, e)
	return h, e
}

// asWrite holds Write against the document's words, and tells them.
func asWrite(t *testing.T, h api.Head, data []byte) ([]byte, api.Errno) {
	t.Helper()
	want, wantE := slowWrite(h, data)
	if b, e := ipfour.Write(h, data); !bytes.Equal(b, want) || e != wantE {
		t.Errorf("Write of %v and %d bytes is %.64x, %d, not %.64x, %d", h, len(data), b, e, want, wantE)
	}
	return want, wantE
}
