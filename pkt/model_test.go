package pkt_test

import (
	"bytes"
	"encoding/hex"
	"math/rand/v2"
	"strings"
	"testing"

	"stanchion/api"
	"stanchion/ipfour"
	"stanchion/ipsix"
	"stanchion/pkt"
	"stanchion/seg"
)

// draw is a source of numbers that are the same in each run.
func draw(seed uint64) *rand.Rand {
	return rand.New(rand.NewPCG(seed, 16))
}

// text is n bytes that have no short rule and are the same in each run.
func text(n int, seed uint64) []byte {
	b := make([]byte, n)
	r := draw(seed)
	for i := range b {
		b[i] = byte(r.Uint32())
	}
	return b
}

// unhex is the bytes that digits say, between which there may be blanks.
func unhex(digits string) []byte {
	b, err := hex.DecodeString(strings.ReplaceAll(digits, " ", ""))
	if err != nil {
		panic(err)
	}
	return b
}

// four is the address of IPv4 of these bytes, put together by hand.
func four(b ...byte) api.Addr {
	a := api.Addr{}
	copy(a.B[12:], b)
	return a
}

// six is the address of IPv6 of these bytes, put together by hand.
func six(b ...byte) api.Addr {
	a := api.Addr{Six: true}
	copy(a.B[:], b)
	return a
}

// bad is a as one of IPv4 whose byte at, one of the first twelve, is not 0.
func bad(a api.Addr, at int) api.Addr {
	a.Six = false
	a.B[at] |= 1
	return a
}

// Addresses that others tell, two of each kind.
var (
	fourA, fourB = four(192, 168, 0, 1), four(10, 0, 7, 199)
	sixA         = six(unhex("20010db8 00000000 00000000 00000001")...)
	sixB         = six(unhex("fe800000 00000000 0202b3ff fe1e8329")...)
)

// Flows of each kind and each Proto.
var (
	tcp4 = api.Flow{Src: fourA, Dst: fourB, SrcPort: 40000, DstPort: 80, Proto: 6}
	udp4 = api.Flow{Src: fourB, Dst: fourA, SrcPort: 53, DstPort: 4000, Proto: 17}
	tcp6 = api.Flow{Src: sixA, Dst: sixB, SrcPort: 1, DstPort: 65535, Proto: 6}
	udp6 = api.Flow{Src: sixB, Dst: sixA, SrcPort: 65534, DstPort: 258, Proto: 17}
)

func flows() []api.Flow { return []api.Flow{tcp4, udp4, tcp6, udp6} }

// drawn is one of flows, with other addresses and ports.
func drawn(r *rand.Rand) api.Flow {
	f := flows()[r.IntN(4)]
	for i := range 16 {
		if f.Src.Six || i >= 12 {
			f.Src.B[i], f.Dst.B[i] = byte(r.Uint32()), byte(r.Uint32())
		}
	}
	f.SrcPort, f.DstPort = uint16(1+r.IntN(65535)), uint16(1+r.IntN(65535))
	return f
}

// put is a copy of b with x from the place at on.
func put(b []byte, at int, x ...byte) []byte {
	b = bytes.Clone(b)
	copy(b[at:at+len(x)], x)
	return b
}

// put2 is a copy of b with the number n at the place at.
func put2(b []byte, at, n int) []byte {
	return put(b, at, byte(n>>8), byte(n))
}

// number is the number that b has at the place at.
func number(b []byte, at int) int {
	return 256*int(b[at]) + int(b[at+1])
}

// slowParse is P16.1 in the document's words.
func slowParse(b []byte) (api.Packet, api.Errno) {
	none := api.Packet{}
	if len(b) == 0 {
		return none, api.ErrShort
	}
	kind := b[0] / 16
	if kind != 4 && kind != 6 {
		return none, api.ErrVersion
	}
	h, e := ipfour.Read(b)
	if kind == 6 {
		h, e = ipsix.Read(b)
	}
	if e != api.OK {
		return none, e
	}
	if h.Part {
		return none, api.ErrState
	}
	s, e := seg.Read(h, b[h.At:])
	if e != api.OK {
		return none, e
	}
	f := api.Flow{}
	f.Src, f.Dst = h.Src, h.Dst
	f.SrcPort, f.DstPort = s.Src, s.Dst
	f.Proto = h.Proto
	return api.Packet{Head: h, Seg: s, Flow: f}, api.OK
}

// good says whether a is an address that is good.
func good(a api.Addr) bool {
	return a.Six || bytes.Equal(a.B[:12], make([]byte, 12))
}

// slowBuild is P16.2 in the words of the document and of the chapters below, all bytes laid by hand.
func slowBuild(f api.Flow, flags, hops byte, data []byte) ([]byte, api.Errno) {
	if f.Proto != 6 && f.Proto != 17 {
		return nil, api.ErrNone
	}
	if f.SrcPort == 0 || f.DstPort == 0 || f.Src.Six != f.Dst.Six || !good(f.Src) || !good(f.Dst) {
		return nil, api.ErrArg
	}
	if len(data) > 1900 {
		return nil, api.ErrLong
	}
	if hops == 0 {
		return nil, api.ErrArg
	}
	d := plain(f, flags, hops, data)
	return d.lay(), api.OK
}

// wantParse holds Parse against want, and what it tells beside an error against the zero packet.
func wantParse(t *testing.T, what string, b []byte, want api.Packet, wantE api.Errno) {
	t.Helper()
	if p, e := pkt.Parse(b); p != want || e != wantE {
		t.Errorf("%s: Parse of %d bytes, %.120x, is %v, %d, not %v, %d", what, len(b), b, p, e, want, wantE)
	}
}

// wantErr holds Parse's error against want, likewise.
func wantErr(t *testing.T, what string, b []byte, want api.Errno) {
	t.Helper()
	wantParse(t, what, b, api.Packet{}, want)
}

// asParse holds Parse against the document's words, and tells them.
func asParse(t *testing.T, what string, b []byte) (api.Packet, api.Errno) {
	t.Helper()
	p, e := slowParse(b)
	wantParse(t, what, b, p, e)
	return p, e
}

// wantBuild holds Build against want.
func wantBuild(t *testing.T, what string, f api.Flow, flags, hops byte, data, want []byte, wantE api.Errno) {
	t.Helper()
	if b, e := pkt.Build(f, flags, hops, data); !bytes.Equal(b, want) || e != wantE || e != api.OK && b != nil {
		t.Errorf("%s: Build of %v, %d, %d and %d bytes is %.120x, %d, not %.120x, %d", what, f, flags, hops, len(data), b, e, want, wantE)
	}
}

// asBuild holds Build against the document's words, and tells them.
func asBuild(t *testing.T, what string, f api.Flow, flags, hops byte, data []byte) ([]byte, api.Errno) {
	t.Helper()
	b, e := slowBuild(f, flags, hops, data)
	wantBuild(t, what, f, flags, hops, data, b, e)
	return b, e
}
