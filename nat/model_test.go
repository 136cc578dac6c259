package nat_test

import (
	"bytes"
	"encoding/hex"
	"math/rand/v2"
	"strings"
	"testing"

	"stanchion/api"
	"stanchion/nat"
	"stanchion/pkt"
)

// draw is a source of numbers that are the same in each run.
func draw(seed uint64) *rand.Rand {
	return rand.New(rand.NewPCG(seed, 17))
}

// text is n bytes that have no short rule and are the same in each run.
func text(n int, seed uint64) []byte {
	b := make([]byte, n)
	r := draw(seed)
	for i := range b {
		b[i] = byte(r.Uint32())
	}
	return b
}

// unhex is the bytes that digits say, between which there may be blanks.
func unhex(digits string) []byte {
	b, err := hex.DecodeString(strings.ReplaceAll(digits, " ", ""))
	if err != nil {
		panic(err)
	}
	return b
}

// four is the address of IPv4 of these bytes, put together by hand.
func four(b ...byte) api.Addr {
	a := api.Addr{}
	copy(a.B[12:], b)
	return a
}

// six is the address of IPv6 of these bytes, put together by hand.
func six(b ...byte) api.Addr {
	a := api.Addr{Six: true}
	copy(a.B[:], b)
	return a
}

// bad is a as one of IPv4 whose byte at, one of the first twelve, is not 0.
func bad(a api.Addr, at int) api.Addr {
	a.Six = false
	a.B[at] |= 1
	return a
}

// Addresses that others tell, two of each kind.
var (
	fourA, fourB = four(192, 168, 0, 1), four(10, 0, 7, 199)
	sixA         = six(unhex("20010db8 00000000 00000000 00000001")...)
	sixB         = six(unhex("fe800000 00000000 0202b3ff fe1e8329")...)
)

// Flows of each kind and each Proto.
var (
	tcp4 = api.Flow{Src: fourA, Dst: fourB, SrcPort: 40000, DstPort: 80, Proto: 6}
	udp4 = api.Flow{Src: fourB, Dst: fourA, SrcPort: 53, DstPort: 4000, Proto: 17}
	tcp6 = api.Flow{Src: sixA, Dst: sixB, SrcPort: 1, DstPort: 65535, Proto: 6}
	udp6 = api.Flow{Src: sixB, Dst: sixA, SrcPort: 65534, DstPort: 258, Proto: 17}
)

func flows() []api.Flow { return []api.Flow{tcp4, udp4, tcp6, udp6} }

// address is a drawn one; one of four is of bytes that are all 0, or all 255.
func address(r *rand.Rand, isSix bool) api.Addr {
	a := api.Addr{Six: isSix}
	all := r.IntN(8)
	for i := range a.B {
		switch {
		case !isSix && i < 12:
		case all < 2:
			a.B[i] = byte(255 * all)
		default:
			a.B[i] = byte(r.Uint32())
		}
	}
	return a
}

// port is a drawn one; one of four is the least or the greatest one.
func port(r *rand.Rand) uint16 {
	switch r.IntN(8) {
	case 0:
		return 1
	case 1:
		return 65535
	}
	return uint16(1 + r.IntN(65535))
}

// drawn is one of flows, with other addresses and ports.
func drawn(r *rand.Rand) api.Flow {
	f := flows()[r.IntN(4)]
	f.Src, f.Dst = address(r, f.Src.Six), address(r, f.Src.Six)
	f.SrcPort, f.DstPort = port(r), port(r)
	return f
}

// dressed is a drawn packet of f, with or without all that may stand in it.
func dressed(r *rand.Rand, f api.Flow) *draft {
	d := plain(f, byte(r.Uint32()), byte(1+r.IntN(255)), text(r.IntN(40), r.Uint64()))
	if f.Proto == 6 && r.IntN(2) == 0 {
		d.words(r, 5+r.IntN(11))
	}
	if !f.Src.Six {
		if r.IntN(2) == 0 {
			d.options(r, 5+r.IntN(11))
		}
		if f.Proto == 17 && r.IntN(4) == 0 {
			d.sumless()
		}
		return d
	}
	if r.IntN(2) == 0 {
		l := []extra{{0, byte(r.IntN(3))}}[:r.IntN(2)]
		for range r.IntN(8) {
			l = append(l, extra{[]byte{43, 60, 44}[r.IntN(3)], byte(r.IntN(3))})
		}
		d.between(r, l...)
	}
	return d
}

// put is a copy of b with x from the place at on.
func put(b []byte, at int, x ...byte) []byte {
	b = bytes.Clone(b)
	copy(b[at:at+len(x)], x)
	return b
}

// put2 is a copy of b with the number n at the place at.
func put2(b []byte, at, n int) []byte {
	return put(b, at, byte(n>>8), byte(n))
}

// number is the number that b has at the place at.
func number(b []byte, at int) int {
	return 256*int(b[at]) + int(b[at+1])
}

// way is one of the two calls: what it is called, which end it is of (0: whence a packet comes, 1: whither it goes), and itself.
type way struct {
	name string
	end  int
	do   func(b []byte, a api.Addr, port uint16) ([]byte, api.Errno)
}

func ways() []way {
	return []way{{"From", 0, nat.From}, {"To", 1, nat.To}}
}

// good says whether a is an address that is good.
func good(a api.Addr) bool {
	return a.Six || bytes.Equal(a.B[:12], make([]byte, 12))
}

// slow is P17.1 in the document's words, of either end.
func slow(b []byte, end int, a api.Addr, port uint16) ([]byte, api.Errno) {
	p, e := pkt.Parse(b)
	if e != api.OK {
		return nil, e
	}
	if !good(a) || a.Six != (b[0]/16 == 6) || port == 0 {
		return nil, api.ErrArg
	}
	f := p.Flow
	if end == 0 {
		f.Src, f.SrcPort = a, port
	} else {
		f.Dst, f.DstPort = a, port
	}
	if a.Six {
		b = put(b, 8, ends(f)...)
	} else {
		b = put(b, 12, ends(f)...)
		b = put2(b, 10, summed(put2(b, 10, 0)[:p.Head.At]))
	}
	b = put2(put2(b, p.Head.At, int(f.SrcPort)), p.Head.At+2, int(f.DstPort))
	at := p.Head.At + 16
	if f.Proto == 17 {
		at = p.Head.At + 6
	}
	if f.Proto == 17 && number(b, at) == 0 {
		return b, api.OK
	}
	n := summed(append(pseudo(f, len(b)-p.Head.At), put2(b, at, 0)[p.Head.At:]...))
	if f.Proto == 17 && n == 0 {
		n = 65535
	}
	return put2(b, at, n), api.OK
}

// want holds what w tells against b and e, and beside an error against nothing.
func (w way) want(t *testing.T, what string, p []byte, a api.Addr, port uint16, b []byte, e api.Errno) {
	t.Helper()
	gotB, gotE := w.do(p, a, port)
	if !bytes.Equal(gotB, b) || gotE != e || e != api.OK && gotB != nil {
		t.Errorf("%s: %s of %d bytes, %.120x, %v, %d is %.120x, %d, not %.120x, %d", what, w.name, len(p), p, a, port, gotB, gotE, b, e)
	}
}

// wantErr holds w's error against e, likewise.
func (w way) wantErr(t *testing.T, what string, p []byte, a api.Addr, port uint16, e api.Errno) {
	t.Helper()
	w.want(t, what, p, a, port, nil, e)
}

// as holds what w tells of p against the document's words, and tells them.
func (w way) as(t *testing.T, what string, p []byte, a api.Addr, port uint16) ([]byte, api.Errno) {
	t.Helper()
	b, e := slow(p, w.end, a, port)
	w.want(t, what, p, a, port, b, e)
	return b, e
}

// moves holds what w tells of d against the draft that goes elsewhere, and against the document's words.
func (w way) moves(t *testing.T, what string, d *draft, a api.Addr, port uint16) []byte {
	t.Helper()
	b := d.moved(w.end, a, port).lay()
	w.want(t, what, d.lay(), a, port, b, api.OK)
	w.as(t, what, d.lay(), a, port)
	return b
}
