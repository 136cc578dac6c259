package hash_test

import (
	"math/big"
	"math/rand/v2"
	"slices"
	"testing"

	"stanchion/api"
	"stanchion/hash"
)

// draw is a source of numbers that are the same in each run.
func draw(seed uint64) *rand.Rand {
	return rand.New(rand.NewPCG(seed, 18))
}

// text is n bytes that have no short rule and are the same in each run.
func text(n int, seed uint64) []byte {
	b := make([]byte, n)
	r := draw(seed)
	for i := range b {
		b[i] = byte(r.Uint32())
	}
	return b
}

// seeds are the edges, and one of each kind of bits between.
func seeds() []uint64 {
	return []uint64{0, 1, 1 << 63, 1<<64 - 1, 255, 1 << 32, 1<<33 - 1, 0x0123456789abcdef}
}

// digits is the number that decimal digits say.
func digits(s string) *big.Int {
	n, ok := new(big.Int).SetString(s, 10)
	if !ok {
		panic(s)
	}
	return n
}

// The numbers of P18.1, in decimal digits.
var (
	first     = digits("14695981039346656037")
	perByte   = digits("1099511628211")
	atLast    = digits("18397679294719823053")
	two64     = new(big.Int).Exp(big.NewInt(2), big.NewInt(64), nil)
	two33     = new(big.Int).Exp(big.NewInt(2), big.NewInt(33), nil)
	slowStart = first.Uint64()
)

// times is a times b, modulo 2^64.
func times(a, b *big.Int) *big.Int {
	n := new(big.Int).Mul(a, b)
	return n.Mod(n, two64)
}

// together is a and b put together.
func together(a, b *big.Int) *big.Int {
	return new(big.Int).Xor(a, b)
}

// slowSum is P18.1's number of seed and b in the document's words, reckoned with numbers of any size.
func slowSum(seed uint64, b ...byte) uint64 {
	n := together(first, new(big.Int).SetUint64(seed))
	for _, x := range b {
		n = times(together(n, big.NewInt(int64(x))), perByte)
	}
	n = together(n, new(big.Int).Quo(n, two33))
	n = times(n, atLast)
	n = together(n, new(big.Int).Quo(n, two33))
	return n.Uint64()
}

// slowBytes is a's bytes, told by hand.
func slowBytes(a api.Addr) []byte {
	if a.Six {
		return a.B[0:16]
	}
	return a.B[12:16]
}

// slowFlow is P18.2's number of f.
func slowFlow(seed uint64, f api.Flow) uint64 {
	ports := []byte{byte(f.SrcPort / 256), byte(f.SrcPort % 256), byte(f.DstPort / 256), byte(f.DstPort % 256)}
	return slowSum(seed, slices.Concat(slowBytes(f.Src), slowBytes(f.Dst), ports, []byte{f.Proto})...)
}

// slowClient is P18.2's number of p: of its bits one byte, what they leave of 256.
func slowClient(seed uint64, p api.Prefix) uint64 {
	bits := p.Bits % 256
	if bits < 0 {
		bits += 256
	}
	return slowSum(seed, slices.Concat(slowBytes(p.Addr), []byte{byte(bits)})...)
}

// wantSum holds Sum against want.
func wantSum(t *testing.T, what string, want, seed uint64, parts ...[]byte) {
	t.Helper()
	if got := hash.Sum(seed, parts...); got != want {
		t.Errorf("%s, seed %#x: Sum is %#x, not %#x", what, seed, got, want)
	}
}

// wantFlow holds Flow against the document's words.
func wantFlow(t *testing.T, seed uint64, f api.Flow) {
	t.Helper()
	if got, want := hash.Flow(seed, f), slowFlow(seed, f); got != want {
		t.Errorf("Flow(%#x, %v) is %#x, not %#x", seed, f, got, want)
	}
}

// wantClient holds Client against the document's words.
func wantClient(t *testing.T, seed uint64, p api.Prefix) {
	t.Helper()
	if got, want := hash.Client(seed, p), slowClient(seed, p); got != want {
		t.Errorf("Client(%#x, %v) is %#x, not %#x", seed, p, got, want)
	}
}

// four is the address of IPv4 of these bytes, put together by hand.
func four(b ...byte) api.Addr {
	a := api.Addr{}
	copy(a.B[12:], b)
	return a
}

// six is the address of IPv6 of these bytes, put together by hand.
func six(b ...byte) api.Addr {
	a := api.Addr{Six: true}
	copy(a.B[:], b)
	return a
}

// Addresses of each kind: two that are used, and the least and the greatest one.
var (
	fourA, fourB       = four(192, 168, 0, 1), four(10, 0, 7, 199)
	sixA               = six(0x20, 1, 0x0d, 0xb8, 0, 0, 0, 0, 0, 0, 0, 0, 0, 0, 0, 1)
	sixB               = six(0xfe, 0x80, 0, 0, 0, 0, 0, 0, 2, 2, 0xb3, 0xff, 0xfe, 0x1e, 0x83, 0x29)
	fourZero, fourFull = four(0, 0, 0, 0), four(255, 255, 255, 255)
	sixZero            = six()
	sixFull            = six(slices.Repeat([]byte{255}, 16)...)
)

func addresses() []api.Addr {
	return []api.Addr{fourA, fourB, fourZero, fourFull, sixA, sixB, sixZero, sixFull}
}

// bads are addresses of IPv4 that are not good: a byte of the first twelve, or all of them, are not 0.
func bads(a api.Addr) []api.Addr {
	a.Six = false
	all := a
	for i := range 12 {
		all.B[i] = byte(200 + i)
	}
	l := []api.Addr{all}
	for i := range 12 {
		one := a
		one.B[i] = byte(1 + 23*i)
		l = append(l, one)
	}
	return l
}

// address is a drawn one of either kind, good or not.
func address(r *rand.Rand) api.Addr {
	a := api.Addr{Six: r.IntN(2) == 0}
	copy(a.B[:], text(16, r.Uint64()))
	if !a.Six && r.IntN(3) > 0 {
		clear(a.B[:12])
	}
	return a
}

// port is a drawn one; two of eight are the least and the greatest one.
func port(r *rand.Rand) uint16 {
	switch r.IntN(8) {
	case 0:
		return 0
	case 1:
		return 65535
	}
	return uint16(r.Uint32())
}

// drawn is a flow of whatever addresses, ports and Proto.
func drawn(r *rand.Rand) api.Flow {
	return api.Flow{Src: address(r), Dst: address(r), SrcPort: port(r), DstPort: port(r), Proto: byte(r.Uint32())}
}
