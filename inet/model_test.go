package inet_test

import (
	"bytes"
	"math/big"
	"math/rand/v2"
	"testing"

	"stanchion/inet"
)

// draw is a source of numbers that are the same in each run.
func draw(seed uint64) *rand.Rand {
	return rand.New(rand.NewPCG(seed, 11))
}

// text is n bytes that have no short rule and are the same in each run.
func text(n int, seed uint64) []byte {
	b := make([]byte, n)
	r := draw(seed)
	for i := range b {
		b[i] = byte(r.Uint32())
	}
	return b
}

// numbers are the numbers of two bytes that b says, with a 0 behind an odd number of bytes.
func numbers(b []byte) []uint16 {
	var l []uint16
	for i := 0; i < len(b); i += 2 {
		n := uint16(b[i]) * 256
		if i+1 < len(b) {
			n += uint16(b[i+1])
		}
		l = append(l, n)
	}
	return l
}

// below is n with what is above 16 bits added below, until nothing is, as the document words it, of numbers of any size.
func below(n *big.Int) uint16 {
	most := big.NewInt(0xffff)
	for n.Cmp(most) > 0 {
		above := new(big.Int).Rsh(n, 16)
		n = above.Add(above, new(big.Int).And(n, most))
	}
	return uint16(n.Uint64())
}

// turn is n with all bits turned, one by one.
func turn(n uint16) uint16 {
	for bit := range 16 {
		n ^= 1 << bit
	}
	return n
}

// slowSum is P11.1's sum of b in the document's words.
func slowSum(b []byte) uint16 {
	n := new(big.Int)
	for _, x := range numbers(b) {
		n.Add(n, big.NewInt(int64(x)))
	}
	return turn(below(n))
}

// slowChange is P11.2's changed sum in the document's words.
func slowChange(sum uint16, old, young []byte) uint16 {
	if len(old) != len(young) || len(old)%2 == 1 {
		return sum
	}
	n := big.NewInt(int64(turn(sum)))
	for _, x := range numbers(old) {
		n.Add(n, big.NewInt(int64(turn(x))))
	}
	for _, x := range numbers(young) {
		n.Add(n, big.NewInt(int64(x)))
	}
	return turn(below(n))
}

// rest is the sum of b told by division: what is added below is what 65535 leaves, but 65535 itself, not 0, of all but bytes 0.
func rest(b []byte) uint16 {
	n := uint64(0)
	for i, x := range b {
		if i%2 == 0 {
			n += uint64(x) * 256
		} else {
			n += uint64(x)
		}
	}
	if n == 0 {
		return 65535
	}
	return uint16(65535 - ((n-1)%65535 + 1))
}

// with is b with sum at the place at.
func with(b []byte, at int, sum uint16) []byte {
	b = bytes.Clone(b)
	b[at], b[at+1] = byte(sum>>8), byte(sum)
	return b
}

// put is b with young from at on.
func put(b []byte, at int, young []byte) []byte {
	b = bytes.Clone(b)
	copy(b[at:], young)
	return b
}

// two are the two bytes of n, the higher one first.
func two(n uint16) []byte {
	return []byte{byte(n >> 8), byte(n)}
}

// wantSum holds Sum and Good of b, whole and in parts, against want.
func wantSum(t *testing.T, what string, want uint16, parts ...[]byte) {
	t.Helper()
	if got := inet.Sum(parts...); got != want {
		t.Errorf("%s: Sum is %04x, not %04x", what, got, want)
	}
	if got := inet.Good(parts...); got != (want == 0) {
		t.Errorf("%s: Good is %v, where the sum is %04x", what, got, want)
	}
}

// wantChange holds Change against want.
func wantChange(t *testing.T, want, sum uint16, old, young []byte) {
	t.Helper()
	if got := inet.Change(sum, old, young); got != want {
		t.Errorf("Change(%04x, %x, %x) is %04x, not %04x", sum, old, young, got, want)
	}
}
