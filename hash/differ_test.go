package hash_test

import (
	"bytes"
	"slices"
	"testing"

	"stanchion/hash"
)

// texts are some of each length that a layer above hands in, and others.
func texts() [][]byte {
	return [][]byte{{0}, {255}, text(2, 1), text(5, 2), text(13, 3), text(17, 4), text(37, 5), make([]byte, 13), bytes.Repeat([]byte{255}, 13), bytes.Repeat([]byte{128}, 9), text(64, 6)}
}

// P18.1: each byte of a text matters: as each other one it makes another number.
func TestEachByteMatters(t *testing.T) {
	for _, seed := range seeds() {
		for _, b := range texts() {
			want := hash.Sum(seed, b)
			for at := range b {
				for by := 1; by < 256; by++ {
					other := bytes.Clone(b)
					other[at] ^= byte(by)
					if hash.Sum(seed, other) == want {
						t.Errorf("seed %#x: %x and %x have the same number", seed, b, other)
					}
				}
			}
		}
	}
}

// P18.1: each bit of each byte matters, and no two of a text make the same number.
func TestEachBitMatters(t *testing.T) {
	for _, seed := range seeds() {
		for _, b := range texts() {
			seen := map[uint64]bool{hash.Sum(seed, b): true}
			for bit := range 8 * len(b) {
				other := bytes.Clone(b)
				other[bit/8] ^= 1 << (bit % 8)
				seen[hash.Sum(seed, other)] = true
			}
			if want := 8*len(b) + 1; len(seen) != want {
				t.Errorf("seed %#x: %d numbers of %x with a bit turned, not %d", seed, len(seen), b, want)
			}
		}
	}
}

// P18.1: each bit of the seed matters, and no two make the same number.
func TestEachBitOfTheSeedMatters(t *testing.T) {
	for _, b := range append(texts(), nil) {
		for _, seed := range seeds() {
			seen := map[uint64]bool{hash.Sum(seed, b): true}
			for bit := range 64 {
				other := seed ^ 1<<bit
				wantSum(t, "with a bit of the seed turned", slowSum(other, b...), other, b)
				seen[hash.Sum(other, b)] = true
			}
			if len(seen) != 65 {
				t.Errorf("%d numbers of %x with a bit of the seed %#x turned, not 65", len(seen), b, seed)
			}
		}
	}
}

// P18.1: the order of the bytes matters: of any two that are exchanged, of all of them turned round, and moved on by one.
func TestOrderMatters(t *testing.T) {
	for _, seed := range seeds() {
		for _, b := range [][]byte{{0, 1}, {1, 0}, {0, 255}, {127, 128}, text(13, 11), eachByte()[:64], text(37, 12)} {
			want := hash.Sum(seed, b)
			for i := range b {
				for j := range i {
					other := bytes.Clone(b)
					other[i], other[j] = b[j], b[i]
					if b[i] != b[j] && hash.Sum(seed, other) == want {
						t.Errorf("seed %#x: %x and %x have the same number", seed, b, other)
					}
				}
			}
			round := bytes.Clone(b)
			slices.Reverse(round)
			moved := append(bytes.Clone(b[1:]), b[0])
			for _, other := range [][]byte{round, moved} {
				if hash.Sum(seed, other) == want {
					t.Errorf("seed %#x: %x and %x have the same number", seed, b, other)
				}
			}
		}
	}
}

// P18.1: all texts of one byte, and all of two, have numbers of their own.
func TestShortTextsApart(t *testing.T) {
	for _, seed := range seeds()[:4] {
		seen := map[uint64]bool{hash.Sum(seed): true}
		for x := range 256 {
			seen[hash.Sum(seed, []byte{byte(x)})] = true
			for y := range 256 {
				seen[hash.Sum(seed, []byte{byte(x), byte(y)})] = true
			}
		}
		if want := 1 + 1<<8 + 1<<16; len(seen) != want {
			t.Errorf("seed %#x: %d numbers of %d texts", seed, len(seen), want)
		}
	}
}

// P18.1: how many bytes there are matters, though all of them be alike.
func TestHowManyMatters(t *testing.T) {
	for _, seed := range seeds() {
		for _, x := range []byte{0, 1, 127, 128, 255} {
			seen := map[uint64]int{}
			for n := range 300 {
				seen[hash.Sum(seed, bytes.Repeat([]byte{x}, n))] = n
			}
			if len(seen) != 300 {
				t.Errorf("seed %#x: %d numbers of up to 299 bytes %d", seed, len(seen), x)
			}
		}
	}
}
