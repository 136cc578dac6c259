package hash_test

import (
	"bytes"
	"slices"
	"testing"
)

// P18.3: the chapter's example.
func TestExample(t *testing.T) {
	for _, parts := range [][][]byte{{[]byte("a"), []byte("b")}, {[]byte("ab")}, {nil, []byte("ab")}} {
		wantSum(t, "the example", 0x574ca8a26194e644, 0, parts...)
	}
}

// P18.3: parts that are empty, or none, matter nowhere: ahead, between, behind.
func TestEmptyParts(t *testing.T) {
	b := []byte("stanchion")
	for _, seed := range seeds() {
		want := slowSum(seed, b...)
		for _, none := range [][]byte{nil, {}, b[:0], b[4:4], b[9:], make([]byte, 0, 5)} {
			wantSum(t, "ahead", want, seed, none, b)
			wantSum(t, "behind", want, seed, b, none)
			wantSum(t, "between", want, seed, b[:4], none, b[4:])
			wantSum(t, "everywhere", want, seed, none, none, b[:1], none, b[1:8], none, none, b[8:], none)
			wantSum(t, "alone", slowSum(seed), seed, none, none, none)
		}
	}
}

// P18.3: wherever a text is cut, once or twice, its parts have its number.
func TestCutAnywhere(t *testing.T) {
	for _, b := range [][]byte{[]byte("ab"), []byte("123456789"), text(40, 21), make([]byte, 30), bytes.Repeat([]byte{255}, 30)} {
		for _, seed := range seeds() {
			want := slowSum(seed, b...)
			for i := range len(b) + 1 {
				wantSum(t, "cut once", want, seed, b[:i], b[i:])
				for j := i; j <= len(b); j++ {
					wantSum(t, "cut twice", want, seed, b[:i], b[i:j], b[j:])
				}
			}
		}
	}
}

// P18.3: all ways to cut a text of nine bytes.
func TestAllCuts(t *testing.T) {
	b := text(9, 22)
	for _, seed := range seeds()[:4] {
		want := slowSum(seed, b...)
		for cuts := range 1 << 8 {
			var parts [][]byte
			from := 0
			for at := 1; at < 9; at++ {
				if cuts>>(at-1)&1 == 1 {
					parts = append(parts, b[from:at])
					from = at
				}
			}
			wantSum(t, "cut in many ways", want, seed, append(parts, b[from:])...)
		}
	}
}

// P18.3: many parts, each of as many bytes, with empty ones between.
func TestManyParts(t *testing.T) {
	b := text(1000, 23)
	for _, seed := range seeds() {
		want := slowSum(seed, b...)
		for _, size := range []int{1, 2, 3, 7, 8, 9, 255, 256, 257, 999, 1000, 1001} {
			var parts [][]byte
			for p := range slices.Chunk(b, size) {
				parts = append(parts, p, nil)
			}
			wantSum(t, "in many parts", want, seed, parts...)
		}
	}
}

// P18.3: drawn texts, cut in drawn places, some parts of which are in memory of their own.
func TestDrawnParts(t *testing.T) {
	r := draw(24)
	for range 5000 {
		b, seed := text(r.IntN(30), r.Uint64()), r.Uint64()
		var parts [][]byte
		for from := 0; from < len(b); {
			to := from + r.IntN(len(b)-from+1)
			p := b[from:to]
			if r.IntN(2) == 0 {
				p = bytes.Clone(p)
			}
			parts = append(parts, p)
			from = to
		}
		wantSum(t, "cut anywhere", slowSum(seed, b...), seed, parts...)
	}
}

// P18.1: the order of the parts matters, and one may be there again and again.
func TestOrderOfParts(t *testing.T) {
	a, b := []byte("abc"), []byte("xyz")
	for _, seed := range seeds() {
		wantSum(t, "one way", slowSum(seed, []byte("abcxyz")...), seed, a, b)
		wantSum(t, "the other way", slowSum(seed, []byte("xyzabc")...), seed, b, a)
		wantSum(t, "again and again", slowSum(seed, []byte("abcabcababc")...), seed, a, a, a[:2], a)
	}
}
