// Package num is layer 1: numbers as bytes, the highest first: see DOC.md and doc/01-num.md.
package num

// maxSize is how many bytes a number may have: as many as a uint64 has.
const maxSize = 8

// Put is b with n's lowest size bytes behind it; b alone, if a number can't have that size.
func Put(b []byte, n uint64, size int) []byte {
	if !sizeMayBe(size) {
		return Bytes(b)
	}
	low := make([]byte, size)
	for i := size - 1; i >= 0; i-- {
		low[i] = byte(n)
		n >>= 8
	}
	return Bytes(b, low)
}

// Get is the number that b's size bytes from at on say; false, if they are not all there.
func Get(b []byte, at, size int) (uint64, bool) {
	if !sizeMayBe(size) || !within(b, at, size) {
		return 0, false
	}
	n := uint64(0)
	for _, x := range b[at : at+size] {
		n = n<<8 | uint64(x)
	}
	return n, true
}

// Bytes is all parts, one behind the other, in new memory: no caller's part can be reached through it.
func Bytes(parts ...[]byte) []byte {
	total := 0
	for _, p := range parts {
		total += len(p)
	}
	if total == 0 {
		return nil
	}
	all := make([]byte, 0, total)
	for _, p := range parts {
		all = append(all, p...)
	}
	return all
}

// Cut is a copy of b's size bytes from at on; false, if they are not all there.
func Cut(b []byte, at, size int) ([]byte, bool) {
	if !within(b, at, size) {
		return nil, false
	}
	return Bytes(b[at : at+size]), true
}

func sizeMayBe(size int) bool {
	return size >= 1 && size <= maxSize
}

// within compares size with what is left behind at, as at+size might be more than an int holds.
func within(b []byte, at, size int) bool {
	return at >= 0 && size >= 0 && size <= len(b)-at
}
