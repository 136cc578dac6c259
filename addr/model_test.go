package addr_test

import (
	"encoding/hex"
	"fmt"
	"math/rand/v2"
	"regexp"
	"strconv"
	"strings"
	"testing"

	"stanchion/addr"
	"stanchion/api"
)

// draw is a source of numbers that are the same in each run.
func draw(seed uint64) *rand.Rand {
	return rand.New(rand.NewPCG(seed, 12))
}

// anyBytes is n bytes of r, of which some are at the edges.
func anyBytes(r *rand.Rand, n int) []byte {
	b := make([]byte, n)
	for i := range b {
		switch r.IntN(4) {
		case 0:
			b[i] = []byte{0, 1, 9, 10, 15, 16, 99, 100, 127, 128, 199, 200, 254, 255}[r.IntN(14)]
		case 1:
			b[i] = 0
		default:
			b[i] = byte(r.Uint32())
		}
	}
	return b
}

// made is the address of four or sixteen bytes, put together by hand.
func made(b []byte) api.Addr {
	a := api.Addr{Six: len(b) == 16}
	if a.Six {
		copy(a.B[:], b)
	} else {
		copy(a.B[12:], b)
	}
	return a
}

// six is the address of IPv6 of which these are the bytes, as 32 digits.
func six(digits string) api.Addr {
	b, err := hex.DecodeString(digits)
	if err != nil || len(b) != 16 {
		panic(digits)
	}
	return made(b)
}

// four is the address of IPv4 of these bytes, put together by hand.
func four(b ...byte) api.Addr {
	return made(b[:4:4])
}

// likeFour is the address of IPv6 that has all bytes of an address of IPv4.
func likeFour(a api.Addr) api.Addr {
	a.Six = true
	return a
}

// goods are good addresses: those at the edges, and n of each kind that are drawn.
func goods(seed uint64, n int) []api.Addr {
	l := []api.Addr{
		four(0, 0, 0, 0), four(255, 255, 255, 255), four(10, 0, 0, 255), four(0, 0, 0, 1), four(128, 0, 0, 0), four(1, 2, 3, 4), four(192, 168, 100, 99),
		six("00000000000000000000000000000000"), six("ffffffffffffffffffffffffffffffff"), six("00000000000000000000000000000001"),
		six("80000000000000000000000000000000"), six("20010db8000000000000000000000001"), six("00010020030040000abc0def12340f0f"),
		six("00000000000000000000ffff0a000001"), likeFour(four(10, 0, 0, 255)),
	}
	r := draw(seed)
	for range n {
		l = append(l, made(anyBytes(r, 4)), made(anyBytes(r, 16)))
	}
	return l
}

// bads are addresses that are not good, each of the first twelve bytes in turn not 0, and n that are drawn.
func bads(seed uint64, n int) []api.Addr {
	var l []api.Addr
	r := draw(seed)
	for at := range 12 {
		for _, x := range []byte{1, 2, 16, 127, 128, 255} {
			for _, a := range []api.Addr{four(0, 0, 0, 0), four(10, 1, 2, 3), four(255, 255, 255, 255)} {
				a.B[at] = x
				l = append(l, a)
			}
		}
	}
	for range n {
		a := made(anyBytes(r, 16))
		a.Six = false
		a.B[r.IntN(12)] |= 1 << r.IntN(8)
		l = append(l, a)
	}
	return l
}

// most is how many bits an address of a's kind has.
func most(a api.Addr) int {
	if a.Six {
		return 128
	}
	return 32
}

// turned is a with one of its own bits turned, the first one being 0.
func turned(a api.Addr, bit int) api.Addr {
	bit += 128 - most(a)
	a.B[bit/8] ^= 1 << (7 - bit%8)
	return a
}

// slowGood is P12.1's Good in the document's words, and so on.
func slowGood(a api.Addr) bool {
	for _, x := range a.B[:12] {
		if x != 0 && !a.Six {
			return false
		}
	}
	return true
}

func slowBytes(a api.Addr) []byte {
	var b []byte
	for i, x := range a.B {
		if a.Six || i >= 12 {
			b = append(b, x)
		}
	}
	return b
}

func slowLess(a, b api.Addr) bool {
	if a.Six != b.Six {
		return !a.Six
	}
	for i := range a.B {
		if a.B[i] != b.B[i] {
			return a.B[i] < b.B[i]
		}
	}
	return false
}

func slowMask(a api.Addr, bits int) (api.Prefix, bool) {
	if !slowGood(a) || bits < 0 || bits > most(a) {
		return api.Prefix{}, false
	}
	for i := bits; i < most(a); i++ {
		at := 128 - most(a) + i
		if a.B[at/8]>>(7-at%8)%2 == 1 {
			a = turned(a, i)
		}
	}
	return api.Prefix{Addr: a, Bits: bits}, true
}

func slowIn(a api.Addr, p api.Prefix) bool {
	m, ok := slowMask(a, p.Bits)
	return ok && slowGood(a) && a.Six == p.Addr.Six && m == p
}

func slowShow(a api.Addr) string {
	if !slowGood(a) {
		return ""
	}
	b := a.B
	if !a.Six {
		return fmt.Sprintf("%d.%d.%d.%d", b[12], b[13], b[14], b[15])
	}
	var l []string
	for i := 0; i < 16; i += 2 {
		l = append(l, fmt.Sprintf("%x", int(b[i])*256+int(b[i+1])))
	}
	return strings.Join(l, ":")
}

var (
	formFour   = regexp.MustCompile(`^(0|[1-9][0-9]{0,2})\.(0|[1-9][0-9]{0,2})\.(0|[1-9][0-9]{0,2})\.(0|[1-9][0-9]{0,2})\z`)
	formSix    = regexp.MustCompile(`^(?:(?:0|[1-9a-f][0-9a-f]{0,3}):){7}(?:0|[1-9a-f][0-9a-f]{0,3})\z`)
	formPrefix = regexp.MustCompile(`^([0-9a-f.:]+)/(0|[1-9][0-9]{0,2})\z`)
)

// slowParse reads the forms that there are, by their looks, and knows nothing of Show.
func slowParse(s string) (api.Addr, bool) {
	if m := formFour.FindStringSubmatch(s); m != nil {
		var b []byte
		for _, x := range m[1:] {
			n, _ := strconv.Atoi(x)
			if n > 255 {
				return api.Addr{}, false
			}
			b = append(b, byte(n))
		}
		return made(b), true
	}
	if formSix.MatchString(s) {
		digits := ""
		for _, x := range strings.Split(s, ":") {
			digits += strings.Repeat("0", 4-len(x)) + x
		}
		return six(digits), true
	}
	return api.Addr{}, false
}

func slowShowPrefix(p api.Prefix) string {
	if m, ok := slowMask(p.Addr, p.Bits); !ok || m != p {
		return ""
	}
	return fmt.Sprintf("%s/%d", slowShow(p.Addr), p.Bits)
}

func slowParsePrefix(s string) (api.Prefix, bool) {
	m := formPrefix.FindStringSubmatch(s)
	if m == nil {
		return api.Prefix{}, false
	}
	a, ok := slowParse(m[1])
	bits, _ := strconv.Atoi(m[2])
	p := api.Prefix{Addr: a, Bits: bits}
	if !ok || slowShowPrefix(p) == "" {
		return api.Prefix{}, false
	}
	return p, true
}

// wantMask holds Mask against the document's words.
func wantMask(t *testing.T, a api.Addr, bits int) {
	t.Helper()
	got, ok := addr.Mask(a, bits)
	want, may := slowMask(a, bits)
	if got != want || ok != may {
		t.Errorf("Mask(%v, %d) is %v, %v, not %v, %v", a, bits, got, ok, want, may)
	}
}

// wantIn holds In against the document's words.
func wantIn(t *testing.T, a api.Addr, p api.Prefix) {
	t.Helper()
	if got, want := addr.In(a, p), slowIn(a, p); got != want {
		t.Errorf("In(%v, %v) is %v", a, p, got)
	}
}

// wantParse holds Parse against the document's words, and says whether s is an address's text.
func wantParse(t *testing.T, s string) bool {
	t.Helper()
	got, ok := addr.Parse(s)
	want, may := slowParse(s)
	if got != want || ok != may {
		t.Errorf("Parse(%.100q) is %v, %v, not %v, %v", s, got, ok, want, may)
	}
	return may
}

// wantParsePrefix holds ParsePrefix against the document's words, and says whether s is a prefix's text.
func wantParsePrefix(t *testing.T, s string) bool {
	t.Helper()
	got, ok := addr.ParsePrefix(s)
	want, may := slowParsePrefix(s)
	if got != want || ok != may {
		t.Errorf("ParsePrefix(%.100q) is %v, %v, not %v, %v", s, got, ok, want, may)
	}
	return may
}

// wantShowPrefix holds ShowPrefix against the document's words.
func wantShowPrefix(t *testing.T, p api.Prefix) {
	t.Helper()
	if got, want := addr.ShowPrefix(p), slowShowPrefix(p); got != want {
		t.Errorf("ShowPrefix(%v) is %q, not %q", p, got, want)
	}
}
