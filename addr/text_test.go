package addr_test

import (
	"fmt"
	"net/netip"
	"strings"
	"testing"

	"stanchion/addr"
	"stanchion/api"
)

// texts are addresses with their texts, told by hand.
func texts() map[string]api.Addr {
	return map[string]api.Addr{
		"10.0.0.255":                      four(10, 0, 0, 255),
		"0.0.0.0":                         four(0, 0, 0, 0),
		"255.255.255.255":                 four(255, 255, 255, 255),
		"1.2.3.4":                         four(1, 2, 3, 4),
		"1.20.123.0":                      four(1, 20, 123, 0),
		"9.10.99.100":                     four(9, 10, 99, 100),
		"199.200.249.250":                 four(199, 200, 249, 250),
		"0.0.0.1":                         four(0, 0, 0, 1),
		"0:0:0:0:0:0:0:0":                 six("00000000000000000000000000000000"),
		"0:0:0:0:0:0:0:1":                 six("00000000000000000000000000000001"),
		"1:0:0:0:0:0:0:0":                 six("00010000000000000000000000000000"),
		"1:20:300:4000:abc:def1:2340:f0f": six("00010020030040000abcdef123400f0f"),
		"ffff:ffff:ffff:ffff:ffff:ffff:ffff:ffff": six("ffffffffffffffffffffffffffffffff"),
		"2001:db8:0:0:0:0:0:1":                    six("20010db8000000000000000000000001"),
		"fe80:0:0:0:202:b3ff:fe1e:8329":           six("fe800000000000000202b3fffe1e8329"),
		"0:0:0:0:0:ffff:a00:1":                    six("00000000000000000000ffff0a000001"),
		"100:10:1:1000:9:a:f:10":                  six("01000010000110000009000a000f0010"),
		"0:0:0:0:0:0:a00:ff":                      likeFour(four(10, 0, 0, 255)),
	}
}

// P12.3, P12.5: Show and Parse of some that are told by hand.
func TestTexts(t *testing.T) {
	for s, a := range texts() {
		if got := addr.Show(a); got != s {
			t.Errorf("Show(%v) is %q, not %q", a, got, s)
		}
		if got, ok := addr.Parse(s); got != a || !ok {
			t.Errorf("Parse(%q) is %v, %v", s, got, ok)
		}
		if !wantParse(t, s) {
			t.Errorf("%q is no address's text by the document's words", s)
		}
	}
}

// P12.3: each byte of IPv4 at each place, each number of IPv6 at each place, with as many digits as it needs.
func TestEachNumber(t *testing.T) {
	for x := range 256 {
		for at := range 4 {
			b := []byte{7, 0, 10, 255}
			b[at] = byte(x)
			s := fmt.Sprintf("%d.%d.%d.%d", b[0], b[1], b[2], b[3])
			wantText(t, made(b), s)
		}
	}
	for x := range 1 << 16 {
		b := []byte{0, 0, 0x0a, 0xbc, 0xff, 0xff, 0, 1, 0x12, 0x34, 0, 0, 0, 0x10, 0x0f, 0}
		at := x % 8
		b[2*at], b[2*at+1] = byte(x>>8), byte(x)
		wantText(t, made(b), slowShow(made(b)))
		if x < 300 || x%257 == 0 {
			for at := range 8 {
				b[2*at], b[2*at+1] = byte(x>>8), byte(x)
				wantText(t, made(b), slowShow(made(b)))
			}
		}
	}
}

// wantText holds a's text against s, there and back.
func wantText(t *testing.T, a api.Addr, s string) {
	t.Helper()
	if got := addr.Show(a); got != s {
		t.Errorf("Show(%v) is %q, not %q", a, got, s)
	}
	if got, ok := addr.Parse(s); got != a || !ok {
		t.Errorf("Parse(%q) is %v, %v", s, got, ok)
	}
}

// P12.3, P12.5: many of both kinds, there and back, those of IPv4 as the library has them too.
func TestManyTexts(t *testing.T) {
	seen := map[string]api.Addr{}
	for _, a := range goods(41, 2000) {
		wantText(t, a, slowShow(a))
		if x, ok := addr.Parse(addr.Show(a)); x != a || !ok {
			t.Errorf("Parse of Show of %v is %v, %v", a, x, ok)
		}
		x, _ := netip.AddrFromSlice(slowBytes(a))
		if y, err := netip.ParseAddr(addr.Show(a)); err != nil || x != y || !a.Six && x.String() != addr.Show(a) {
			t.Errorf("the library reads Show of %v as %v, %v", a, y, err)
		}
		if b, ok := seen[addr.Show(a)]; ok && a != b {
			t.Errorf("%v and %v have one text", a, b)
		}
		seen[addr.Show(a)] = a
	}
}

// P12.3: what is not good has no text, whatever its other bytes.
func TestShowOfWhatIsNotGood(t *testing.T) {
	for _, a := range bads(42, 300) {
		if s := addr.Show(a); s != "" {
			t.Errorf("Show(%v) is %q", a, s)
		}
		if s := addr.Show(likeFour(a)); s != slowShow(likeFour(a)) || s == "" {
			t.Errorf("Show(%v) is %q", likeFour(a), s)
		}
	}
}

// P12.3: texts that are near an address's, and are none.
func TestParseOfNone(t *testing.T) {
	for _, s := range []string{
		"", " ", ".", "..", "...", "....", ":", "::", ":::", ":::::::", "::::::::", "/", "0", "1", "a", "-", "x",
		// too few parts, too many, empty ones
		"1.2.3", "1.2", "1.2.3.", ".1.2.3", "1..2.3", "1.2..3", "1...4", "1.2.3.4.", ".1.2.3.4", "1.2.3.4.5", "..1.2.3.4", "1.2.3.4..", "1..2.3.4", "1.2.3..4",
		"0.0.0.0.0.0.0.0.0.0.0.0.0.0.0.0", "1.2.3.4.5.6.7.8.9.10.11.12.13.14.15.16", "0:0", "102:304", "1:2:3:4", "0:0:0:0", "0:0:0:0:0:0:0", "0:0:0:0:0:0:0:0:0",
		"0:0:0:0:0:0:0:", ":0:0:0:0:0:0:0", "0::0:0:0:0:0:0", "0:0:0::0:0:0:0:0", "0:0:0:0:0:0:0::", "::0:0:0:0:0:0:0", "::1", "1::", "1::2", "2001:db8::1", "::ffff:1.2.3.4",
		"0:0:0:0:0:0:0:0:", ":0:0:0:0:0:0:0:0", "0:0:0:0:0:0:0::0", "0:0:0:0:0:0::0:0:0",
		// noughts ahead
		"00.0.0.0", "0.00.0.0", "0.0.00.0", "0.0.0.00", "01.2.3.4", "1.2.3.04", "1.2.3.004", "010.0.0.255", "1.002.3.4", "0000.0.0.0", "10.0.0.0255",
		"00:0:0:0:0:0:0:0", "0:0:0:0:0:0:0:00", "0:0:0:0:0:0:0:01", "01:0:0:0:0:0:0:0", "0:0:0:0abc:0:0:0:0", "0:0:0:0000:0:0:0:0", "2001:0db8:0:0:0:0:0:1",
		"0000:0000:0000:0000:0000:0000:0000:0000", "0ffff:0:0:0:0:0:0:0", "0:0:0:0:0:0:0:0ffff",
		// numbers that are too large, modulo powers of two too
		"256.0.0.0", "0.256.0.0", "0.0.256.0", "0.0.0.256", "257.2.3.4", "1.2.3.260", "999.0.0.0", "1000.0.0.0", "0.0.0.1000", "65536.0.0.0", "65537.2.3.4",
		"4294967296.0.0.0", "4294967297.2.3.4", "18446744073709551616.0.0.0", "18446744073709551617.2.3.4", "340282366920938463463374607431768211457.2.3.4", "2550.0.0.0", "1.2.3.2551",
		"10000:0:0:0:0:0:0:0", "0:0:0:0:0:0:0:10000", "0:0:0:0:0:0:0:10001", "fffff:0:0:0:0:0:0:0", "100000001:0:0:0:0:0:0:0", "10000000000000001:0:0:0:0:0:0:0",
		// other digits, and other characters
		"A:0:0:0:0:0:0:0", "0:0:0:0:0:0:0:F", "2001:DB8:0:0:0:0:0:1", "2001:dB8:0:0:0:0:0:1", "FFFF:ffff:ffff:ffff:ffff:ffff:ffff:ffff", "g:0:0:0:0:0:0:0", "0:0:0:0:0:0:0:g",
		"a.0.0.0", "0.0.0.a", "f.f.f.f", "0x1.2.3.4", "1.2.3.0x4", "0X1.2.3.4", "0x1:0:0:0:0:0:0:0", "0b1.2.3.4", "0o1.2.3.4", "1e1.2.3.4", "1_0.0.0.255", "1_0:0:0:0:0:0:0:0", "1,2,3,4", "1.2.3,4",
		"1.2.3.x", "1.2.3.4x", "x1.2.3.4", "1.2.3.*", "localhost", "1.2.3.4:80", "[0:0:0:0:0:0:0:0]", "0:0:0:0:0:0:0:0]", "fe80:0:0:0:0:0:0:1%eth0", "fe80:0:0:0:0:0:0:1%1", "1.2.3.4%1",
		// both marks
		"1:2:3:4:5:6:7.8", "1.2:3.4", "1.2.3:4", "1:2.3.4", "0:0:0:0:0:0:1.2.3.4", "0:0:0:0:0:ffff:10.0.0.1", "1.2.3.4:0:0:0:0:0:0:0", "0.0:0:0:0:0:0:0:0", "0:0:0:0:0:0:0.0:0",
		// signs
		"-1.2.3.4", "1.2.3.-4", "+1.2.3.4", "1.2.3.+4", "-0.0.0.0", "0.0.0.-0", "1.-2.3.4", "+1:0:0:0:0:0:0:0", "0:0:0:0:0:0:0:+1", "-0:0:0:0:0:0:0:0", "0:0:0:-1:0:0:0:0",
		// blanks
		" 1.2.3.4", "1.2.3.4 ", "1.2. 3.4", "1 .2.3.4", "1.2.3.4\n", "\n1.2.3.4", "1.2.3.4\r\n", "\t1.2.3.4", "1.2.3.4\x00", "\x001.2.3.4", "1. .3.4", "1 2 3 4",
		" 0:0:0:0:0:0:0:0", "0:0:0:0:0:0:0:0 ", "0:0:0: 0:0:0:0:0", "0:0:0:0:0:0:0:0\n", "0:0:0: :0:0:0:0", "0:0:0:0:0:0:0:0\x00",
		// prefixes
		"1.2.3.4/32", "10.0.0.0/8", "0:0:0:0:0:0:0:0/0", "1.2.3.4/", "/1.2.3.4",
		// digits of other scripts, and what is no text
		"\uff11.2.3.4", "1.2.3.\u0664", "1\u30022.3.4", "1\uff0e2.3.4", "0:0:0:0:0:0:0:\uff11", "\u00b2.2.3.4", "1.2.3.\xff", "\xc0.2.3.4", "1.2.3.4\xff", "\ufeff1.2.3.4", "\u2460.2.3.4",
	} {
		if a, ok := addr.Parse(s); a != (api.Addr{}) || ok {
			t.Errorf("Parse(%q) is %v, %v", s, a, ok)
		}
		if wantParse(t, s) {
			t.Errorf("%q is an address's text by the document's words", s)
		}
	}
}

// pieces are what is put into texts, or in the place of some of them.
var pieces = []string{"0", "1", "2", "5", "6", "9", "a", "f", "g", "A", "F", "x", ".", ":", "/", "-", "+", "_", " ", "\n", "\x00", "%", "\xff", "\uff11", "00", "0x", "..", "::", "10000"}

// near calls f with s, and with each text that comes of it by one change: a byte left out, twice, in another place, in large letters; a piece in its place or ahead of it; what is ahead or behind left out.
func near(s string, f func(string)) {
	f(s)
	f(s + s)
	f(strings.ToUpper(s))
	f(strings.ReplaceAll(s, ".", ":"))
	f(strings.ReplaceAll(s, ":", "."))
	for i := range len(s) + 1 {
		f(s[:i])
		f(s[i:])
		f(s[i:] + s[:i])
		for _, x := range pieces {
			f(s[:i] + x + s[i:])
			if i < len(s) {
				f(s[:i] + x + s[i+1:])
			}
		}
		if i == len(s) {
			continue
		}
		f(s[:i] + s[i+1:])
		f(s[:i] + s[i:i+1] + s[i:])
		f(s[:i] + strings.ToUpper(s[i:i+1]) + s[i+1:])
		if i+1 < len(s) {
			f(s[:i] + s[i+1:i+2] + s[i:i+1] + s[i+2:])
			f(s[:i] + s[i+2:])
		}
	}
}

// P12.3: all texts that come of an address's by one change, held against the document's words; some are other addresses' texts, most are none.
func TestParseOfNearTexts(t *testing.T) {
	good, none := 0, 0
	l := goods(43, 8)
	for s := range texts() {
		near(s, func(s string) {
			if wantParse(t, s) {
				good++
			} else {
				none++
			}
		})
	}
	for _, a := range l {
		near(slowShow(a), func(s string) { wantParse(t, s) })
	}
	if good < 500 || none < 5000 {
		t.Errorf("%d addresses, %d texts that are none", good, none)
	}
}

// P12.3: each number of IPv4 up to 1100 at each place, with up to three noughts ahead.
func TestParseEachNumber(t *testing.T) {
	for n := range 1100 {
		for at := range 4 {
			for _, form := range []string{"%d", "%02d", "%03d", "%04d", "%05d", "%x", "%#x", "%o", "%#o", "-%d", "+%d", " %d", "%d "} {
				l := []string{"1", "20", "0", "255"}
				l[at] = fmt.Sprintf(form, n)
				wantParse(t, strings.Join(l, "."))
			}
		}
	}
}

// P12.3: numbers of IPv6 at each place, with noughts ahead, and large letters.
func TestParseEachNumberOfSix(t *testing.T) {
	for n := 0; n < 0x11000; n += 13 {
		for _, form := range []string{"%x", "%02x", "%03x", "%04x", "%05x", "%X", "%#x", "%d", "-%x", "+%x", " %x", "%x "} {
			l := []string{"1", "20", "0", "ffff", "ab", "0", "9", "c0de"}
			l[n%8] = fmt.Sprintf(form, n)
			wantParse(t, strings.Join(l, ":"))
		}
	}
}

// P12.3: as many parts as there may be, and others.
func TestParseEachNumberOfParts(t *testing.T) {
	for _, part := range []string{"0", "1", "99", "255", "", "00", "a", "1234"} {
		for _, mark := range []string{".", ":", "/", ",", " ", "", "..", "::"} {
			for n := range 40 {
				s := strings.Repeat(part+mark, n)
				wantParse(t, s)
				wantParse(t, s+part)
				wantParse(t, mark+s)
			}
		}
	}
}

// P12.3: all short texts of a few characters, and all of four parts of some kinds.
func TestParseOfShortTexts(t *testing.T) {
	var all func(s string, n int)
	all = func(s string, n int) {
		wantParse(t, s)
		if n > 0 {
			for _, x := range []string{"0", "1", ".", ":"} {
				all(s+x, n-1)
			}
		}
	}
	all("", 8)
	parts := []string{"", "0", "00", "1", "01", "9", "10", "010", "255", "256", "+1", "-0", "a", "1 ", " "}
	for _, a := range parts {
		for _, b := range parts {
			for _, c := range parts {
				for _, d := range parts {
					wantParse(t, a+"."+b+"."+c+"."+d)
				}
			}
		}
	}
}

// longs are texts that are far longer than an address's.
func longs() []string {
	var l []string
	for _, n := range []int{32, 40, 64, 1000, 1 << 16, 1 << 20} {
		for _, x := range []string{"0", "1", "f", ".", ":", "0.", "0:", "1.2.3.4", " ", "/", "0/", "-", "\x00", "\xff"} {
			l = append(l, strings.Repeat(x, n))
		}
		for _, s := range []string{"1.2.3.4", "0:0:0:0:0:0:0:1", "ffff:ffff:ffff:ffff:ffff:ffff:ffff:ffff", "255.255.255.255"} {
			for _, x := range []string{"0", "1", " ", ".", ":", "\n", "x", "\x00"} {
				l = append(l, strings.Repeat(x, n)+s, s+strings.Repeat(x, n))
			}
		}
		l = append(l, "1.2.3."+strings.Repeat("0", n)+"4", "0:0:0:0:0:0:0:"+strings.Repeat("0", n)+"1")
	}
	return l
}

// P12.3: long texts are none.
func TestParseOfLongTexts(t *testing.T) {
	for _, s := range longs() {
		if a, ok := addr.Parse(s); a != (api.Addr{}) || ok {
			t.Errorf("Parse of %d bytes, %.50q, is %v, %v", len(s), s, a, ok)
		}
	}
}

// P12.3: a piece of a longer text is read alone.
func TestParseOfPieces(t *testing.T) {
	s := "255.255.255.2550:0:0:0:0:0:0:10000"
	for i := range len(s) + 1 {
		for j := i; j <= len(s); j++ {
			wantParse(t, s[i:j])
		}
	}
}
