package addr_test

import (
	"fmt"
	"net/netip"
	"strings"
	"testing"

	"stanchion/addr"
	"stanchion/api"
)

// P12.4: some prefixes with their texts, told by hand, there and back.
func TestPrefixTexts(t *testing.T) {
	for _, x := range []struct {
		s string
		p api.Prefix
	}{
		{"10.0.0.0/8", api.Prefix{Addr: four(10, 0, 0, 0), Bits: 8}},
		{"0.0.0.0/0", api.Prefix{}},
		{"0.0.0.0/32", api.Prefix{Bits: 32}},
		{"0.0.0.0/9", api.Prefix{Bits: 9}},
		{"0.0.0.0/10", api.Prefix{Bits: 10}},
		{"1.2.3.4/32", api.Prefix{Addr: four(1, 2, 3, 4), Bits: 32}},
		{"1.2.3.4/30", api.Prefix{Addr: four(1, 2, 3, 4), Bits: 30}},
		{"255.255.255.254/31", api.Prefix{Addr: four(255, 255, 255, 254), Bits: 31}},
		{"128.0.0.0/1", api.Prefix{Addr: four(128, 0, 0, 0), Bits: 1}},
		{"0:0:0:0:0:0:0:0/0", api.Prefix{Addr: api.Addr{Six: true}}},
		{"0:0:0:0:0:0:0:0/128", api.Prefix{Addr: api.Addr{Six: true}, Bits: 128}},
		{"0:0:0:0:0:0:0:0/99", api.Prefix{Addr: api.Addr{Six: true}, Bits: 99}},
		{"0:0:0:0:0:0:0:0/100", api.Prefix{Addr: api.Addr{Six: true}, Bits: 100}},
		{"2001:db8:0:0:0:0:0:0/32", api.Prefix{Addr: six("20010db8000000000000000000000000"), Bits: 32}},
		{"2001:db8:0:0:0:0:0:1/128", api.Prefix{Addr: six("20010db8000000000000000000000001"), Bits: 128}},
		{"0:0:0:0:0:0:a00:0/104", api.Prefix{Addr: likeFour(four(10, 0, 0, 0)), Bits: 104}},
		{"8000:0:0:0:0:0:0:0/1", api.Prefix{Addr: six("80000000000000000000000000000000"), Bits: 1}},
	} {
		if s := addr.ShowPrefix(x.p); s != x.s {
			t.Errorf("ShowPrefix(%v) is %q, not %q", x.p, s, x.s)
		}
		if p, ok := addr.ParsePrefix(x.s); p != x.p || !ok {
			t.Errorf("ParsePrefix(%q) is %v, %v", x.s, p, ok)
		}
		if !wantParsePrefix(t, x.s) {
			t.Errorf("%q is no prefix's text by the document's words", x.s)
		}
	}
}

// P12.4: each prefix of many addresses, there and back, those of IPv4 as the library has them too.
func TestEachPrefix(t *testing.T) {
	for _, a := range goods(51, 60) {
		for bits := range most(a) + 1 {
			p, _ := slowMask(a, bits)
			s := fmt.Sprintf("%s/%d", slowShow(p.Addr), bits)
			if got := addr.ShowPrefix(p); got != s {
				t.Errorf("ShowPrefix(%v) is %q", p, got)
			}
			if got, ok := addr.ParsePrefix(s); got != p || !ok {
				t.Errorf("ParsePrefix(%q) is %v, %v", s, got, ok)
			}
			x, err := netip.ParsePrefix(s)
			if y, _ := netip.AddrFromSlice(slowBytes(p.Addr)); err != nil || x.Addr() != y || x.Bits() != bits {
				t.Errorf("the library reads %q as %v, %v", s, x, err)
			}
		}
	}
}

// P12.4: a prefix of which a further bit is not 0 has no text, and what its text would be is none's.
func TestFurtherBits(t *testing.T) {
	for _, a := range goods(52, 10) {
		for bits := range most(a) {
			p, _ := slowMask(a, bits)
			for bit := bits; bit < most(a); bit++ {
				q := api.Prefix{Addr: turned(p.Addr, bit), Bits: bits}
				if s := addr.ShowPrefix(q); s != "" {
					t.Errorf("ShowPrefix(%v) is %q", q, s)
				}
				s := fmt.Sprintf("%s/%d", slowShow(q.Addr), bits)
				if x, ok := addr.ParsePrefix(s); x != (api.Prefix{}) || ok {
					t.Errorf("ParsePrefix(%q) is %v, %v", s, x, ok)
				}
			}
		}
	}
}

// P12.4: Bits that may not be for the kind, of addresses that would do, and of such as are not good.
func TestWrongBits(t *testing.T) {
	for _, a := range append(goods(53, 10), bads(54, 10)...) {
		for bits := -140; bits <= 300; bits++ {
			m, _ := slowMask(a, min(max(bits, 0), most(a)))
			for _, p := range []api.Prefix{{Addr: a, Bits: bits}, {Addr: m.Addr, Bits: bits}, {Bits: bits}, {Addr: api.Addr{Six: true}, Bits: bits}} {
				wantShowPrefix(t, p)
				wantParsePrefix(t, fmt.Sprintf("%s/%d", slowShow(p.Addr), bits))
			}
		}
		for _, bits := range strange {
			if s := addr.ShowPrefix(api.Prefix{Addr: a, Bits: bits}); s != "" {
				t.Errorf("ShowPrefix(%v, %d) is %q", a, bits, s)
			}
			s := fmt.Sprintf("%s/%d", slowShow(a), bits)
			if p, ok := addr.ParsePrefix(s); p != (api.Prefix{}) || ok {
				t.Errorf("ParsePrefix(%q) is %v, %v", s, p, ok)
			}
		}
	}
}

// P12.4: of an address that is not good no prefix is.
func TestShowPrefixOfWhatIsNotGood(t *testing.T) {
	for _, a := range bads(55, 100) {
		for bits := range 129 {
			if s := addr.ShowPrefix(api.Prefix{Addr: a, Bits: bits}); s != "" {
				t.Errorf("ShowPrefix(%v, %d) is %q", a, bits, s)
			}
			p, _ := slowMask(made(slowBytes(a)), min(bits, 32))
			copy(p.Addr.B[:12], a.B[:12])
			wantShowPrefix(t, p)
		}
	}
}

// P12.4: texts that are near a prefix's, and are none.
func TestParsePrefixOfNone(t *testing.T) {
	for _, s := range []string{
		"", "/", "//", "0", "8", "/8", "/0", "10.0.0.0", "10.0.0.0/", "/10.0.0.0", "10.0.0.0//8", "10.0.0.0/8/", "/10.0.0.0/8", "10.0.0.0/8/8", "10.0.0.0/8/0", "10.0.0.0/10.0.0.0", "10.0.0.0/255.0.0.0",
		"0.0.0.0", "0:0:0:0:0:0:0:0", "0:0:0:0:0:0:0:0/", "0:0:0:0:0:0:0:0//0", "0:0:0:0:0:0:0:0/0/", "0:0:0:0:0:0:0:0/0/0", "10.0.0.0 8", "10.0.0.0\\8", "10.0.0.0:8", "10.0.0.0.8", "10.0.0.08",
		"10.0.0.0/08", "10.0.0.0/008", "10.0.0.0/00", "0.0.0.0/00", "0.0.0.0/032", "0:0:0:0:0:0:0:0/00", "0:0:0:0:0:0:0:0/0128", "0:0:0:0:0:0:0:0/01",
		"10.0.0.0/-8", "10.0.0.0/+8", "0.0.0.0/-0", "0.0.0.0/+0", "0.0.0.0/-1", "0:0:0:0:0:0:0:0/-1", "0:0:0:0:0:0:0:0/-0", "-10.0.0.0/8", "+10.0.0.0/8",
		"0.0.0.0/33", "0.0.0.0/40", "0.0.0.0/64", "0.0.0.0/100", "0.0.0.0/128", "0.0.0.0/129", "0.0.0.0/256", "0.0.0.0/264", "0.0.0.0/65544", "0.0.0.0/4294967304", "0.0.0.0/18446744073709551624",
		"0.0.0.0/340282366920938463463374607431768211464", "0:0:0:0:0:0:0:0/129", "0:0:0:0:0:0:0:0/256", "0:0:0:0:0:0:0:0/1000", "0:0:0:0:0:0:0:0/4294967296", "0:0:0:0:0:0:0:0/18446744073709551616",
		"10.0.0.0/a", "10.0.0.0/8a", "10.0.0.0/a8", "10.0.0.0/0x8", "10.0.0.0/1_6", "10.0.0.0/8.0", "10.0.0.0/8.", "10.0.0.0/.8", "10.0.0.0/1e1", "10.0.0.0/x", "0:0:0:0:0:0:0:0/f", "0:0:0:0:0:0:0:0/1f",
		" 10.0.0.0/8", "10.0.0.0/8 ", "10.0.0.0 /8", "10.0.0.0/ 8", "10.0.0.0/8\n", "10.0.0.0/8\x00", "10.0.0.0/\uff18", "10.0.0.0\uff0f8", "10.0.0.0/8\xff",
		"10.0.0.1/8", "10.128.0.0/8", "10.0.0.255/8", "0.0.0.1/0", "128.0.0.0/0", "255.255.255.255/31", "1.2.3.4/29", "0:0:0:0:0:0:0:1/0", "0:0:0:0:0:0:0:1/127", "2001:db8:0:0:0:0:0:0/28",
		"010.0.0.0/8", "10.0.0/8", "10.0.0.0.0/8", "10/8", "10./8", "256.0.0.0/8", "A:0:0:0:0:0:0:0/16", "00:0:0:0:0:0:0:0/0", "::/0", "2001:db8::/32", "0:0:0:0:0:0:0/0", "0:0:0:0:0:0:0:0:0/0", "0:0:0:0:0:0:0.0.0.0/0",
	} {
		if p, ok := addr.ParsePrefix(s); p != (api.Prefix{}) || ok {
			t.Errorf("ParsePrefix(%q) is %v, %v", s, p, ok)
		}
		if wantParsePrefix(t, s) {
			t.Errorf("%q is a prefix's text by the document's words", s)
		}
	}
}

// P12.4: all texts that come of a prefix's by one change, held against the document's words; some are other prefixes' texts, most are none.
func TestParsePrefixOfNearTexts(t *testing.T) {
	r := draw(56)
	good, none := 0, 0
	for _, a := range goods(57, 15) {
		for range 2 {
			p, _ := slowMask(a, r.IntN(most(a)+1))
			near(slowShowPrefix(p), func(s string) {
				if wantParsePrefix(t, s) {
					good++
				} else {
					none++
				}
			})
		}
	}
	if good < 500 || none < 5000 {
		t.Errorf("%d prefixes, %d texts that are none", good, none)
	}
}

// P12.4: each number up to 1100 behind the /, in several forms.
func TestParsePrefixEachBits(t *testing.T) {
	for _, a := range []string{"0.0.0.0", "255.255.255.255", "10.0.0.0", "0:0:0:0:0:0:0:0", "ffff:ffff:ffff:ffff:ffff:ffff:ffff:ffff", "2001:db8:0:0:0:0:0:0", "", "1.2.3", "::"} {
		for n := range 1100 {
			for _, form := range []string{"%s/%d", "%s/%02d", "%s/%03d", "%s/%04d", "%s/%x", "%s/%o", "%s/-%d", "%s/+%d", "%s/ %d", "%s/%d ", "%s//%d", "%s/%d/", "%s%d", "%s/0/%d"} {
				wantParsePrefix(t, fmt.Sprintf(form, a, n))
			}
		}
	}
}

// P12.4: all short texts behind an address.
func TestParsePrefixOfShortTexts(t *testing.T) {
	for _, a := range []string{"0.0.0.0", "0:0:0:0:0:0:0:0", "8.0.0.0"} {
		var all func(s string, n int)
		all = func(s string, n int) {
			wantParsePrefix(t, a+s)
			if n > 0 {
				for _, x := range []string{"/", "0", "1", "3", "9", "-", "+", " ", ".", ":"} {
					all(s+x, n-1)
				}
			}
		}
		all("", 4)
	}
}

// P12.4: an address's text is no prefix's, and a prefix's is no address's.
func TestNoTextIsBoth(t *testing.T) {
	for _, a := range goods(58, 100) {
		s := slowShow(a)
		if p, ok := addr.ParsePrefix(s); p != (api.Prefix{}) || ok {
			t.Errorf("ParsePrefix(%q) is %v, %v", s, p, ok)
		}
		s = fmt.Sprintf("%s/%d", s, most(a))
		if x, ok := addr.Parse(s); x != (api.Addr{}) || ok {
			t.Errorf("Parse(%q) is %v, %v", s, x, ok)
		}
		wantParsePrefix(t, s)
	}
}

// P12.4: long texts are none, as an address, as Bits, and as both.
func TestParsePrefixOfLongTexts(t *testing.T) {
	for _, s := range longs() {
		for _, x := range []string{s, s + "/8", "10.0.0.0/" + s, "0:0:0:0:0:0:0:0/" + s, s + "/" + s, "10.0.0.0/8/" + s, "10.0.0.0/8" + s, s + "10.0.0.0/8"} {
			if p, ok := addr.ParsePrefix(x); p != (api.Prefix{}) || ok {
				t.Errorf("ParsePrefix of %d bytes, %.50q, is %v, %v", len(x), x, p, ok)
			}
		}
	}
	for _, n := range []int{30, 1000, 1 << 20} {
		if p, ok := addr.ParsePrefix("10.0.0.0/" + strings.Repeat("0", n) + "8"); p != (api.Prefix{}) || ok {
			t.Errorf("%d noughts ahead of Bits: %v, %v", n, p, ok)
		}
	}
}

// P12.4: what ParsePrefix tells, Mask has made: its address is in it, and its own Mask is it.
func TestGoodPrefixes(t *testing.T) {
	r := draw(59)
	for _, a := range append(goods(60, 300), bads(61, 100)...) {
		p := api.Prefix{Addr: a, Bits: r.IntN(140) - 5}
		if r.IntN(2) == 0 {
			p, _ = slowMask(a, r.IntN(most(a)+1))
		}
		m, ok := addr.Mask(p.Addr, p.Bits)
		s := addr.ShowPrefix(p)
		if (s != "") != (ok && m == p) || (s != "") != addr.In(p.Addr, p) {
			t.Errorf("ShowPrefix(%v) is %q, its Mask %v, %v", p, s, m, ok)
		}
		q, ok := addr.ParsePrefix(s)
		if s != "" && (q != p || !ok) || s == "" && (q != (api.Prefix{}) || ok) {
			t.Errorf("ParsePrefix(%q) is %v, %v, not %v", s, q, ok, p)
		}
	}
}
