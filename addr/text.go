package addr

import (
	"strconv"
	"strings"

	"stanchion/api"
	"stanchion/num"
)

// longest is how many bytes an address's text has at most: eight numbers of four digits, seven colons.
const longest = 39

// style is how addresses of a kind are written: numbers of size bytes, with a mark between, in digits of a base.
type style struct {
	mark       string
	size, base int
}

func styleOf(six bool) style {
	if six {
		return style{mark: ":", size: 2, base: 16}
	}
	return style{mark: ".", size: 1, base: 10}
}

// Show is a's text; empty, if it is not good.
func Show(a api.Addr) string {
	if !Good(a) {
		return ""
	}
	return styleOf(a.Six).show(Bytes(a))
}

// Parse is the address whose Show is s; false, if there is none.
func Parse(s string) (api.Addr, bool) {
	if len(s) > longest {
		return api.Addr{}, false
	}
	six := strings.Contains(s, styleOf(true).mark)
	a, ok := Of(styleOf(six).read(s))
	// Other digits, or too many or too few numbers, may be read too: Show alone tells how an address is written.
	if !ok || Show(a) != s {
		return api.Addr{}, false
	}
	return a, true
}

// ShowPrefix is p's text; empty, if it is not good.
func ShowPrefix(p api.Prefix) string {
	if !goodPrefix(p) {
		return ""
	}
	return Show(p.Addr) + "/" + strconv.Itoa(p.Bits)
}

// ParsePrefix is the prefix whose ShowPrefix is s; false, if there is none.
func ParsePrefix(s string) (api.Prefix, bool) {
	ahead, behind, _ := strings.Cut(s, "/")
	a, ok := Parse(ahead)
	bits, err := strconv.Atoi(behind)
	p := api.Prefix{Addr: a, Bits: bits}
	if !ok || err != nil || ShowPrefix(p) != s {
		return api.Prefix{}, false
	}
	return p, true
}

// show is the text of b's numbers.
func (st style) show(b []byte) string {
	var l []string
	for at := 0; at < len(b); at += st.size {
		n, _ := num.Get(b, at, st.size)
		l = append(l, strconv.FormatUint(n, st.base))
	}
	return strings.Join(l, st.mark)
}

// read is the bytes of the numbers that s says; none, if a part of it is no such number.
func (st style) read(s string) []byte {
	var b []byte
	for _, part := range strings.Split(s, st.mark) {
		n, err := strconv.ParseUint(part, st.base, 8*st.size)
		if err != nil {
			return nil
		}
		b = num.Put(b, n, st.size)
	}
	return b
}
