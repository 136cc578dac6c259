package addr

import "stanchion/api"

// full is a byte of which all bits are 1.
const full byte = 0xff

// Mask is the prefix of a's first bits; false, if there is none.
func Mask(a api.Addr, bits int) (api.Prefix, bool) {
	own := a.B[first(a):]
	if !Good(a) || bits < 0 || bits > 8*len(own) {
		return api.Prefix{}, false
	}
	// Of the first byte that does not count whole some bits may count, of those behind it none.
	counting := bits % 8
	for i := bits / 8; i < len(own); i++ {
		own[i] &^= full >> counting
		counting = 0
	}
	return api.Prefix{Addr: a, Bits: bits}, true
}

// In says whether a begins as p does. Of a prefix that is not good there are none in it.
func In(a api.Addr, p api.Prefix) bool {
	m, ok := Mask(a, p.Bits)
	return ok && m.Addr.Six == p.Addr.Six && m.Addr.B == p.Addr.B
}

// goodPrefix says whether there may be p: its address is what Mask leaves of it.
func goodPrefix(p api.Prefix) bool {
	return In(p.Addr, p)
}
