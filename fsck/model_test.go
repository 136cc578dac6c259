package fsck_test

import (
	"bytes"
	"encoding/binary"
	"hash/crc32"
	"slices"

	"stanchion/api"
)

// model is what the words of the chapters 4, 7, 9 and 10 come to, byte by byte.
func (x disk) model() api.Look {
	x.t.Helper()
	l := api.Look{Newest: -1}
	var u [2]rawSuper
	for no := range min(2, x.d.Len()) {
		b := x.sector(no)
		if bytes.Equal(b, make([]byte, 256)) {
			continue
		}
		var ok bool
		if u[no], ok = superOf(no, b); !ok || u[no].root >= x.d.Len() || u[no].mapAt >= x.d.Len() {
			l.Super[no] = api.SuperBad
			continue
		}
		l.Super[no], l.Gen[no] = api.SuperGood, u[no].gen
	}
	switch good := [2]bool{l.Super[0] == api.SuperGood, l.Super[1] == api.SuperGood}; {
	case good[0] && (!good[1] || l.Gen[0] >= l.Gen[1]):
		l.Newest = 0
	case good[1]:
		l.Newest = 1
	default:
		return l
	}
	newest := u[l.Newest]
	pages := x.walk(&l, newest)
	x.compare(&l, newest.mapAt, append(pages, 0, 1, newest.mapAt))
	return l
}

// walk counts the pages of u's tree, and tells them.
func (x disk) walk(l *api.Look, u rawSuper) []int {
	type place struct{ no, height int }
	var pages, met []int
	list := []place{{u.root, u.height}}
	if u.height == 0 {
		list = nil
	}
	for i := 0; i < len(list); i++ {
		no, height := list[i].no, list[i].height
		again := slices.Contains(met, no)
		met = append(met, no)
		if again || no >= x.d.Len() {
			l.Bad++
			continue
		}
		p, ok := pageOf(no, x.sector(no))
		if !ok || height == 1 && p.kind != api.PageLeaf || height > 1 && p.kind != api.PageInner {
			l.Bad++
			continue
		}
		keys, kids, ok := nodeOf(height == 1, p.body)
		if !ok {
			l.Bad++
			continue
		}
		pages = append(pages, no)
		l.Pages++
		if height == 1 {
			l.Keys += keys
		}
		for _, kid := range kids {
			list = append(list, place{kid, height - 1})
		}
	}
	return pages
}

// compare counts what is taken otherwise than own says.
func (x disk) compare(l *api.Look, mapAt int, own []int) {
	p, ok := pageOf(mapAt, x.sector(mapAt))
	n := x.d.Len()
	if !ok || p.kind != api.PageMap || len(p.body) != (n+7)/8 {
		l.Bad++
		return
	}
	for no := n; no < 8*len(p.body); no++ {
		if p.body[no/8]>>(no%8)&1 == 1 {
			l.Bad++
			return
		}
	}
	for no := range n {
		taken := p.body[no/8]>>(no%8)&1 == 1
		switch is := slices.Contains(own, no); {
		case taken && !is:
			l.Lost++
		case !taken && is:
			l.Wild++
		}
	}
}

// raw is what a page says.
type raw struct {
	kind int
	gen  uint64
	body []byte
}

// pageOf is the page no that b says, by the words of chapter 4.
func pageOf(no int, b []byte) (raw, bool) {
	sum := crc32.Checksum(slices.Concat(b[:20], b[24:]), crc32.MakeTable(crc32.Castagnoli))
	size := int(binary.BigEndian.Uint16(b[6:]))
	if string(b[:4]) != "STNC" || b[4] != 1 || binary.BigEndian.Uint32(b[20:]) != sum || b[5] < 1 || b[5] > 4 || size > 232 {
		return raw{}, false
	}
	if len(bytes.TrimRight(b[24+size:], "\x00")) > 0 || binary.BigEndian.Uint32(b[8:]) != uint32(no) {
		return raw{}, false
	}
	return raw{int(b[5]), binary.BigEndian.Uint64(b[12:]), b[24 : 24+size]}, true
}

// rawSuper is what a superblock says, but for what plays no part.
type rawSuper struct {
	root, height, mapAt int
	gen                 uint64
}

// superOf is the superblock no that b says, by the words of chapter 9.
func superOf(no int, b []byte) (rawSuper, bool) {
	p, ok := pageOf(no, b)
	if !ok || p.kind != api.PageSuper || len(p.body) != 33 {
		return rawSuper{}, false
	}
	four := func(at int) int { return int(binary.BigEndian.Uint32(p.body[at:])) }
	root, height, mapAt, sectors := four(0), int(p.body[4]), four(5), four(9)
	if (root == 0) != (height == 0) || height > 12 || sectors > 1600 || root >= sectors || mapAt >= sectors || mapAt < 2 {
		return rawSuper{}, false
	}
	return rawSuper{root, height, mapAt, p.gen}, true
}

// nodeOf is how many keys, and which kids, the node b says, by the words of chapter 7.
func nodeOf(leaf bool, b []byte) (keys int, kids []int, ok bool) {
	// Behind the end stand bytes that nothing may reach.
	end := len(b)
	b = slices.Concat(b, make([]byte, 2000))
	count, at := int(b[0]), 1
	kid := func() {
		kids = append(kids, int(binary.BigEndian.Uint16(b[at:])))
		at += 2
	}
	if !leaf {
		kid()
	}
	last := ""
	for range count {
		if at >= end {
			return 0, nil, false
		}
		size := int(b[at])
		key := string(b[at+1 : at+1+size])
		if size < 1 || size > 24 || key <= last {
			return 0, nil, false
		}
		last = key
		at += 1 + size
		if !leaf {
			kid()
			continue
		}
		if b[at] > 24 {
			return 0, nil, false
		}
		at += 1 + int(b[at])
	}
	if at != end || !leaf && count == 0 {
		return 0, nil, false
	}
	for _, no := range kids {
		if no >= 1600 {
			return 0, nil, false
		}
	}
	return count, kids, true
}
