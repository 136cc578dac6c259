package ipsix

import "stanchion/api"

// The kinds of heads that stand between.
const (
	hopByHop    = 0 // stands ahead of all others
	routing     = 43
	fragment    = 44
	destination = 60
)

// Where the fields of a head between lie.
const (
	nextAt = 0
	moreAt = 1 // of how many units it has, more than one
	partAt = 2
)

const (
	unit     = 8      // how many bytes a head between has at least, and its size is counted in
	partBits = 0xfff9 // all but those that tell nothing
)

// path is a packet's head, as far as it was read: of what is carried, and from where on, it says what the last head that was passed told.
type path struct {
	api.Head
	rest   []byte // the packet from At on
	passed int    // how many heads between
}

// walk passes all heads between.
func (p *path) walk() api.Errno {
	for between(p.Proto) {
		if p.passed == api.MaxExtra {
			return api.ErrLong
		}
		if p.Proto == hopByHop && p.passed > 0 {
			return api.ErrForm
		}
		if e := p.pass(); e != api.OK {
			return e
		}
	}
	return api.OK
}

// pass passes a head between.
func (p *path) pass() api.Errno {
	if len(p.rest) < unit {
		return api.ErrShort
	}
	size := unit
	if p.Proto == fragment {
		p.Part = p.Part || number(p.rest, partAt)&partBits != 0
	} else {
		size += unit * int(p.rest[moreAt])
	}
	if len(p.rest) < size {
		return api.ErrShort
	}
	p.Proto = p.rest[nextAt]
	p.At += size
	p.rest = p.rest[size:]
	p.passed++
	return api.OK
}

// between says whether a head of that kind stands between, so that it tells what is carried behind it.
func between(proto byte) bool {
	switch proto {
	case hopByHop, routing, fragment, destination:
		return true
	}
	return false
}
