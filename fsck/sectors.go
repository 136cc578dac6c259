package fsck

import (
	"bytes"

	"stanchion/api"
	"stanchion/dev"
	"stanchion/node"
	"stanchion/page"
	"stanchion/space"
	"stanchion/store"
)

// sectors is the bytes of all sectors of a device. They are read once, whatever speaks of them how often.
type sectors [][]byte

// read is the sectors of d.
func read(d *dev.Device) (sectors, api.Errno) {
	var all sectors
	for no := range d.Len() {
		b, e := d.Read(no)
		if e != api.OK {
			return nil, api.ErrIO
		}
		all = append(all, b)
	}
	return all, api.OK
}

// has is whether there is a sector no.
func (s sectors) has(no int) bool {
	return no >= 0 && no < len(s)
}

// at is the bytes of sector no; none, if there is no such sector.
func (s sectors) at(no int) []byte {
	if !s.has(no) {
		return nil
	}
	return s[no]
}

// superblock is what superblock no says, its generation, and whether it is empty, bad or good.
func (s sectors) superblock(no int) (api.Super, uint64, int) {
	b := s.at(no)
	if isEmpty(b) {
		return api.Super{}, 0, api.SuperEmpty
	}
	u, gen, e := store.ReadSuper(no, b)
	if e != api.OK || !s.has(u.Root) || !s.has(u.Map) {
		return api.Super{}, 0, api.SuperBad
	}
	return u, gen, api.SuperGood
}

// node is the node in page no; false, if that has none such as there is at that height.
func (s sectors) node(no, height int) (api.Node, bool) {
	leaf, kind := height == 1, api.PageInner
	if leaf {
		kind = api.PageLeaf
	}
	body, ok := s.body(no, kind)
	if !ok {
		return api.Node{}, false
	}
	n, e := node.Decode(leaf, body)
	return n, e == api.OK
}

// space is the pages that are taken, as page no says; false, if that is no map of these sectors.
func (s sectors) space(no int) (*space.Space, bool) {
	body, ok := s.body(no, api.PageMap)
	if !ok {
		return nil, false
	}
	pages, e := space.Load(body, len(s))
	return pages, e == api.OK
}

// body is the Body of page no; false, if that is no page of that kind.
func (s sectors) body(no, kind int) ([]byte, bool) {
	p, e := page.Decode(no, s.at(no))
	if e != api.OK || p.Kind != kind {
		return nil, false
	}
	return p.Body, true
}

// isEmpty is whether b has bytes 0 alone. So has a sector that is not there: nothing of it is spoilt.
func isEmpty(b []byte) bool {
	return len(bytes.Trim(b, "\x00")) == 0
}
