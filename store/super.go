package store

import (
	"bytes"

	"stanchion/api"
	"stanchion/dev"
	"stanchion/num"
	"stanchion/page"
)

// The fields of a superblock's Body, in their order.
const (
	rootField = iota
	heightField
	mapField
	sectorsField
	clockField
	groupsField
	keysField
)

// sizes is how many bytes each of these has.
var sizes = [...]int{4, 1, 4, 4, 8, 8, 4}

// superblock is what a superblock says, and in which sector it lies.
type superblock struct {
	api.Super
	sectors int
	gen     uint64
	no      int
}

// ReadSuper is what the superblock b says, which was read from sector no, and its generation.
func ReadSuper(no int, b []byte) (api.Super, uint64, api.Errno) {
	x, e := readSuper(no, b)
	return x.Super, x.gen, e
}

// readSuper is the superblock b, which was read from sector no.
func readSuper(no int, b []byte) (superblock, api.Errno) {
	p, e := page.Decode(no, b)
	if e != api.OK {
		return superblock{}, e
	}
	values, ok := fields(p.Body)
	if p.Kind != api.PageSuper || !ok {
		return superblock{}, api.ErrForm
	}
	x := superblock{
		Super: api.Super{
			Root:   int(values[rootField]),
			Height: int(values[heightField]),
			Map:    int(values[mapField]),
			Clock:  values[clockField],
			Groups: values[groupsField],
			Keys:   int(values[keysField]),
		},
		sectors: int(values[sectorsField]),
		gen:     p.Gen,
		no:      no,
	}
	if !x.holdsTogether() {
		return superblock{}, api.ErrForm
	}
	return x, api.OK
}

// fields is the numbers that body says; false, if that has not just as many bytes as they need.
func fields(body []byte) (values [len(sizes)]uint64, ok bool) {
	at := 0
	for i, size := range sizes {
		values[i], _ = num.Get(body, at, size)
		at += size
	}
	return values, at == len(body)
}

// holdsTogether is whether there may be a device and a tree as x says.
func (x superblock) holdsTogether() bool {
	return x.sectors <= api.MaxSectors &&
		x.Map >= firstMap && x.Map < x.sectors &&
		x.Root < x.sectors && x.Height <= api.MaxHeight && (x.Root == 0) == (x.Height == 0)
}

// body is the Body of x's page.
func (x superblock) body() []byte {
	values := [len(sizes)]uint64{
		rootField:    uint64(x.Root),
		heightField:  uint64(x.Height),
		mapField:     uint64(x.Map),
		sectorsField: uint64(x.sectors),
		clockField:   x.Clock,
		groupsField:  x.Groups,
		keysField:    uint64(x.Keys),
	}
	var b []byte
	for i, n := range values {
		b = num.Put(b, n, sizes[i])
	}
	return b
}

// write lets x last on d. All that it speaks of has to last ahead of that.
func (x superblock) write(d *dev.Device) api.Errno {
	if e := d.Write(x.no, x.encoded(x.no, api.PageSuper, x.body())); e != api.OK {
		return e
	}
	return d.Flush()
}

// mapPage is the bytes of the map that x speaks of, which says taken.
func (x superblock) mapPage(taken []byte) []byte {
	return x.encoded(x.Map, api.PageMap, taken)
}

// encoded is the bytes of a page of x's generation. Neither a superblock's nor a map's Body is ever too long.
func (x superblock) encoded(no, kind int, body []byte) []byte {
	b, _ := page.Encode(no, api.Page{Kind: kind, Gen: x.gen, Body: body})
	return b
}

// superblocks is those that d has, the one of the greater generation first.
func superblocks(d *dev.Device) ([]superblock, api.Errno) {
	// Both are read ahead of a look at either: that one can't be read comes first.
	var read [supers][]byte
	for no := range read {
		b, e := d.Read(no)
		if e != api.OK {
			return nil, e
		}
		read[no] = b
	}
	var found []superblock
	for no, b := range read {
		if bytes.Equal(b, empty()) {
			continue
		}
		x, e := readSuper(no, b)
		if e != api.OK {
			return nil, e
		}
		if x.sectors != d.Len() {
			return nil, api.ErrForm
		}
		found = append(found, x)
	}
	switch {
	case len(found) == 0:
		return nil, api.ErrNone
	case len(found) == supers && found[1].gen > found[0].gen:
		found[0], found[1] = found[1], found[0]
	}
	return found, api.OK
}

// empty is the bytes of a sector that has no superblock.
func empty() []byte {
	return make([]byte, api.Sector)
}
