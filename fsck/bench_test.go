package fsck_test

import (
	"encoding/binary"
	"fmt"
	"reflect"
	"slices"
	"testing"
	"unsafe"

	"stanchion/api"
	"stanchion/dev"
	"stanchion/fsck"
	"stanchion/node"
	"stanchion/page"
)

// disk is a device that is laid by hand, past the store.
type disk struct {
	t testing.TB
	d *dev.Device
}

// blank is a disk of bytes 0.
func blank(t testing.TB, sectors int) disk {
	t.Helper()
	d, e := dev.New(sectors)
	if e != api.OK {
		t.Fatal(e)
	}
	return disk{t, d}
}

// small is a disk of fewer sectors than dev.New makes: one that has lost all others.
func small(t testing.TB, sectors int) disk {
	t.Helper()
	x := blank(t, api.MinSectors)
	f := reflect.ValueOf(x.d).Elem().FieldByName("lasts")
	reflect.NewAt(f.Type(), unsafe.Pointer(f.UnsafeAddr())).Elem().SetLen(sectors)
	if n := x.d.Len(); n != sectors {
		t.Fatalf("there are %d sectors, not %d", n, sectors)
	}
	return x
}

// sector is the bytes that sector no has.
func (x disk) sector(no int) []byte {
	x.t.Helper()
	b, e := x.d.Read(no)
	if e != api.OK {
		x.t.Fatalf("sector %d is %v", no, e)
	}
	return b
}

// lay gives sector no the bytes b, which last.
func (x disk) lay(no int, b []byte) {
	x.t.Helper()
	if e := x.d.Write(no, b); e != api.OK {
		x.t.Fatal(e)
	}
	if e := x.d.Flush(); e != api.OK {
		x.t.Fatal(e)
	}
}

// page lays p in sector no, as the page as, which is no as a rule.
func (x disk) page(no, as int, p api.Page) {
	x.t.Helper()
	b, e := page.Encode(as, p)
	if e != api.OK {
		x.t.Fatal(e)
	}
	x.lay(no, b)
}

// leaf lays a leaf of so many keys in page no.
func (x disk) leaf(no, keys int) {
	x.t.Helper()
	x.page(no, no, api.Page{Kind: api.PageLeaf, Gen: 1, Body: leaf(keys)})
}

// inner lays a node of these kids in page no.
func (x disk) inner(no int, kids ...int) {
	x.t.Helper()
	x.page(no, no, api.Page{Kind: api.PageInner, Gen: 1, Body: inner(kids...)})
}

// held lays a map of the whole disk in page no, which says that these are taken.
func (x disk) held(no int, taken ...int) {
	x.t.Helper()
	x.page(no, no, api.Page{Kind: api.PageMap, Gen: 1, Body: bits(x.d.Len(), taken...)})
}

// super lays u in sector no.
func (x disk) super(no int, u super) {
	x.t.Helper()
	x.page(no, no, u.page())
}

// empties is bytes 0 in sector no.
func (x disk) empties(no int) {
	x.t.Helper()
	x.lay(no, make([]byte, api.Sector))
}

// is holds the look at x, and what the chapter's words come to, against want; and that each sector is read just once, and nothing is written.
func (x disk) is(want api.Look) {
	x.t.Helper()
	if m := x.model(); m != want {
		x.t.Errorf("the model says %+v, not %+v", m, want)
	}
	x.told(want)
}

// told holds the look at x against want; and that each sector is read just once, and nothing is written.
func (x disk) told(want api.Look) {
	x.t.Helper()
	all, waiting, writes := x.all(), x.d.Waiting(), x.d.Writes()
	x.d.Fail(api.FailRead, x.d.Len())
	l, e := fsck.Look(x.d)
	if l != want || e != api.OK {
		x.t.Errorf("Look is %+v, %v, not %+v", l, e, want)
	}
	if _, e := x.d.Read(0); e != api.ErrIO && x.d.Len() > 0 {
		x.t.Error("more sectors are read, or fewer, than there are")
	}
	if !slices.Equal(waiting, x.d.Waiting()) || x.d.Writes() != writes || x.all() != all {
		x.t.Error("Look writes")
	}
	clean := want.Newest >= 0 && want.Super[0] != api.SuperBad && want.Super[1] != api.SuperBad && want.Lost == 0 && want.Wild == 0 && want.Bad == 0
	if fsck.Clean(l) != clean {
		x.t.Errorf("Clean of %+v is not %v", l, clean)
	}
}

// all is the bytes of all sectors.
func (x disk) all() string {
	x.t.Helper()
	var b []byte
	for no := range x.d.Len() {
		b = append(b, x.sector(no)...)
	}
	return string(b)
}

// super is a superblock, in the document's words; longer is by how many bytes its Body is too long, less is by how many too short.
type super struct {
	root, height, mapAt, sectors, keys int
	gen                                uint64
	kind, longer, less                 int
}

// page is the page that says it.
func (u super) page() api.Page {
	b := binary.BigEndian.AppendUint32(nil, uint32(u.root))
	b = append(b, byte(u.height))
	b = binary.BigEndian.AppendUint32(b, uint32(u.mapAt))
	b = binary.BigEndian.AppendUint32(b, uint32(u.sectors))
	b = binary.BigEndian.AppendUint64(b, 77)
	b = binary.BigEndian.AppendUint64(b, 9)
	b = binary.BigEndian.AppendUint32(b, uint32(u.keys))
	b = append(b[:len(b)-u.less], make([]byte, u.longer)...)
	return api.Page{Kind: max(u.kind, api.PageLeaf), Gen: u.gen, Body: b}
}

// newer is a superblock of the generation 8, of a disk of 40 sectors, whose map is page 39.
func newer(root, height int) super {
	return super{root: root, height: height, mapAt: 39, sectors: 40, gen: 8, kind: api.PageSuper}
}

// with is u as change changes it.
func (u super) with(change func(u *super)) super {
	change(&u)
	return u
}

// key is the key i: they rise with i.
func key(i int) []byte {
	return fmt.Appendf(nil, "%02d", i)
}

// leaf is the Body of a leaf of so many keys.
func leaf(keys int) []byte {
	n := api.Node{Leaf: true}
	for i := range keys {
		n.Keys, n.Vals = append(n.Keys, key(i)), append(n.Vals, []byte("v"))
	}
	return body(n)
}

// inner is the Body of a node of these kids.
func inner(kids ...int) []byte {
	n := api.Node{Kids: kids}
	for i := range kids[1:] {
		n.Keys = append(n.Keys, key(i))
	}
	return body(n)
}

// body is n's bytes.
func body(n api.Node) []byte {
	b, e := node.Encode(n)
	if e != api.OK {
		panic(e)
	}
	return b
}

// bits is a bit for each of n pages: whether it is one of these.
func bits(n int, pages ...int) []byte {
	b := make([]byte, (n+7)/8)
	for _, no := range pages {
		b[no/8] |= 1 << (no % 8)
	}
	return b
}

// to is the numbers from a to b.
func to(a, b int) []int {
	var l []int
	for i := a; i <= b; i++ {
		l = append(l, i)
	}
	return l
}
