package store_test

import (
	"bytes"
	"encoding/binary"
	"fmt"
	"hash/crc32"
	"maps"
	"slices"
	"testing"

	"stanchion/api"
	"stanchion/dev"
	"stanchion/node"
	"stanchion/page"
	"stanchion/store"
)

// moment is what some groups made, and the time at which the last of them was committed.
type moment struct {
	model map[string]string
	clock uint64
}

// bench is a store, the device below it, and what the document says of it after the same calls.
type bench struct {
	t testing.TB
	d *dev.Device
	l api.Limits
	s *store.Store
	// model is what there is with all changes.
	model map[string]string
	// made is what the first k groups made, by k.
	made    []moment
	clock   uint64
	pending int
	// first is when the first of the changes came that are pending.
	first uint64
}

// few is limits that are soon reached.
var few = api.Limits{Frames: 8, Batch: 4, Delay: 10}

// slow is limits by which nothing is committed but by a Sync.
var slow = api.Limits{Frames: 8, Batch: api.MaxBatch, Delay: api.MaxDelay}

// device is a new one.
func device(t testing.TB, sectors int) *dev.Device {
	t.Helper()
	d, e := dev.New(sectors)
	if e != api.OK {
		t.Fatal(e)
	}
	return d
}

// laid is an empty store.
func laid(t testing.TB, sectors int, l api.Limits) *bench {
	t.Helper()
	x := &bench{t: t, d: device(t, sectors), l: l, model: map[string]string{}}
	s, e := store.Format(x.d, l)
	if s == nil || e != api.OK {
		t.Fatalf("Format is %v, %v", s, e)
	}
	x.s = s
	x.made = []moment{{map[string]string{}, 0}}
	return x
}

// filled is a store with so many keys, committed in few groups.
func filled(t testing.TB, sectors, keys int, l api.Limits) *bench {
	t.Helper()
	x := laid(t, sectors, l)
	for i := range keys {
		x.put(long(i), value(i))
	}
	x.sync()
	return x
}

// mount lets the store be what Mount finds, which must be what was committed last.
func (x *bench) mount() {
	x.t.Helper()
	s, e := store.Mount(x.d, x.l)
	if s == nil || e != api.OK {
		x.t.Fatalf("Mount is %v, %v", s, e)
	}
	x.s = s
	x.back()
}

// back lets the model be what was committed last, as a Mount finds it.
func (x *bench) back() {
	last := x.made[len(x.made)-1]
	x.model, x.clock, x.pending = maps.Clone(last.model), last.clock, 0
}

// group is a commit.
func (x *bench) group() {
	x.made = append(x.made, moment{maps.Clone(x.model), x.clock})
	x.pending = 0
}

// change is one more change.
func (x *bench) change() {
	if x.pending == 0 {
		x.first = x.clock
	}
	if x.pending++; x.pending >= x.l.Batch {
		x.group()
	}
}

// put is a Put that must be done.
func (x *bench) put(key, val string) {
	x.t.Helper()
	if e := x.s.Put([]byte(key), []byte(val)); e != api.OK {
		x.t.Fatalf("Put(%q, %q) is %v", key, val, e)
	}
	x.model[key] = val
	x.change()
}

// del is a Delete that must be done, or find nothing.
func (x *bench) del(key string) {
	x.t.Helper()
	_, was := x.model[key]
	if ok, e := x.s.Delete([]byte(key)); ok != was || e != api.OK {
		x.t.Fatalf("Delete(%q) is %v, %v, not %v", key, ok, e, was)
	}
	if was {
		delete(x.model, key)
		x.change()
	}
}

// tick is a Tick that must be done.
func (x *bench) tick(now uint64) {
	x.t.Helper()
	if e := x.s.Tick(now); e != api.OK {
		x.t.Fatalf("Tick(%d) is %v", now, e)
	}
	x.clock = max(x.clock, now)
	if x.pending > 0 && x.clock-x.first >= x.l.Delay {
		x.group()
	}
}

// sync is a Sync that must be done.
func (x *bench) sync() {
	x.t.Helper()
	if e := x.s.Sync(); e != api.OK {
		x.t.Fatalf("Sync is %v", e)
	}
	x.group()
}

// counts holds what the store tells without its pages against the model.
func (x *bench) counts() {
	x.t.Helper()
	if n := x.s.Keys(); n != len(x.model) {
		x.t.Fatalf("Keys is %d, not %d", n, len(x.model))
	}
	if n := x.s.Now(); n != x.clock {
		x.t.Fatalf("Now is %d, not %d", n, x.clock)
	}
	if n := x.s.Pending(); n != x.pending {
		x.t.Fatalf("Pending is %d, not %d", n, x.pending)
	}
	if x.s.Failed() {
		x.t.Fatal("the store failed")
	}
	x.super()
}

// super holds what was committed last against the model.
func (x *bench) super() {
	x.t.Helper()
	last := x.made[len(x.made)-1]
	u := x.s.Super()
	if u.Clock != last.clock || u.Groups != uint64(len(x.made)-1) || u.Keys != len(last.model) {
		x.t.Fatalf("Super is %+v: not of %d, %d, %d", u, last.clock, len(x.made)-1, len(last.model))
	}
}

// tells holds all that the store tells against the model.
func (x *bench) tells() {
	x.t.Helper()
	x.counts()
	x.has(x.model)
	if e := x.s.Check(); e != api.OK {
		x.t.Fatalf("Check is %v", e)
	}
}

// has holds what the store has against m.
func (x *bench) has(m map[string]string) {
	x.t.Helper()
	l, e := x.s.Scan(nil, nil, 1<<30)
	if e != api.OK || !samePairs(l, pairs(m)) {
		x.t.Fatalf("Scan is %q, %v, not %q", l, e, pairs(m))
	}
	for key, want := range m {
		if val, ok, e := x.s.Get([]byte(key)); !ok || string(val) != want || e != api.OK {
			x.t.Fatalf("Get(%q) is %q, %v, %v, not %q", key, val, ok, e, want)
		}
	}
	for _, key := range []string{"", "no such key", long(0) + "k"} {
		if val, ok, e := x.s.Get([]byte(key)); ok || len(val) > 0 || e != api.OK {
			x.t.Fatalf("Get(%q) is %q, %v, %v", key, val, ok, e)
		}
	}
}

// lasts holds what the device has, read past the store, against the model.
func (x *bench) lasts() {
	x.t.Helper()
	k := len(x.made) - 1
	last := x.made[k]
	u, m := look(x.t, x.d)
	if u.gen != uint64(k+1) || u.groups != uint64(k) || u.clock != last.clock || u.keys != uint32(len(last.model)) {
		x.t.Fatalf("the superblock is %+v: not of group %d at %d, with %d keys", u, k, last.clock, len(last.model))
	}
	if !maps.Equal(m, last.model) {
		x.t.Fatalf("the device has %q, not %q", m, last.model)
	}
	want := api.Super{Root: int(u.root), Height: int(u.height), Map: int(u.mapAt), Clock: u.clock, Groups: u.groups, Keys: int(u.keys)}
	if s := x.s.Super(); s != want {
		x.t.Fatalf("Super is %+v, not %+v", s, want)
	}
	if l := x.d.Waiting(); k > 0 && x.pending == 0 && len(l) > 0 {
		x.t.Fatalf("the sectors %v wait", l)
	}
}

// super is a superblock, in the document's words.
type super struct {
	root            uint32
	height          byte
	mapAt, sectors  uint32
	clock, groups   uint64
	keys            uint32
	gen             uint64
	no              int
	kind            byte
	shorter, longer int
}

// body is its Body.
func (u super) body() []byte {
	b := binary.BigEndian.AppendUint32(nil, u.root)
	b = append(b, u.height)
	b = binary.BigEndian.AppendUint32(b, u.mapAt)
	b = binary.BigEndian.AppendUint32(b, u.sectors)
	b = binary.BigEndian.AppendUint64(b, u.clock)
	b = binary.BigEndian.AppendUint64(b, u.groups)
	b = binary.BigEndian.AppendUint32(b, u.keys)
	b = b[:len(b)-u.shorter]
	return append(b, make([]byte, u.longer)...)
}

// bytes is its sector.
func (u super) bytes() []byte {
	return sector(u.no, u.kind, u.gen, u.body())
}

// sector is a page's bytes, by the words of chapter 4.
func sector(no int, kind byte, gen uint64, body []byte) []byte {
	b := append([]byte("STNC"), 1, kind)
	b = binary.BigEndian.AppendUint16(b, uint16(len(body)))
	b = binary.BigEndian.AppendUint32(b, uint32(no))
	b = binary.BigEndian.AppendUint64(b, gen)
	rest := make([]byte, 232)
	copy(rest, body)
	sum := crc32.Checksum(append(bytes.Clone(b), rest...), crc32.MakeTable(crc32.Castagnoli))
	return append(binary.BigEndian.AppendUint32(b, sum), rest...)
}

// good is a superblock of an empty store of 40 sectors.
func good() super {
	return super{mapAt: 2, sectors: 40, gen: 1, no: 1, kind: api.PageSuper}
}

// parsed is the superblock of these bytes, which must be one.
func parsed(t testing.TB, no int, b []byte) super {
	t.Helper()
	n := b[24:]
	u := super{
		root:    binary.BigEndian.Uint32(n),
		height:  n[4],
		mapAt:   binary.BigEndian.Uint32(n[5:]),
		sectors: binary.BigEndian.Uint32(n[9:]),
		clock:   binary.BigEndian.Uint64(n[13:]),
		groups:  binary.BigEndian.Uint64(n[21:]),
		keys:    binary.BigEndian.Uint32(n[29:]),
		gen:     binary.BigEndian.Uint64(b[12:]),
		no:      no,
		kind:    api.PageSuper,
	}
	if !bytes.Equal(u.bytes(), b) {
		t.Fatalf("sector %d is no superblock: %x", no, b)
	}
	return u
}

// read is what sector no of d has.
func read(t testing.TB, d *dev.Device, no int) []byte {
	t.Helper()
	b, e := d.Read(no)
	if e != api.OK {
		t.Fatalf("sector %d is %v", no, e)
	}
	return b
}

// write gives sector no of d the bytes b, which last.
func write(t testing.TB, d *dev.Device, no int, b []byte) {
	t.Helper()
	if e := d.Write(no, b); e != api.OK {
		t.Fatal(e)
	}
	if e := d.Flush(); e != api.OK {
		t.Fatal(e)
	}
}

// look is the newest superblock of d, and what its tree has, read past the store; all must be as P9.1 says.
func look(t testing.TB, d *dev.Device) (super, map[string]string) {
	t.Helper()
	var u super
	for no := range 2 {
		if b := read(t, d, no); !bytes.Equal(b, make([]byte, 256)) {
			v := parsed(t, no, b)
			if v.gen%2 != uint64(no) || int(v.sectors) != d.Len() {
				t.Fatalf("sector %d has %+v", no, v)
			}
			if v.gen > u.gen {
				u = v
			}
		}
	}
	if u.gen == 0 {
		t.Fatal("there is no superblock")
	}
	m := map[string]string{}
	pages := walk(t, d, u, int(u.root), int(u.height), m)
	used := append(pages, 0, 1, int(u.mapAt))
	if got := taken(t, d, u); !bytes.Equal(got, bits(d.Len(), used)) {
		t.Fatalf("%x is taken, not %v", got, used)
	}
	return u, m
}

// walk puts all pairs of the tree of root and height into m, and tells its pages.
func walk(t testing.TB, d *dev.Device, u super, root, height int, m map[string]string) []int {
	t.Helper()
	if height == 0 {
		return nil
	}
	p, e := page.Decode(root, read(t, d, root))
	if e != api.OK || p.Gen > u.gen || p.Gen < 2 {
		t.Fatalf("page %d is %+v, %v, in generation %d", root, p, e, u.gen)
	}
	want := api.PageInner
	if height == 1 {
		want = api.PageLeaf
	}
	n, e := node.Decode(height == 1, p.Body)
	if e != api.OK || p.Kind != want {
		t.Fatalf("page %d is no node, or of kind %d", root, p.Kind)
	}
	pages := []int{root}
	for i := range n.Vals {
		m[string(n.Keys[i])] = string(n.Vals[i])
	}
	for _, kid := range n.Kids {
		pages = append(pages, walk(t, d, u, kid, height-1, m)...)
	}
	return pages
}

// taken is the Body of u's map.
func taken(t testing.TB, d *dev.Device, u super) []byte {
	t.Helper()
	b := read(t, d, int(u.mapAt))
	size := int(binary.BigEndian.Uint16(b[6:]))
	body := b[24 : 24+size]
	if !bytes.Equal(b, sector(int(u.mapAt), api.PageMap, u.gen, body)) {
		t.Fatalf("sector %d is no map of generation %d", u.mapAt, u.gen)
	}
	return body
}

// bits is a bit for each of n pages: whether it is one of these.
func bits(n int, pages []int) []byte {
	b := make([]byte, (n+7)/8)
	for _, no := range pages {
		b[no/8] |= 1 << (no % 8)
	}
	return b
}

// pairs is what m has, by rising keys.
func pairs(m map[string]string) []api.Pair {
	var l []api.Pair
	for _, key := range slices.Sorted(maps.Keys(m)) {
		l = append(l, api.Pair{Key: []byte(key), Val: []byte(m[key])})
	}
	return l
}

func samePairs(a, b []api.Pair) bool {
	return slices.EqualFunc(a, b, func(p, q api.Pair) bool {
		return bytes.Equal(p.Key, q.Key) && bytes.Equal(p.Val, q.Val)
	})
}

// long is key i, as long as may be.
func long(i int) string {
	return fmt.Sprintf("key %04d, as long as may", i)
}

// value is a value, as long as may be.
func value(i int) string {
	return fmt.Sprintf("value %04d, long as may!", i)
}
