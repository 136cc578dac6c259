package tree_test

import (
	"bytes"
	"fmt"
	"maps"
	"math/rand"
	"slices"
	"strings"
	"testing"

	"stanchion/api"
	"stanchion/node"
	"stanchion/page"
	"stanchion/tree"
)

// contents is the bytes of these pages.
func (x *bench) contents(pages []int) map[int]string {
	x.t.Helper()
	m := map[int]string{}
	for _, no := range pages {
		b, e := x.c.Get(no)
		if e != api.OK {
			x.t.Fatalf("page %d is %v", no, e)
		}
		m[no] = string(b)
	}
	return m
}

// puts makes a change where nothing is dirty, in a cache that has a frame for each page, and holds what becomes of pages against P8.4.
func (x *bench) puts(change func()) {
	x.t.Helper()
	if e := x.c.Sync(); e != api.OK {
		x.t.Fatal(e)
	}
	pages, _ := x.shape(x.tree.Root())
	before, used, writes := x.contents(pages), x.s.Used(), x.d.Writes()
	fresh := map[int]bool{}
	for _, no := range pages {
		fresh[no] = x.s.Fresh(no)
	}
	change()
	if n := x.d.Writes(); n != writes {
		x.t.Fatalf("%d Writes were done", n-writes)
	}
	dirty, held := x.c.Dirty(), x.c.Held()
	for _, no := range dirty {
		if slices.Contains(used, no) {
			x.t.Fatalf("page %d, which was there, was written", no)
		}
	}
	now, _ := x.shape(x.tree.Root())
	for _, no := range now {
		if !slices.Contains(pages, no) && (slices.Contains(used, no) || !slices.Contains(dirty, no)) {
			x.t.Fatalf("page %d is the tree's now, but was taken, or was not put", no)
		}
	}
	for _, no := range pages {
		there := slices.Contains(now, no)
		if x.s.Taken(no) != there {
			x.t.Fatalf("page %d is taken: %v, the tree's: %v", no, !there, there)
		}
		if keep := there || !fresh[no]; slices.Contains(held, no) != keep {
			x.t.Fatalf("page %d, the tree's: %v, which was fresh: %v, is held: %v", no, there, fresh[no], !keep)
		} else if keep && x.contents([]int{no})[no] != before[no] {
			x.t.Fatalf("page %d has changed", no)
		}
	}
}

// P8.4: no page is written that was there; those that are the tree's no more are freed, and dropped, if they were fresh.
func TestPages(t *testing.T) {
	for seed := range 8 {
		r := rand.New(rand.NewSource(int64(seed)))
		x := laid(t, 200, 64)
		for i := range 600 {
			k := long(r.Intn(100))
			if len(x.model) > 70 || r.Intn(5) < 2 {
				k = append(slices.Sorted(maps.Keys(x.model)), k)[r.Intn(len(x.model)+1)]
				x.puts(func() { x.del(k) })
			} else {
				x.puts(func() { x.put(k, value(i, r.Intn(25))) })
			}
			if r.Intn(1+4*seed) == 0 {
				x.s.Commit()
			}
			x.sound()
		}
	}
}

// P8.3, P8.4: what changes nothing writes nothing, and takes no page.
func TestNoChange(t *testing.T) {
	x := grown(t, 3)
	x.again(64)
	before, writes := x.state(), x.d.Writes()
	for i := range 150 {
		x.del(long(2*i + 1))
		x.putIs(long(2*i), strings.Repeat("v", 25), api.ErrArg)
	}
	if l := x.c.Dirty(); len(l) != 0 || x.d.Writes() != writes || x.state() != before {
		t.Errorf("dirty are %v, %d Writes were done, there is %s, not %s", l, x.d.Writes()-writes, x.state(), before)
	}
}

// P8.5: from and to, there or not, none, the other way round, and how many.
func TestScan(t *testing.T) {
	for _, keys := range []int{0, 1, 4, 60, 400} {
		x := laid(t, 600, 64)
		bounds := []string{"", "\x00", "k", long(1) + "k", strings.Repeat("\xff", 30)}
		for i := range keys {
			x.put(long(2*i+1), value(i, i%25))
		}
		for _, i := range []int{0, 1, keys / 2, keys - 1, keys} {
			bounds = append(bounds, long(2*i), long(2*i+1), long(2*i + 1)[:2])
		}
		all := pairs(x.model)
		for _, from := range bounds {
			for _, to := range bounds {
				for _, most := range []int{-1 << 62, -1, 0, 1, 2, 9, len(all) - 1, len(all), len(all) + 1, 1 << 62} {
					want := between(all, from, to, most)
					if l, e := x.tree.Scan([]byte(from), []byte(to), most); e != api.OK || !samePairs(l, want) {
						t.Fatalf("Scan(%q, %q, %d) is %q, %v, not %q", from, to, most, l, e, want)
					}
				}
			}
		}
	}
}

// P8.5: nil and no bytes are alike.
func TestScanNil(t *testing.T) {
	x := grown(t, 2)
	all := pairs(x.model)
	for _, from := range [][]byte{nil, {}} {
		for _, to := range [][]byte{nil, {}} {
			if l, e := x.tree.Scan(from, to, 100); e != api.OK || !samePairs(l, all) {
				t.Errorf("Scan is %q, %v", l, e)
			}
		}
	}
}

// P8.5: leaves that are not needed are not read.
func TestScanReads(t *testing.T) {
	x := broken(t, leaf("a", "b"), leaf("d", "e"), leaf("g", "h"), "d", "f")
	x.again(64)
	x.d.Spoil(2, 40, 1)
	x.d.Spoil(4, 40, 1)
	for _, c := range []struct {
		from, to string
		most     int
		want     string
		e        api.Errno
	}{
		{"d", "f", 9, "de", api.OK}, {"c", "", 9, "", api.ErrSum}, {"d", "", 2, "de", api.OK}, {"d", "", 1, "d", api.OK}, {"dd", "", 1, "e", api.OK},
		{"d", "", 3, "", api.ErrSum}, {"d", "fa", 3, "", api.ErrSum}, {"", "", 1, "", api.ErrSum}, {"", "", 0, "", api.OK}, {"g", "", 1, "", api.ErrSum}, {"e", "f", 1, "e", api.OK},
	} {
		l, e := x.tree.Scan([]byte(c.from), []byte(c.to), c.most)
		got := ""
		for _, pair := range l {
			got += string(pair.Key)
		}
		if got != c.want || e != c.e {
			t.Errorf("Scan(%q, %q, %d) is %q, %v, not %q, %v", c.from, c.to, c.most, got, e, c.want, c.e)
		}
	}
}

// P8.2 to P8.6, of a nil tree: ErrArg, noughts, false.
func TestNil(t *testing.T) {
	var tr *tree.Tree
	tr.Begin(3)
	if root, height := tr.Root(); root != 0 || height != 0 {
		t.Errorf("Root is %d, %d", root, height)
	}
	if val, ok, e := tr.Get([]byte("a")); val != nil || ok || e != api.ErrArg {
		t.Errorf("Get is %q, %v, %v", val, ok, e)
	}
	if e := tr.Put([]byte("a"), nil); e != api.ErrArg {
		t.Errorf("Put is %v", e)
	}
	if ok, e := tr.Delete([]byte("a")); ok || e != api.ErrArg {
		t.Errorf("Delete is %v, %v", ok, e)
	}
	if l, e := tr.Scan(nil, nil, 1); len(l) != 0 || e != api.ErrArg {
		t.Errorf("Scan is %q, %v", l, e)
	}
	if l, keys, e := tr.Check(); len(l) != 0 || keys != 0 || e != api.ErrArg {
		t.Errorf("Check is %v, %d, %v", l, keys, e)
	}
}

// Ends: the zero tree does not panic.
func TestZero(t *testing.T) {
	var tr tree.Tree
	tr.Begin(3)
	tr.Root()
	tr.Get([]byte("a"))
	tr.Put([]byte("a"), nil)
	tr.Delete([]byte("a"))
	tr.Scan(nil, nil, 1)
	tr.Check()
}

// Ends: nodes whose kids are any pages, themselves too: no call panics, and what errs changes nothing.
func TestAnyPages(t *testing.T) {
	r := rand.New(rand.NewSource(3))
	for range 150 {
		x := laid(t, 16, 16)
		for no := 0; no < 16; no++ {
			if r.Intn(6) > 0 && !x.s.Taken(no) && r.Intn(3) > 0 {
				x.s.Alloc()
			}
			var keys []string
			for i := range r.Intn(9) {
				keys = append(keys, key(i*30+r.Intn(40), 1)+strings.Repeat("k", r.Intn(2)*23))
			}
			slices.Sort(keys)
			keys = slices.Compact(keys)
			n := leaf(keys...)
			if r.Intn(3) > 0 && len(keys) > 0 {
				n = inner(nil, keys...)
				for range len(keys) + 1 {
					n.Kids = append(n.Kids, r.Intn(17))
				}
			}
			if node.Sound(n) && node.Size(n) <= api.MaxBody {
				x.lay(no, n)
			}
		}
		for height := 1; height <= 12; height++ {
			x.open(1+r.Intn(15), height)
			x.anyCalls(key(r.Intn(256), 1) + strings.Repeat("k", r.Intn(2)*23))
		}
	}
}

// anyCalls makes each call once; what errs must change nothing.
func (x *bench) anyCalls(key string) {
	x.t.Helper()
	calls := []func() api.Errno{
		func() api.Errno { _, _, e := x.tree.Get([]byte(key)); return e },
		func() api.Errno { return x.tree.Put([]byte(key), []byte("any")) },
		func() api.Errno { _, e := x.tree.Delete([]byte(key)); return e },
		func() api.Errno { _, e := x.tree.Scan(nil, nil, 1<<30); return e },
		func() api.Errno { _, _, e := x.tree.Check(); return e },
	}
	for i, call := range calls {
		before := x.state()
		if e := call(); e != api.OK && x.state() != before {
			x.t.Fatalf("call %d is %v, there is %s, not %s", i, e, x.state(), before)
		}
	}
}

// Ends: where nodes have one and the same kid many times, each call comes to an end soon.
func TestManyWays(t *testing.T) {
	x := laid(t, 100, 64)
	no := x.add(leaf())
	for height := 2; height <= 12; height++ {
		var kids []int
		var keys []string
		for i := range 57 {
			kids = append(kids, no)
			keys = append(keys, key(i+1, 1))
		}
		no = x.add(inner(append(kids, no), keys...))
	}
	x.open(no, 12)
	x.checks(api.ErrForm)
	x.anyCalls("k")
}

// moment is what there was at some time: the tree's root, and what it had.
type moment struct {
	root, height int
	gen          uint64
	model        map[string]string
}

// now is what there is.
func (x *bench) now() moment {
	root, height := x.tree.Root()
	return moment{root, height, x.gen, maps.Clone(x.model)}
}

// had holds a tree of that root against what it had.
func (x *bench) had(m moment) {
	x.t.Helper()
	tr, e := tree.New(x.c, x.s, m.gen, m.root, m.height)
	if e != api.OK {
		x.t.Fatalf("New is %v", e)
	}
	want := pairs(m.model)
	if l, e := tr.Scan(nil, nil, len(want)+1); e != api.OK || !samePairs(l, want) {
		x.t.Fatalf("the elder tree has %q, %v, not %q", l, e, want)
	}
	for _, pair := range want {
		if val, ok, e := tr.Get(pair.Key); !bytes.Equal(val, pair.Val) || !ok || e != api.OK {
			x.t.Fatalf("in the elder tree Get(%q) is %q, %v, %v, not %q", pair.Key, val, ok, e, pair.Val)
		}
	}
}

// P8.8: the tree of the root that there was at a Commit has what it had, whatever is done to the newer one, until the next Commit lets its pages be given again.
func TestElder(t *testing.T) {
	for _, frames := range []int{8, 64} {
		r := rand.New(rand.NewSource(int64(frames)))
		x := laid(t, 800, frames)
		elder, eldest := x.now(), x.now()
		for i := range 1500 {
			k := key(r.Intn(300), 2) + strings.Repeat("k", r.Intn(23))
			switch r.Intn(4) {
			case 0, 1:
				x.put(k, value(i, r.Intn(25)))
			default:
				x.del(append(slices.Sorted(maps.Keys(x.model)), k)[r.Intn(len(x.model)+1)])
			}
			switch {
			case i%60 == 59:
				x.had(elder)
				x.s.Commit()
				eldest, elder = elder, x.now()
				// The pages of the one ahead of that may be given now, but were not yet.
				x.had(eldest)
			case i%10 == 0:
				x.had(elder)
			}
		}
		// With all keys gone the elder one still has what it had.
		x.s.Commit()
		elder = x.now()
		for _, k := range slices.Collect(maps.Keys(x.model)) {
			x.del(k)
		}
		x.had(elder)
		x.s.Abort()
		x.model = elder.model
		x.open(elder.root, elder.height)
		x.told()
	}
}

// P8.7: all that is told is what a map tells, over many mixed calls, Commits, Aborts, failures of the device, and other caches.
func TestAsAMap(t *testing.T) {
	for seed := range 24 {
		r := rand.New(rand.NewSource(int64(seed)))
		x := laid(t, 900, 8+r.Intn(2)*r.Intn(57))
		m := mixed{bench: x, r: r, keys: 1 + r.Intn(400), keySize: 1 + r.Intn(24), valSize: r.Intn(25), committed: x.now()}
		for range 1500 {
			m.step()
		}
		m.works()
		x.told()
	}
}

// mixed is a bench on which many calls are made.
type mixed struct {
	*bench
	r                      *rand.Rand
	keys, keySize, valSize int
	committed              moment
	armed                  bool
}

// key is some key: one that is there, or any.
func (m *mixed) key() string {
	if l := slices.Sorted(maps.Keys(m.model)); len(l) > 0 && m.r.Intn(2) == 0 {
		return l[m.r.Intn(len(l))]
	}
	k := key(m.r.Intn(m.keys), 2) + strings.Repeat("k", 22)
	if m.r.Intn(4) == 0 {
		return k[:1+m.r.Intn(24)]
	}
	return k[:max(2, m.keySize)]
}

// step makes some call.
func (m *mixed) step() {
	m.t.Helper()
	k, v := m.key(), value(m.r.Intn(26), m.r.Intn(m.valSize+1))
	switch m.r.Intn(40) {
	case 0:
		m.gen += uint64(m.r.Intn(3))
		m.tree.Begin(m.gen)
	case 1:
		m.commit()
		m.committed = m.now()
	case 2:
		m.s.Abort()
		m.ballast = nil
		m.model = maps.Clone(m.committed.model)
		m.open(m.committed.root, m.committed.height)
	case 3:
		m.d.Fail(1+m.r.Intn(2), m.r.Intn(6))
		m.armed = true
	case 4:
		m.works()
		m.again(8 + m.r.Intn(57))
	case 5:
		m.leave(m.r.Intn(2*m.height() + 6))
	case 6:
		m.leave(200)
	case 7:
		m.checkSome()
	case 8, 9, 10:
		m.scanSome(k)
	case 11, 12, 13, 14:
		m.getSome(k)
	case 15, 16, 17, 18, 19, 20, 21, 22, 23, 24:
		m.deleteSome(k)
	default:
		m.putSome(k, v)
	}
}

// works lets the device fail no more.
func (m *mixed) works() {
	m.d.Fail(api.FailRead, 1<<30)
	m.d.Fail(api.FailWrite, 1<<30)
	m.armed = false
}

// failed is whether e is what a device that is to fail lets a call err; the state must be that before then.
func (m *mixed) failed(e api.Errno, before string) bool {
	m.t.Helper()
	if e != api.ErrIO {
		return false
	}
	if !m.armed || m.state() != before {
		m.t.Fatalf("the device may fail: %v, there is %s, not %s", m.armed, m.state(), before)
	}
	return true
}

func (m *mixed) checkSome() {
	m.t.Helper()
	pages, keys, e := m.tree.Check()
	if m.failed(e, m.state()) {
		return
	}
	want := slices.Concat([]int{0, 1}, pages, m.ballast)
	slices.Sort(want)
	if e != api.OK || keys != len(m.model) || len(pages) > keys || !slices.Equal(m.s.Used(), want) {
		m.t.Fatalf("Check is %v, %d, %v; there are %d keys, taken are %v", pages, keys, e, len(m.model), m.s.Used())
	}
	if !m.armed {
		m.sound()
	}
}

func (m *mixed) scanSome(from string) {
	m.t.Helper()
	to, most := m.key(), m.r.Intn(len(m.model)+2)
	if m.r.Intn(3) == 0 {
		to = ""
	}
	if m.r.Intn(4) == 0 {
		from = ""
	}
	l, e := m.tree.Scan([]byte(from), []byte(to), most)
	if m.failed(e, m.state()) {
		return
	}
	if want := between(pairs(m.model), from, to, most); e != api.OK || !samePairs(l, want) {
		m.t.Fatalf("Scan(%q, %q, %d) is %q, %v, not %q", from, to, most, l, e, want)
	}
}

func (m *mixed) getSome(k string) {
	m.t.Helper()
	val, ok, e := m.tree.Get([]byte(k))
	if m.failed(e, m.state()) {
		return
	}
	if want, there := m.model[k]; string(val) != want || ok != there || e != api.OK {
		m.t.Fatalf("Get(%q) is %q, %v, %v, not %q, %v", k, val, ok, e, want, there)
	}
}

// full is what a change errs for want of room.
func (m *mixed) full() api.Errno {
	if m.s.Room() < 2*m.height()+3 {
		return api.ErrFull
	}
	return api.OK
}

func (m *mixed) putSome(k, v string) {
	m.t.Helper()
	before, want := m.state(), m.full()
	e := m.tree.Put([]byte(k), []byte(v))
	if m.failed(e, before) {
		return
	}
	if e != want || e != api.OK && m.state() != before {
		m.t.Fatalf("Put(%q) is %v, not %v; there is %s, and was %s", k, e, want, m.state(), before)
	}
	if e == api.OK {
		m.model[k] = v
	}
}

func (m *mixed) deleteSome(k string) {
	m.t.Helper()
	before, want := m.state(), m.full()
	_, there := m.model[k]
	if !there {
		want = api.OK
	}
	ok, e := m.tree.Delete([]byte(k))
	if m.failed(e, before) {
		return
	}
	if ok != (there && want == api.OK) || e != want || !ok && m.state() != before {
		m.t.Fatalf("Delete(%q) is %v, %v, not %v; there is %s, and was %s", k, ok, e, want, m.state(), before)
	}
	if ok {
		delete(m.model, k)
	}
}

// From arguments alone: two trees over two devices come by the same calls to the same pages, and know nothing of one another.
func TestTwoTrees(t *testing.T) {
	x, y := laid(t, 400, 8), laid(t, 400, 64)
	r := rand.New(rand.NewSource(1))
	for i := range 500 {
		k, put := long(r.Intn(200)), r.Intn(3) > 0
		for _, b := range []*bench{x, y} {
			if put {
				b.put(k, value(i, i%25))
			} else {
				b.del(k)
			}
		}
		if i == 250 {
			laid(t, 100, 8).put("a", "1")
			x.s.Commit()
			y.s.Commit()
		}
	}
	pages, _ := x.shape(x.tree.Root())
	others, _ := y.shape(y.tree.Root())
	if x.state() != y.state() || !slices.Equal(pages, others) || !maps.Equal(x.contents(pages), y.contents(pages)) {
		t.Errorf("there is %s and %s", x.state(), y.state())
	}
	for _, k := range keysOf(x) {
		x.del(k)
	}
	x.told()
	y.told()
}

// P8.1: two trees in the same pages: what is done to one is not told by the other.
func TestSharedPages(t *testing.T) {
	x := laid(t, 300, 64)
	x.put("a", "1")
	other, e := tree.New(x.c, x.s, 1, 0, 0)
	if e != api.OK {
		t.Fatal(e)
	}
	for i := range 60 {
		if e := other.Put([]byte(long(i)), []byte("other")); e != api.OK {
			t.Fatal(e)
		}
		x.put(long(i), "this")
	}
	for i := range 60 {
		x.get(long(i))
		if val, ok, e := other.Get([]byte(long(i))); string(val) != "other" || !ok || e != api.OK {
			t.Fatalf("Get is %q, %v, %v", val, ok, e)
		}
	}
	pages, keys, e := x.tree.Check()
	others, otherKeys, f := other.Check()
	all := slices.Concat([]int{0, 1}, pages, others)
	slices.Sort(all)
	if keys != 61 || otherKeys != 60 || e != api.OK || f != api.OK || !slices.Equal(all, x.s.Used()) {
		t.Errorf("%d keys, %v, and %d, %v; the pages %v of %v", keys, e, otherKeys, f, all, x.s.Used())
	}
}

// P8.1: what is read is just what page and node say: a tree that was written past the program is told as it is.
func TestPastTheProgram(t *testing.T) {
	x := laid(t, 100, 64)
	body := "\x02\x01a\x011\x02bc\x0223"
	x.write(50, api.Page{Kind: api.PageLeaf, Gen: 1, Body: []byte(body)})
	x.write(60, api.Page{Kind: api.PageLeaf, Gen: 0, Body: []byte("\x01\x02mm\x00")})
	x.write(70, api.Page{Kind: api.PageInner, Gen: 1, Body: []byte("\x01\x00\x32\x01m\x00\x3c")})
	for !x.s.Taken(70) {
		x.s.Alloc()
	}
	x.open(70, 2)
	x.model = map[string]string{"a": "1", "bc": "23", "mm": ""}
	for _, k := range []string{"a", "bc", "mm", "b", "m", "z", ""} {
		x.get(k)
	}
	if l, keys, e := x.tree.Check(); fmt.Sprint(l, keys, e == api.OK) != "[50 60 70] 3 true" {
		t.Errorf("Check is %v, %d, %v", l, keys, e)
	}
	b, _ := x.c.Get(50)
	if p, _ := page.Decode(50, b); string(p.Body) != body {
		t.Errorf("page 50 has %q", p.Body)
	}
}
