package space_test

import (
	"bytes"
	"fmt"
	"math"
	"math/rand"
	"slices"
	"testing"

	"stanchion/api"
	"stanchion/space"
)

// made is a space of n pages, of which those below first are taken.
func made(t *testing.T, n, first int) *space.Space {
	t.Helper()
	s, e := space.New(n, first)
	if s == nil || e != api.OK {
		t.Fatalf("New(%d, %d) is %v, %v", n, first, s, e)
	}
	return s
}

// load is the space of n pages that b says.
func load(t *testing.T, b []byte, n int) *space.Space {
	t.Helper()
	s, e := space.Load(b, n)
	if s == nil || e != api.OK {
		t.Fatalf("Load(%x, %d) is %v, %v", b, n, s, e)
	}
	return s
}

// alloc holds what Alloc gives against want, one after the other.
func alloc(t *testing.T, s *space.Space, want ...int) {
	t.Helper()
	for k, no := range want {
		if got, e := s.Alloc(); got != no || e != api.OK {
			t.Fatalf("Alloc is %d, %v, %d of %v", got, e, k, want)
		}
	}
}

// full holds that Alloc has nothing to give, and changes nothing.
func full(t *testing.T, s *space.Space) {
	t.Helper()
	used := s.Used()
	for range 2 {
		if no, e := s.Alloc(); no != -1 || e != api.ErrFull {
			t.Fatalf("Alloc is %d, %v, not -1, ErrFull", no, e)
		}
	}
	taken(t, s, used...)
	room(t, s, 0)
}

// free frees the pages l, which must be done.
func free(t *testing.T, s *space.Space, l ...int) {
	t.Helper()
	for _, no := range l {
		if e := s.Free(no); e != api.OK {
			t.Fatalf("Free(%d) is %v", no, e)
		}
	}
}

// refused is a Free of no that must be want, and change nothing.
func refused(t *testing.T, s *space.Space, no int, want api.Errno) {
	t.Helper()
	used, left := s.Used(), s.Room()
	if e := s.Free(no); e != want {
		t.Fatalf("Free(%d) is %v, not %v", no, e, want)
	}
	taken(t, s, used...)
	room(t, s, left)
}

// taken holds the pages that are taken now against want.
func taken(t *testing.T, s *space.Space, want ...int) {
	t.Helper()
	if l := s.Used(); !slices.Equal(l, want) {
		t.Fatalf("Used is %v, not %v", l, want)
	}
}

// fresh holds the pages of s, from a few below 0 to far behind the last one, that are Fresh against want.
func fresh(t *testing.T, s *space.Space, want ...int) {
	t.Helper()
	var l []int
	for no := -20; no < api.MaxSectors+300; no++ {
		if s.Fresh(no) {
			l = append(l, no)
		}
	}
	if !slices.Equal(l, want) {
		t.Fatalf("Fresh are %v, not %v", l, want)
	}
}

// room holds how many pages could be given against want.
func room(t *testing.T, s *space.Space, want int) {
	t.Helper()
	if n := s.Room(); n != want {
		t.Fatalf("Room is %d, not %d", n, want)
	}
}

// upTo is the numbers from from on, below to.
func upTo(from, to int) []int {
	var l []int
	for no := from; no < to; no++ {
		l = append(l, no)
	}
	return l
}

// written is the bytes that say that of n pages just those of l are taken, by the words of P6.3.
func written(n int, l ...int) []byte {
	var b []byte
	for at := 0; at < n; at += 8 {
		sum, worth := 0, 1
		for no := at; no < at+8; no++ {
			if slices.Contains(l, no) {
				sum += worth
			}
			worth *= 2
		}
		b = append(b, byte(sum))
	}
	return b
}

// P6.2: the chapter's example.
func TestExample(t *testing.T) {
	s := made(t, 16, 2)
	alloc(t, s, 2)
	free(t, s, 2)
	alloc(t, s, 2)
	s.Commit()
	free(t, s, 2)
	alloc(t, s, 3)
}

// P6.1: from 1 to 1600 pages, of which any number may be taken from the first on; that was committed, too.
func TestNew(t *testing.T) {
	for n := 1; n <= 1600; n++ {
		for _, first := range []int{0, 1, n / 2, n - 1, n} {
			s := made(t, n, first)
			taken(t, s, upTo(0, first)...)
			room(t, s, n-first)
			if s.Fresh(first-1) || s.Fresh(0) {
				t.Fatalf("New(%d, %d): something is fresh", n, first)
			}
		}
	}
	for _, n := range []int{1, 7, 8, 9, 1599, 1600} {
		for _, first := range []int{0, 1, n / 2, n - 1, n} {
			s := made(t, n, first)
			fresh(t, s)
			alloc(t, s, upTo(first, n)...)
			full(t, s)
			fresh(t, s, upTo(first, n)...)
			s.Abort()
			taken(t, s, upTo(0, first)...)
			free(t, s, upTo(0, first)...)
			alloc(t, s, upTo(first, n)...)
			full(t, s)
		}
	}
}

// P6.1: no other numbers of pages, and none that are taken but from none to all of them.
func TestNewWrong(t *testing.T) {
	far := []int{math.MinInt, math.MinInt32, -1600, -16, -8, -1, 1601, 1608, 3200, 1 << 32, 1<<32 + 16, math.MaxInt}
	for _, n := range append(far, 0) {
		for _, first := range []int{math.MinInt, -1, 0, 1, 16, 1600, n} {
			if s, e := space.New(n, first); s != nil || e != api.ErrArg {
				t.Errorf("New(%d, %d) is %v, %v", n, first, s, e)
			}
		}
	}
	for _, n := range []int{1, 7, 8, 16, 1599, 1600} {
		for _, first := range append(far, n+1, n+8) {
			if s, e := space.New(n, first); s != nil || e != api.ErrArg {
				t.Errorf("New(%d, %d) is %v, %v", n, first, s, e)
			}
		}
	}
}

// P6.2: the least page is given, wherever it lies, till there is none.
func TestAllocLeast(t *testing.T) {
	for _, n := range []int{1, 15, 16, 17, 100, 1600} {
		s := made(t, n, 0)
		alloc(t, s, upTo(0, n)...)
		full(t, s)
		for _, no := range []int{n - 1, 0, n / 2, n / 3} {
			free(t, s, no)
			alloc(t, s, no)
			full(t, s)
		}
	}
	s := made(t, 40, 1)
	alloc(t, s, upTo(1, 30)...)
	free(t, s, 29, 8, 7, 16, 3, 15)
	room(t, s, 16)
	alloc(t, s, 3, 7, 8, 15, 16, 29, 30)
}

// P6.2: what was committed is passed by, freed or not; what was not is given again at once.
func TestAllocFreed(t *testing.T) {
	s := made(t, 12, 4)
	alloc(t, s, 4, 5, 6)
	free(t, s, 1, 5)
	alloc(t, s, 5, 7)
	free(t, s, 4, 0, 7)
	alloc(t, s, 4, 7, 8)
	taken(t, s, 2, 3, 4, 5, 6, 7, 8)
	fresh(t, s, 4, 5, 6, 7, 8)
	s.Commit()
	fresh(t, s)
	alloc(t, s, 0, 1, 9)
	fresh(t, s, 0, 1, 9)
}

// P6.2: where all that is not taken was committed as taken, nothing is given, till the next Commit.
func TestAllocFull(t *testing.T) {
	for _, n := range []int{1, 8, 9, 1600} {
		s := made(t, n, n)
		full(t, s)
		free(t, s, upTo(0, n)...)
		full(t, s)
		taken(t, s)
		s.Commit()
		room(t, s, n)
		alloc(t, s, upTo(0, n)...)
		full(t, s)
	}
	s := made(t, 10, 6)
	alloc(t, s, 6, 7, 8, 9)
	free(t, s, 2, 5, 8)
	room(t, s, 1)
	alloc(t, s, 8)
	full(t, s)
}

// P6.2: of pages that are not there, Free is ErrArg, and of those that are not taken now ErrNone, also where they were committed as taken.
func TestFreeWrong(t *testing.T) {
	for _, n := range []int{1, 7, 8, 9, 1599, 1600} {
		for _, first := range []int{0, n} {
			s := made(t, n, first)
			for _, no := range []int{math.MinInt, -1600, -8, -1, n, n + 1, n + 8, 1600, 1601, 1 << 32, math.MaxInt} {
				refused(t, s, no, api.ErrArg)
			}
		}
	}
	s := made(t, 20, 5)
	refused(t, s, 5, api.ErrNone)
	refused(t, s, 19, api.ErrNone)
	free(t, s, 4)
	refused(t, s, 4, api.ErrNone)
	alloc(t, s, 5)
	free(t, s, 5)
	refused(t, s, 5, api.ErrNone)
	s.Commit()
	refused(t, s, 4, api.ErrNone)
	refused(t, s, 5, api.ErrNone)
	s.Abort()
	refused(t, s, 4, api.ErrNone)
}

// P6.2: each page can be freed, and no other one goes with it.
func TestFreeEach(t *testing.T) {
	for _, n := range []int{1, 9, 16, 1600} {
		for no := range n {
			s := made(t, n, n)
			free(t, s, no)
			taken(t, s, append(upTo(0, no), upTo(no+1, n)...)...)
			room(t, s, 0)
			s.Commit()
			room(t, s, 1)
			alloc(t, s, no)
			full(t, s)
		}
	}
}

// laid is a space of 16 pages: 0, 1, 3 are taken and were committed, 5 and 6 are fresh, 2 and 4 were committed and are freed.
func laid(t *testing.T) *space.Space {
	t.Helper()
	s := made(t, 16, 5)
	alloc(t, s, 5, 6)
	free(t, s, 2, 4)
	taken(t, s, 0, 1, 3, 5, 6)
	fresh(t, s, 5, 6)
	room(t, s, 9)
	return s
}

// P6.2: Commit leaves what is taken now, and it was committed then: what was fresh is not, what was freed can be given.
func TestCommit(t *testing.T) {
	for times := 1; times <= 3; times++ {
		s := laid(t)
		for range times {
			s.Commit()
			taken(t, s, 0, 1, 3, 5, 6)
			fresh(t, s)
			room(t, s, 11)
		}
		free(t, s, 5, 0)
		alloc(t, s, 2, 4, 7)
		s.Abort()
		taken(t, s, 0, 1, 3, 5, 6)
		alloc(t, s, 2, 4, 7)
	}
}

// P6.2: Abort takes what was committed, and nothing else: what was fresh can be given, what was freed is back.
func TestAbort(t *testing.T) {
	for times := 1; times <= 3; times++ {
		s := laid(t)
		for range times {
			s.Abort()
			taken(t, s, 0, 1, 2, 3, 4)
			fresh(t, s)
			room(t, s, 11)
		}
		refused(t, s, 5, api.ErrNone)
		free(t, s, 2)
		alloc(t, s, 5, 6, 7)
		fresh(t, s, 5, 6, 7)
	}
}

// P6.2: an Abort behind a Commit changes nothing, and a Commit behind an Abort neither; what comes between counts from the last one on.
func TestCommitAndAbort(t *testing.T) {
	s := laid(t)
	s.Commit()
	s.Abort()
	taken(t, s, 0, 1, 3, 5, 6)
	room(t, s, 11)
	alloc(t, s, 2)
	free(t, s, 6)
	s.Abort()
	s.Commit()
	taken(t, s, 0, 1, 3, 5, 6)
	fresh(t, s)
	room(t, s, 11)
	s = laid(t)
	s.Abort()
	s.Commit()
	taken(t, s, 0, 1, 2, 3, 4)
	room(t, s, 11)
	alloc(t, s, 5)
	s.Commit()
	free(t, s, 5)
	s.Commit()
	s.Abort()
	taken(t, s, 0, 1, 2, 3, 4)
	free(t, s, 4)
	s.Abort()
	s.Abort()
	taken(t, s, 0, 1, 2, 3, 4)
}

// P6.2: Taken tells of each page whether it is taken now, and Fresh whether that is new; of what is no page both are false.
func TestTakenFresh(t *testing.T) {
	s := laid(t)
	for no := -20; no < 2000; no++ {
		if s.Taken(no) != slices.Contains([]int{0, 1, 3, 5, 6}, no) || s.Fresh(no) != (no == 5 || no == 6) {
			t.Errorf("%d: Taken is %v, Fresh %v", no, s.Taken(no), s.Fresh(no))
		}
	}
	for _, n := range []int{1, 7, 8, 13, 1599, 1600} {
		old, young := made(t, n, n), made(t, n, 0)
		alloc(t, young, upTo(0, n)...)
		for _, no := range append(upTo(-10, 1700), math.MinInt, math.MinInt32, 1<<32, 1<<32+1, math.MaxInt) {
			there := no >= 0 && no < n
			if old.Taken(no) != there || young.Taken(no) != there || old.Fresh(no) || young.Fresh(no) != there {
				t.Fatalf("%d pages, %d: Taken is %v, %v, Fresh %v, %v", n, no, old.Taken(no), young.Taken(no), old.Fresh(no), young.Fresh(no))
			}
		}
	}
}

// given is how many pages s then gives, one after the other: as many as Room says, each time one less, rising and none of them taken.
func given(t *testing.T, s *space.Space) int {
	t.Helper()
	last := -1
	for k := range api.MaxSectors + 1 {
		left, used := s.Room(), s.Used()
		no, e := s.Alloc()
		if e != api.OK {
			if left != 0 || no != -1 || e != api.ErrFull {
				t.Fatalf("Alloc is %d, %v, where Room is %d", no, e, left)
			}
			return k
		}
		if no <= last || slices.Contains(used, no) || !s.Taken(no) || !s.Fresh(no) || s.Room() != left-1 {
			t.Fatalf("Alloc is %d, behind %d, of %v, and Room %d, then %d", no, last, used, left, s.Room())
		}
		last = no
	}
	t.Fatal("Alloc never ends")
	return 0
}

// P6.2: Room is how many pages Alloc then gives.
func TestRoom(t *testing.T) {
	for seed := range 200 {
		r := rand.New(rand.NewSource(int64(seed)))
		n := 1 + r.Intn(90)
		s := made(t, n, r.Intn(n+1))
		for range r.Intn(60) {
			switch r.Intn(12) {
			case 0:
				s.Commit()
			case 1:
				s.Abort()
			case 2, 3, 4, 5:
				s.Alloc()
			default:
				s.Free(r.Intn(n))
			}
		}
		want := s.Room()
		if got := given(t, s); got != want {
			t.Fatalf("seed %d: Room is %d, and %d are given", seed, want, got)
		}
	}
}

// P6.2: Used rises, whatever the order in which pages were taken.
func TestUsedRises(t *testing.T) {
	s := made(t, 1600, 1600)
	var want []int
	for k := range 1600 {
		if no := k * 7 % 1600; no%3 != 1 {
			free(t, s, no)
		}
		if k%3 == 1 {
			want = append(want, k)
		}
	}
	taken(t, s, want...)
	s.Commit()
	alloc(t, s, 0, 2, 3, 5)
	taken(t, s, append([]int{0, 1, 2, 3, 4, 5}, want[2:]...)...)
}

// P6.3: each bit of each byte is a page's; so it is told, and so it is loaded.
func TestEachBit(t *testing.T) {
	for _, n := range []int{1, 2, 7, 8, 9, 15, 16, 17, 1592, 1593, 1599, 1600} {
		for no := range n {
			want := make([]byte, (n+7)/8)
			want[no/8] = []byte{1, 2, 4, 8, 16, 32, 64, 128}[no%8]
			s := load(t, want, n)
			taken(t, s, no)
			if b := s.Bytes(); !bytes.Equal(b, want) {
				t.Fatalf("of %d, %d: Bytes is %x, not %x", n, no, b, want)
			}
			s = made(t, n, n)
			free(t, s, append(upTo(0, no), upTo(no+1, n)...)...)
			if b := s.Bytes(); !bytes.Equal(b, want) {
				t.Fatalf("of %d, %d: Bytes is %x, not %x", n, no, b, want)
			}
		}
	}
}

// P6.3: as many bytes as the pages need, and the bits behind the last page are 0, if all are taken, too.
func TestBytes(t *testing.T) {
	for n := 1; n <= 1600; n++ {
		for _, first := range []int{0, n / 3, n} {
			if b, want := made(t, n, first).Bytes(), written(n, upTo(0, first)...); !bytes.Equal(b, want) {
				t.Fatalf("New(%d, %d): Bytes is %x, not %x", n, first, b, want)
			}
		}
	}
	for n, want := range map[int]string{1: "\x01", 7: "\x7f", 8: "\xff", 9: "\xff\x01", 12: "\xff\x0f", 16: "\xff\xff"} {
		s := made(t, n, 0)
		alloc(t, s, upTo(0, n)...)
		if b := s.Bytes(); string(b) != want {
			t.Errorf("%d pages: Bytes is %x, not %x", n, b, want)
		}
	}
}

// P6.3: Bytes tells what is taken now, not what was committed.
func TestBytesNow(t *testing.T) {
	s := laid(t)
	now, then := []byte{0x6b, 0}, []byte{0x1f, 0}
	if b := s.Bytes(); !bytes.Equal(b, now) {
		t.Errorf("Bytes is %x, not %x", b, now)
	}
	s.Abort()
	if b := s.Bytes(); !bytes.Equal(b, then) {
		t.Errorf("behind Abort: Bytes is %x, not %x", b, then)
	}
	s = laid(t)
	s.Commit()
	if b := s.Bytes(); !bytes.Equal(b, now) {
		t.Errorf("behind Commit: Bytes is %x, not %x", b, now)
	}
}

// noLoad holds that b of n pages can't be loaded, for want.
func noLoad(t *testing.T, b []byte, n int, want api.Errno) {
	t.Helper()
	if s, e := space.Load(b, n); s != nil || e != want {
		t.Fatalf("Load(%x, %d) is %v, %v, not %v", b, n, s, e, want)
	}
}

// P6.3: numbers of pages that no space has are ErrArg, whatever the bytes.
func TestLoadWrongNumber(t *testing.T) {
	for _, n := range []int{math.MinInt, -1600, -8, -7, -1, 0, 1601, 1608, 1609, 3200, 1 << 32, 1<<32 + 8, math.MaxInt} {
		for _, size := range []int{0, 1, 2, 200, 201, 202} {
			noLoad(t, make([]byte, size), n, api.ErrArg)
			noLoad(t, bytes.Repeat([]byte{0xff}, size), n, api.ErrArg)
		}
	}
}

// P6.3: bytes that are too few or too many are ErrForm, those that say that nothing is taken, too.
func TestLoadWrongLength(t *testing.T) {
	for n := 1; n <= 1600; n++ {
		need := (n + 7) / 8
		for _, size := range []int{0, 1, need - 1, need + 1, need + 8, 200, 201, 256, n} {
			if size != need {
				noLoad(t, make([]byte, size), n, api.ErrForm)
			}
		}
		noLoad(t, nil, n, api.ErrForm)
		noLoad(t, append(written(n, upTo(0, n)...), 0), n, api.ErrForm)
		noLoad(t, written(n, upTo(0, n)...)[1:], n, api.ErrForm)
	}
}

// P6.3: a bit behind the pages that is 1 is ErrForm, each alone and all together, whatever is taken.
func TestLoadBehind(t *testing.T) {
	for n := 1; n <= 1600; n++ {
		for _, l := range [][]int{nil, upTo(0, n), {n - 1}} {
			b := written(n, l...)
			load(t, b, n)
			for bit := (n-1)%8 + 1; bit < 8; bit++ {
				spoilt := slices.Clone(b)
				spoilt[len(b)-1] |= 1 << bit
				noLoad(t, spoilt, n, api.ErrForm)
			}
			if n%8 != 0 {
				spoilt := slices.Clone(b)
				spoilt[len(b)-1] |= 0xff << (n % 8)
				noLoad(t, spoilt, n, api.ErrForm)
			}
		}
	}
}

// P6.3: what was loaded was committed, too.
func TestLoadCommitted(t *testing.T) {
	s := load(t, []byte{0xb3, 0x01}, 12)
	taken(t, s, 0, 1, 4, 5, 7, 8)
	fresh(t, s)
	room(t, s, 6)
	alloc(t, s, 2, 3, 6, 9)
	free(t, s, 0, 7, 3)
	alloc(t, s, 3, 10, 11)
	full(t, s)
	fresh(t, s, 2, 3, 6, 9, 10, 11)
	s.Abort()
	taken(t, s, 0, 1, 4, 5, 7, 8)
	free(t, s, 0)
	s.Commit()
	alloc(t, s, 0, 2)
}

// P6.5: Load of Bytes is a space of the same pages, whatever was committed ahead of it, and its Bytes are the same.
func TestThereAndBack(t *testing.T) {
	for seed := range 300 {
		r := rand.New(rand.NewSource(int64(seed)))
		n := 1 + r.Intn(1600)
		if seed%3 == 0 {
			n = max(8, n/8*8)
		}
		s := made(t, n, n)
		for no := range n {
			if r.Intn(3) == 0 {
				free(t, s, no)
			}
		}
		if seed%2 == 0 {
			s.Commit()
			for range r.Intn(n + 1) {
				s.Alloc()
			}
		}
		b := s.Bytes()
		back := load(t, b, n)
		taken(t, back, s.Used()...)
		fresh(t, back)
		room(t, back, n-len(s.Used()))
		if again := back.Bytes(); !bytes.Equal(again, b) {
			t.Fatalf("seed %d: Bytes is %x, not %x", seed, again, b)
		}
		for no := -1; no <= n; no++ {
			if back.Taken(no) != s.Taken(no) {
				t.Fatalf("seed %d: Taken(%d) is %v", seed, no, back.Taken(no))
			}
		}
		back.Abort()
		taken(t, back, s.Used()...)
	}
}

// P6.5: bytes that may be are told again, each of them.
func TestBytesOfLoaded(t *testing.T) {
	for n := 1; n <= 10; n++ {
		for x := range 1 << n {
			b := []byte{byte(x), byte(x >> 8)}[:(n+7)/8]
			if got := load(t, b, n).Bytes(); !bytes.Equal(got, b) {
				t.Fatalf("%d pages: Bytes is %x, not %x", n, got, b)
			}
		}
	}
	for seed := range 200 {
		b := make([]byte, 1+seed)
		rand.New(rand.NewSource(int64(seed))).Read(b)
		s := load(t, b, 8*len(b))
		if got := s.Bytes(); !bytes.Equal(got, b) {
			t.Fatalf("Bytes is %x, not %x", got, b)
		}
	}
}

// P6.4: over long rows of calls no page that was committed as taken is given, until it was freed and a Commit came.
func TestKept(t *testing.T) {
	for seed := range 60 {
		r := rand.New(rand.NewSource(int64(seed)))
		n := []int{5, 16, 61, 200, 1600}[seed%5]
		s := made(t, n, r.Intn(n+1))
		kept := map[int]bool{}
		commit := func() {
			clear(kept)
			for _, no := range s.Used() {
				kept[no] = true
			}
		}
		commit()
		for k := range 3000 {
			switch r.Intn(40) {
			case 0, 1:
				s.Commit()
				commit()
			case 2:
				s.Abort()
				if len(s.Used()) != len(kept) {
					t.Fatalf("seed %d, call %d: Abort leaves %v", seed, k, s.Used())
				}
			default:
				if r.Intn(2) == 0 {
					s.Free(r.Intn(n))
					break
				}
				if no, e := s.Alloc(); e == api.OK && kept[no] {
					t.Fatalf("seed %d, call %d: %d was committed, and is given", seed, k, no)
				}
			}
		}
	}
}

// P6.1 to P6.3: of a nil space nothing is told, and nothing can be done.
func TestNil(t *testing.T) {
	var s *space.Space
	for range 2 {
		if no, e := s.Alloc(); no != -1 || e != api.ErrArg {
			t.Errorf("Alloc is %d, %v", no, e)
		}
		for _, no := range []int{math.MinInt, -1, 0, 1, 1600, math.MaxInt} {
			if e := s.Free(no); e != api.ErrArg {
				t.Errorf("Free(%d) is %v", no, e)
			}
			if s.Taken(no) || s.Fresh(no) {
				t.Errorf("%d: Taken is %v, Fresh %v", no, s.Taken(no), s.Fresh(no))
			}
		}
		if s.Room() != 0 || len(s.Used()) != 0 || len(s.Bytes()) != 0 {
			t.Errorf("Room is %d, Used %v, Bytes %x", s.Room(), s.Used(), s.Bytes())
		}
		s.Commit()
		s.Abort()
	}
}

// The zero value of Space is open, but no call of it panics.
func TestZeroEnds(t *testing.T) {
	s := new(space.Space)
	for _, no := range []int{math.MinInt, -1, 0, 1, 1600, math.MaxInt} {
		s.Alloc()
		s.Free(no)
		s.Commit()
		s.Taken(no)
		s.Fresh(no)
		s.Abort()
		s.Room()
		s.Used()
		s.Bytes()
	}
}

// spare is b with spare room behind it, and a look whether it or that room was changed.
func spare(b []byte) ([]byte, func() bool) {
	wide := append(slices.Clone(b), 0xa5, 0x5a, 0xa5, 0x5a)
	was := slices.Clone(wide)
	return wide[:len(b)], func() bool { return !bytes.Equal(wide, was) }
}

// Rules, Memory: what is handed to Load is neither changed nor kept, its spare room included, loaded or not.
func TestLoadKeepsNothing(t *testing.T) {
	for _, n := range []int{12, 16} {
		want := written(n, 0, 1, 4, 11)
		b, changed := spare(want)
		s := load(t, b, n)
		s.Alloc()
		free(t, s, 0)
		s.Commit()
		s.Abort()
		s.Used()
		s.Bytes()
		if changed() {
			t.Error("what was handed in is changed")
		}
		s = load(t, b, n)
		for i := range cap(b) {
			b[:cap(b)][i] ^= 0xff
		}
		taken(t, s, 0, 1, 4, 11)
		s.Abort()
		taken(t, s, 0, 1, 4, 11)
		if got := s.Bytes(); !bytes.Equal(got, want) {
			t.Errorf("Bytes is %x, not %x", got, want)
		}
	}
	for _, n := range []int{0, 4, 12, 20, 1600, 1601} {
		b, changed := spare([]byte{0xff, 0xff})
		space.Load(b, n)
		if changed() {
			t.Errorf("Load for %d pages changes what was handed in", n)
		}
	}
}

// spoilBytes changes all of b, and its spare room.
func spoilBytes(b []byte) {
	for i := range cap(b) {
		b[:cap(b)][i] ^= 0xff
	}
}

// spoilInts changes all of l, and its spare room.
func spoilInts(l []int) {
	for i := range cap(l) {
		l[:cap(l)][i] += 1000
	}
}

// Rules, Memory: what is told shares nothing with the space, nor with what is told again.
func TestAnswersAreNew(t *testing.T) {
	for _, n := range []int{13, 16, 1600} {
		s := made(t, n, 3)
		alloc(t, s, 3, 4)
		free(t, s, 1)
		used, other := s.Used(), s.Used()
		spoilInts(used)
		if !slices.Equal(other, []int{0, 2, 3, 4}) {
			t.Errorf("two Used share: %v", other)
		}
		want := written(n, 0, 2, 3, 4)
		b, second := s.Bytes(), s.Bytes()
		spoilBytes(b)
		if !bytes.Equal(second, want) {
			t.Errorf("two Bytes share: %x", second)
		}
		spoilBytes(second)
		spoilInts(other)
		taken(t, s, 0, 2, 3, 4)
		fresh(t, s, 3, 4)
		room(t, s, n-5)
		if got := s.Bytes(); !bytes.Equal(got, want) {
			t.Errorf("Bytes shares with the space: %x", got)
		}
		s.Abort()
		taken(t, s, 0, 1, 2)
	}
}

// Rules, Memory: what was told stays, whatever the space does later.
func TestAnswersStay(t *testing.T) {
	s := made(t, 20, 3)
	used, b := s.Used(), s.Bytes()
	alloc(t, s, 3, 4)
	free(t, s, 0)
	s.Commit()
	alloc(t, s, 0)
	if !slices.Equal(used, []int{0, 1, 2}) || !bytes.Equal(b, []byte{7, 0, 0}) {
		t.Errorf("Used was %v, Bytes %x", used, b)
	}
}

// Rules, From arguments alone: two spaces know nothing of one another, also where they are loaded from the same bytes.
func TestTwoSpaces(t *testing.T) {
	b := written(16, 0, 1)
	one, two, three := load(t, b, 16), load(t, b, 16), made(t, 16, 2)
	alloc(t, one, 2, 3)
	free(t, one, 0)
	one.Commit()
	for _, s := range []*space.Space{two, three} {
		taken(t, s, 0, 1)
		alloc(t, s, 2)
		s.Abort()
		taken(t, s, 0, 1)
	}
	taken(t, one, 1, 2, 3)
	alloc(t, one, 0)
}

// model is a space by the chapter's words: of each page whether it is taken now, and whether it was in what was committed.
type model struct {
	now, then []bool
}

func modelled(n, first int) *model {
	m := &model{now: make([]bool, n)}
	for no := range first {
		m.now[no] = true
	}
	m.then = slices.Clone(m.now)
	return m
}

func (m *model) alloc() (int, api.Errno) {
	for no := range m.now {
		if !m.now[no] && !m.then[no] {
			m.now[no] = true
			return no, api.OK
		}
	}
	return -1, api.ErrFull
}

func (m *model) free(no int) api.Errno {
	if no < 0 || no >= len(m.now) {
		return api.ErrArg
	}
	if !m.now[no] {
		return api.ErrNone
	}
	m.now[no] = false
	return api.OK
}

// lists is the pages that are taken, those that are fresh, and how many could be given.
func (m *model) lists() (used, fresh []int, room int) {
	for no := range m.now {
		if m.now[no] {
			used = append(used, no)
		}
		if m.now[no] && !m.then[no] {
			fresh = append(fresh, no)
		}
		if !m.now[no] && !m.then[no] {
			room++
		}
	}
	return used, fresh, room
}

// step does one call, chosen by r, of both, and tells what differs.
func step(r *rand.Rand, s *space.Space, m *model) string {
	switch k := r.Intn(40); {
	case k == 0:
		s.Commit()
		m.then = slices.Clone(m.now)
	case k == 1:
		s.Abort()
		m.now = slices.Clone(m.then)
	case k < 22:
		no, e := s.Alloc()
		if want, wantE := m.alloc(); no != want || e != wantE {
			return fmt.Sprint("Alloc ", no, e, want, wantE)
		}
	default:
		no := r.Intn(len(m.now)+4) - 2
		if e, want := s.Free(no), m.free(no); e != want {
			return fmt.Sprint("Free ", no, e, want)
		}
	}
	return ""
}

// told holds all that s tells against m.
func told(s *space.Space, m *model) string {
	used, fresh, room := m.lists()
	if l := s.Used(); !slices.Equal(l, used) {
		return fmt.Sprint("Used ", l, used)
	}
	if n := s.Room(); n != room {
		return fmt.Sprint("Room ", n, room)
	}
	if b, want := s.Bytes(), written(len(m.now), used...); !bytes.Equal(b, want) {
		return fmt.Sprint("Bytes ", b, want)
	}
	for no := -2; no < len(m.now)+2; no++ {
		if s.Taken(no) != slices.Contains(used, no) || s.Fresh(no) != slices.Contains(fresh, no) {
			return fmt.Sprint("Taken, Fresh of ", no, s.Taken(no), s.Fresh(no))
		}
	}
	return ""
}

// P6.1 to P6.5: many calls, in whatever order, answer as the model does, of spaces that were made and that were loaded.
func TestAsTheModel(t *testing.T) {
	for seed := range 200 {
		r := rand.New(rand.NewSource(int64(seed)))
		n := 1 + seed%40
		first := r.Intn(n + 1)
		s, m := made(t, n, first), modelled(n, first)
		for k := range 500 {
			if seed%4 == 3 && r.Intn(60) == 0 {
				s = load(t, s.Bytes(), n)
				m.then = slices.Clone(m.now)
			}
			if x := step(r, s, m); x != "" {
				t.Fatalf("seed %d, call %d: %s", seed, k, x)
			}
			if x := told(s, m); x != "" {
				t.Fatalf("seed %d, call %d: %s", seed, k, x)
			}
		}
	}
}

// P6.1 to P6.5: so they do of many pages, where what is told is held against the model now and then.
func TestAsTheModelLarge(t *testing.T) {
	for seed := range 12 {
		r := rand.New(rand.NewSource(int64(seed)))
		n := []int{1600, 1599, 777, 1024}[seed%4]
		first := r.Intn(n + 1)
		s, m := made(t, n, first), modelled(n, first)
		for k := range 4000 {
			if x := step(r, s, m); x != "" {
				t.Fatalf("seed %d, call %d: %s", seed, k, x)
			}
			if k%500 == 0 {
				if x := told(s, m); x != "" {
					t.Fatalf("seed %d, call %d: %s", seed, k, x)
				}
			}
		}
	}
}
