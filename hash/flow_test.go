package hash_test

import (
	"slices"
	"testing"

	"stanchion/api"
	"stanchion/hash"
)

// flows are some of each kind, one whose ends are of unlike kinds either way, and those of the least and the greatest bytes.
func flows() []api.Flow {
	return []api.Flow{
		{Src: fourA, Dst: fourB, SrcPort: 40000, DstPort: 80, Proto: 6},
		{Src: fourB, Dst: fourA, SrcPort: 53, DstPort: 4000, Proto: 17},
		{Src: sixA, Dst: sixB, SrcPort: 1, DstPort: 65535, Proto: 6},
		{Src: sixB, Dst: sixA, SrcPort: 65534, DstPort: 258, Proto: 17},
		{},
		{Src: fourFull, Dst: fourFull, SrcPort: 65535, DstPort: 65535, Proto: 255},
		{Src: sixZero, Dst: sixZero},
		{Src: sixFull, Dst: sixFull, SrcPort: 65535, DstPort: 65535, Proto: 255},
		{Src: fourA, Dst: sixB, SrcPort: 258, DstPort: 772, Proto: 6},
		{Src: sixB, Dst: fourA, SrcPort: 258, DstPort: 772, Proto: 6},
	}
}

// toldFlows are the numbers of flows, reckoned apart from the program, of seeds of 0, 1, 2^63 and 2^64 - 1.
var toldFlows = [][4]uint64{
	{0x6644d08942237c44, 0x16137008df46d7d8, 0xeaef6d564476a2ab, 0x10191f6c4832bf9c},
	{0x5f76d7759560e47c, 0x68cbc552397c6dda, 0xdacc3aa897bd9292, 0x93b6588b3f3c79db},
	{0xe40c4877ec42e573, 0x147f3133b854618f, 0x68b6e5446a1fb3ea, 0xc0990cb17131c2f4},
	{0xe7c0df08bbffa3af, 0x5b11328b9286a9a0, 0x6316423c3994ed35, 0xd9025ead400016da},
	{0x9b3586d6d0dfee0b, 0xc11f264defbae640, 0x1fe023a352b53cb1, 0x16f9cb81c08f3f59},
	{0x1b4e5971672089fa, 0x9a609b2acf457cca, 0x9ff8f63e657bde5d, 0x84c9a7f2d1b426f3},
	{0x4e17803e31cdc503, 0x032bc928c9c03e6a, 0xd2c21d0abfa70b99, 0x5770dfb708388722},
	{0xb43787c2a4fd9b78, 0x0e892760bdb65a0a, 0x38e2248fa2974ade, 0x274f19a3f1adaf29},
	{0xc00b40bb5a06438f, 0xf1e4d6ec7cecfc87, 0x44b5dd87d8590d11, 0x3f6a3dd7ff4fa61d},
	{0xd9c9707d1c5d74f4, 0x019c5d2d1cfdb5b9, 0x5e740d4a1f83ca6f, 0x62a29f897ecbe402},
}

// P18.2: flows of each kind with seeds at the edges.
func TestFlow(t *testing.T) {
	for i, f := range flows() {
		for k, seed := range seeds()[:4] {
			if got := hash.Flow(seed, f); got != toldFlows[i][k] {
				t.Errorf("Flow(%#x, %v) is %#x, not %#x", seed, f, got, toldFlows[i][k])
			}
			if slow := slowFlow(seed, f); slow != toldFlows[i][k] {
				t.Errorf("seed %#x, %v: %#x by the document's words, not %#x", seed, f, slow, toldFlows[i][k])
			}
		}
	}
}

// P18.2: a flow's number is that of its bytes, which Sum tells: 13 of them, 37, or 25.
func TestFlowIsASum(t *testing.T) {
	for _, seed := range seeds() {
		for _, f := range flows() {
			wantSum(t, "the bytes of a flow", hash.Flow(seed, f), seed, slowBytes(f.Src), slowBytes(f.Dst), []byte{byte(f.SrcPort >> 8), byte(f.SrcPort), byte(f.DstPort >> 8), byte(f.DstPort), f.Proto})
		}
	}
}

// P18.2: each port at either end, 0 and 65535 among them; each has a number of its own.
func TestEachPort(t *testing.T) {
	for i, f := range []api.Flow{flows()[0], flows()[3]} {
		seed := seeds()[i+1]
		from, to := map[uint64]bool{}, map[uint64]bool{}
		for n := range 1 << 16 {
			a, b := f, f
			a.SrcPort, b.DstPort = uint16(n), uint16(n)
			wantFlow(t, seed, a)
			wantFlow(t, seed, b)
			from[hash.Flow(seed, a)] = true
			to[hash.Flow(seed, b)] = true
		}
		if len(from) != 1<<16 || len(to) != 1<<16 {
			t.Errorf("%v: %d numbers of ports it comes from, %d of those it goes to", f, len(from), len(to))
		}
	}
}

// P18.2: ports at the edges at both ends, with each seed.
func TestPorts(t *testing.T) {
	edges := []uint16{0, 1, 127, 128, 255, 256, 257, 32767, 32768, 65280, 65534, 65535}
	for _, seed := range seeds() {
		for _, f := range flows() {
			for _, f.SrcPort = range edges {
				for _, f.DstPort = range edges {
					wantFlow(t, seed, f)
				}
			}
		}
	}
}

// P18.2: whatever Proto, each with a number of its own.
func TestEachProto(t *testing.T) {
	for _, seed := range seeds() {
		for _, f := range flows() {
			seen := map[uint64]bool{}
			for n := range 256 {
				f.Proto = byte(n)
				wantFlow(t, seed, f)
				seen[hash.Flow(seed, f)] = true
			}
			if len(seen) != 256 {
				t.Errorf("seed %#x, %v: %d numbers of 256 Protos", seed, f, len(seen))
			}
		}
	}
}

// P18.2: whatever addresses, of one kind or of unlike ones, at either end.
func TestAddresses(t *testing.T) {
	for _, seed := range seeds() {
		for _, a := range addresses() {
			for _, b := range addresses() {
				wantFlow(t, seed, api.Flow{Src: a, Dst: b, SrcPort: 1025, DstPort: 443, Proto: 6})
				wantFlow(t, seed, api.Flow{Src: a, Dst: b})
			}
		}
	}
}

// others are f with one field alone another one: each bit of each address that its kind has, each address as others, each bit of each port and of Proto.
func others(f api.Flow) []api.Flow {
	var l []api.Flow
	for bit := range 128 {
		for _, x := range []api.Addr{f.Src, f.Dst} {
			x.B[bit/8] ^= 1 << (bit % 8)
			if !x.Six && bit < 96 {
				continue
			}
			one, two := f, f
			one.Src, two.Dst = x, x
			l = append(l, one, two)
		}
	}
	for _, a := range addresses() {
		one, two := f, f
		one.Src, two.Dst = a, a
		l = append(l, one, two)
	}
	for bit := range 16 {
		one, two := f, f
		one.SrcPort ^= 1 << bit
		two.DstPort ^= 1 << bit
		l = append(l, one, two)
	}
	for bit := range 8 {
		one := f
		one.Proto ^= 1 << bit
		l = append(l, one)
	}
	return l
}

// P18.2: each field matters, alone.
func TestEachFieldMatters(t *testing.T) {
	for _, seed := range seeds() {
		for _, f := range flows() {
			for _, other := range others(f) {
				wantFlow(t, seed, other)
				if f != other && hash.Flow(seed, f) == hash.Flow(seed, other) {
					t.Errorf("seed %#x: %v and %v have the same number", seed, f, other)
				}
			}
		}
	}
}

// P18.2: which end is which matters: the ends, the addresses and the ports exchanged make other numbers.
func TestEndsExchanged(t *testing.T) {
	for _, seed := range seeds() {
		for _, f := range slices.Concat(flows()[:4], flows()[8:]) {
			back, addresses, ports := f, f, f
			back.Src, back.Dst, back.SrcPort, back.DstPort = f.Dst, f.Src, f.DstPort, f.SrcPort
			addresses.Src, addresses.Dst = f.Dst, f.Src
			ports.SrcPort, ports.DstPort = f.DstPort, f.SrcPort
			seen := map[uint64]bool{}
			for _, x := range []api.Flow{f, back, addresses, ports} {
				wantFlow(t, seed, x)
				seen[hash.Flow(seed, x)] = true
			}
			if len(seen) != 4 {
				t.Errorf("seed %#x: %v has the same number with its ends exchanged", seed, f)
			}
		}
	}
}

// P18.2: of an address of IPv4 that is not good its last four bytes count, as of the good one, at either end.
func TestFlowNotGood(t *testing.T) {
	for _, seed := range seeds() {
		for _, f := range flows() {
			for _, a := range []api.Addr{fourA, fourB, fourFull} {
				for _, bad := range bads(a) {
					one, two := f, f
					one.Src, two.Dst = bad, bad
					wantFlow(t, seed, one)
					wantFlow(t, seed, two)
					want := one
					want.Src = a
					if hash.Flow(seed, one) != hash.Flow(seed, want) {
						t.Errorf("seed %#x: %v is not as %v", seed, one, want)
					}
				}
			}
		}
	}
}

// P18.2: of an address of IPv6 all sixteen bytes count, though the first twelve be 0, as of IPv4.
func TestFlowOfSixWithNoughts(t *testing.T) {
	for _, seed := range seeds() {
		for _, f := range flows()[:2] {
			one, two := f, f
			one.Src.Six = true
			two.Dst.Six = true
			for _, x := range []api.Flow{one, two} {
				wantFlow(t, seed, x)
				if hash.Flow(seed, x) == hash.Flow(seed, f) {
					t.Errorf("seed %#x: %v and %v have the same number", seed, f, x)
				}
			}
		}
	}
}

// P18.2, P18.3: where bytes are cut between two addresses of unlike kinds makes no difference: the same bytes in a row have the same number.
func TestUnlikeKindsInARow(t *testing.T) {
	row := text(20, 31)
	one := api.Flow{Src: four(row[:4]...), Dst: six(row[4:]...), SrcPort: 7, DstPort: 9, Proto: 17}
	two := api.Flow{Src: six(row[:16]...), Dst: four(row[16:]...), SrcPort: 7, DstPort: 9, Proto: 17}
	for _, seed := range seeds() {
		wantFlow(t, seed, one)
		wantFlow(t, seed, two)
		if hash.Flow(seed, one) != hash.Flow(seed, two) {
			t.Errorf("seed %#x: the same bytes have two numbers", seed)
		}
	}
}

// P18.2: drawn flows, of whatever addresses, good or not, with drawn seeds.
func TestDrawnFlows(t *testing.T) {
	r := draw(32)
	for range 20000 {
		wantFlow(t, r.Uint64(), drawn(r))
	}
}
