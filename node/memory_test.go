package node_test

import (
	"bytes"
	"slices"
	"testing"
	"unsafe"

	"stanchion/api"
	"stanchion/node"
)

// place is a list's memory, its spare room included.
type place struct {
	name     string
	from, to uintptr
}

// placed is where l lies.
func placed[T any](name string, l []T) place {
	from := uintptr(unsafe.Pointer(unsafe.SliceData(l)))
	var x T
	return place{name, from, from + uintptr(cap(l))*unsafe.Sizeof(x)}
}

// places is where all lists of n lie.
func places(name string, n api.Node) []place {
	l := []place{placed(name+": Keys", n.Keys), placed(name+": Vals", n.Vals), placed(name+": Kids", n.Kids)}
	for _, key := range n.Keys {
		l = append(l, placed(name+": a key", key))
	}
	for _, val := range n.Vals {
		l = append(l, placed(name+": a value", val))
	}
	return l
}

// apart holds that none of these lists shares memory with another one of them, or with one of those.
func apart(t *testing.T, these, those []place) {
	t.Helper()
	for i, a := range these {
		for _, l := range [][]place{these[i+1:], those} {
			for _, b := range l {
				if a.from < a.to && b.from < b.to && a.from < b.to && b.from < a.to {
					t.Fatalf("%s and %s share memory", a.name, b.name)
				}
			}
		}
	}
}

// roomy is n in new memory, where each list has spare room, filled.
func roomy(n api.Node) api.Node {
	return api.Node{Leaf: n.Leaf, Keys: roomyTexts(n.Keys), Vals: roomyTexts(n.Vals), Kids: append(slices.Clone(n.Kids), 77, 77, 77)[:len(n.Kids)]}
}

func roomyTexts(l [][]byte) [][]byte {
	var all [][]byte
	for _, b := range l {
		all = append(all, roomyText(b))
	}
	return append(all, []byte("spare"), []byte("room"), nil)[:len(l)]
}

func roomyText(b []byte) []byte {
	return append(bytes.Clone(b), 0xa5, 0x5a, 0xa5, 0x5a)[:len(b)]
}

// whole is all that there is in the memory of n, its spare room included, in new memory.
func whole(n api.Node) api.Node {
	return api.Node{Leaf: n.Leaf, Keys: wholeTexts(n.Keys), Vals: wholeTexts(n.Vals), Kids: slices.Clone(n.Kids[:cap(n.Kids)])}
}

func wholeTexts(l [][]byte) [][]byte {
	var all [][]byte
	for _, b := range l[:cap(l)] {
		all = append(all, wholeText(b))
	}
	return all
}

func wholeText(b []byte) []byte {
	return bytes.Clone(b[:cap(b)])
}

// spoil changes all that there is in the memory of n, its spare room included.
func spoil(n api.Node) {
	for _, l := range [][][]byte{n.Keys, n.Vals} {
		for i, b := range l[:cap(l)] {
			spoilText(b)
			l[:cap(l)][i] = []byte("spoilt")
		}
	}
	for i := range n.Kids[:cap(n.Kids)] {
		n.Kids[:cap(n.Kids)][i] = -5
	}
}

func spoilText(b []byte) {
	for i := range b[:cap(b)] {
		b[:cap(b)][i] ^= 0xff
	}
}

// handed is what a call is handed.
type handed struct {
	n        api.Node
	key, val []byte
	other    api.Node
}

func (h handed) roomy() handed {
	return handed{roomy(h.n), roomyText(h.key), roomyText(h.val), roomy(h.other)}
}

func (h handed) whole() handed {
	return handed{whole(h.n), wholeText(h.key), wholeText(h.val), whole(h.other)}
}

func (h handed) same(g handed) bool {
	return same(h.n, g.n) && bytes.Equal(h.key, g.key) && bytes.Equal(h.val, g.val) && same(h.other, g.other)
}

func (h handed) places() []place {
	l := append(places("the node that was handed in", h.n), places("the other one", h.other)...)
	return append(l, placed("the key that was handed in", h.key), placed("the value", h.val))
}

func (h handed) spoil() {
	spoil(h.n)
	spoil(h.other)
	spoilText(h.key)
	spoilText(h.val)
}

// answer is what a call tells: nodes, and texts.
type answer struct {
	nodes []api.Node
	texts [][]byte
}

func (a answer) same(b answer) bool {
	return slices.EqualFunc(a.nodes, b.nodes, same) && slices.EqualFunc(a.texts, b.texts, bytes.Equal)
}

func (a answer) places() []place {
	var l []place
	for _, n := range a.nodes {
		l = append(l, places("an answer's node", n)...)
	}
	for _, b := range a.texts {
		l = append(l, placed("an answer's text", b))
	}
	return l
}

func (a answer) spoil() {
	for _, n := range a.nodes {
		spoil(n)
	}
	for _, b := range a.texts {
		spoilText(b)
	}
}

// calls are the calls of package node; Decode is handed the value as its bytes.
var calls = map[string]func(h handed) answer{
	"Sound, Size, Find, Kid": func(h handed) answer {
		node.Sound(h.n)
		node.Size(h.n)
		node.Find(h.n, h.key)
		node.Kid(h.n, h.key)
		return answer{}
	},
	"Encode": func(h handed) answer {
		b, _ := node.Encode(h.n)
		return answer{texts: [][]byte{b}}
	},
	"Decode": func(h handed) answer {
		n, _ := node.Decode(h.n.Leaf, h.val)
		return answer{nodes: []api.Node{n}}
	},
	"Put": func(h handed) answer {
		n, _ := node.Put(h.n, h.key, h.val)
		return answer{nodes: []api.Node{n}}
	},
	"Delete": func(h handed) answer {
		n, _ := node.Delete(h.n, h.key)
		return answer{nodes: []api.Node{n}}
	},
	"Split": func(h handed) answer {
		a, key, b, _ := node.Split(h.n)
		return answer{[]api.Node{a, b}, [][]byte{key}}
	},
	"Merge": func(h handed) answer {
		n, _ := node.Merge(h.n, h.key, h.other)
		return answer{nodes: []api.Node{n}}
	},
	"Merge, the other way round": func(h handed) answer {
		n, _ := node.Merge(h.other, h.key, h.n)
		return answer{nodes: []api.Node{n}}
	},
}

// remembered does a call twice of the same, and holds what it leaves; then once more, when all that it was handed and told before is spoilt.
func remembered(t *testing.T, do func(h handed) answer, plain handed) {
	t.Helper()
	h := plain.roomy()
	was := h.whole()
	first, second := do(h), do(h)
	if !h.whole().same(was) {
		t.Fatalf("of %v: what was handed in is changed", plain)
	}
	if !first.same(second) {
		t.Fatalf("of %v: it is %v, then %v", plain, first, second)
	}
	apart(t, first.places(), append(h.places(), second.places()...))
	h.spoil()
	first.spoil()
	if third := do(plain.roomy()); !third.same(second) {
		t.Fatalf("of %v: it is %v, later %v", plain, second, third)
	}
}

// Rules, Memory: no argument is changed or kept, its spare room included; no answer shares memory with an argument, with another answer, or any two lists of it with one another.
func TestMemory(t *testing.T) {
	others := []api.Node{leaf("x", "1", "y", ""), leaf(), leaf("b", "1"), inner([]int{5, 6}, "z"), inner([]int{5, 6}, "b")}
	for _, x := range nodes() {
		if len(x.n.Keys) > 60 {
			continue
		}
		for name, do := range calls {
			t.Run(x.name+": "+name, func(t *testing.T) {
				for i, key := range []string{"a", "b", "w", "zz", "", long(25, "k")} {
					remembered(t, do, handed{x.n, []byte(key), []byte("val"), others[i%5]})
					remembered(t, do, handed{x.n, []byte(key), nil, others[(i+2)%5]})
				}
			})
		}
	}
}

// Rules, Memory: so it is of bytes that are read, of nodes and of others.
func TestDecodeMemory(t *testing.T) {
	for _, n := range some() {
		b := written(n)
		for _, b := range [][]byte{b, b[:len(b)-1], append(bytes.Clone(b), 0)} {
			remembered(t, calls["Decode"], handed{n, nil, b, leaf()})
		}
	}
}

// Rules, Memory: so it is where what is handed in shares memory itself: each key and value a piece of one text, a node handed in twice.
func TestSharedMemory(t *testing.T) {
	text := []byte("abcdefghijklmnop")
	n, m := api.Node{Leaf: true}, api.Node{Kids: []int{9}}
	for i := range 6 {
		n.Keys, n.Vals = append(n.Keys, text[i:i+2]), append(n.Vals, text[i:i+3])
		m.Keys, m.Kids = append(m.Keys, text[i:i+2]), append(m.Kids, i)
	}
	before := bytes.Clone(text)
	a, key, b, ok := node.Split(n)
	c, mid, d, ok2 := node.Split(m)
	e, ok3 := node.Put(n, n.Keys[2], n.Vals[3])
	f, ok4 := node.Put(n, text[9:11], n.Vals[3])
	g, ok5 := node.Delete(n, n.Keys[2])
	h, ok6 := node.Merge(leaf(), n.Keys[0], n)
	i, ok7 := node.Merge(c, m.Keys[3], d)
	if !ok || !ok2 || !ok3 || !ok4 || !ok5 || !ok6 || !ok7 || !bytes.Equal(text, before) {
		t.Fatalf("%v, %v, %v, %v, %v, %v, %v, or %q is changed", ok, ok2, ok3, ok4, ok5, ok6, ok7, text)
	}
	all := answer{[]api.Node{a, b, c, d, e, f, g, h, i}, [][]byte{key, mid}}
	given := append(places("the leaf that was handed in", n), places("the other node", m)...)
	apart(t, all.places(), append(given, placed("the text", text)))
}
