package tree

import (
	"math"
	"math/rand"
	"slices"
	"testing"

	"wharfage/api"
	"wharfage/bitmap"
	"wharfage/heap"
	"wharfage/node"
	"wharfage/octets"
)

// leaf returns a leaf with these keys, each with itself as its value.
func leaf(keys ...string) node.Node {
	var n node.Node
	for _, k := range keys {
		n.Items = append(n.Items, api.Item{Key: k, Value: k})
	}
	return n
}

// branch returns a branch with these keys and kids.
func branch(keys []string, kids ...int) node.Node {
	n := node.Node{Kids: kids}
	for _, k := range keys {
		n.Items = append(n.Items, api.Item{Key: k})
	}
	return n
}

// putNode writes a node to a page, which is in use then.
func putNode(t *testing.T, h *heap.Heap, page int, n node.Node) {
	t.Helper()
	text, why := node.Encode(n)
	must(t, why)
	h.Put(page, text)
	setUsed(h, page, true)
}

func setUsed(h *heap.Heap, page int, on bool) {
	bits, _ := bitmap.Set(h.Get(1), page, on)
	h.Put(1, bits)
}

func putRoot(h *heap.Heap, page int, many uint64) {
	h.Put(0, octets.Pad(octets.Num(2, uint64(page))+octets.Num(8, many), 480))
}

// putByte changes a byte of a page.
func putByte(h *heap.Heap, page, at int, c byte) {
	b := []byte(h.Get(page))
	b[at] = c
	h.Put(page, string(b))
}

// small puts a valid tree with a depth of 3 and the items a c, f h, m p, t z.
func small(t *testing.T, h *heap.Heap) {
	t.Helper()
	putRoot(h, 10, 8)
	putNode(t, h, 10, branch([]string{"m"}, 11, 12))
	putNode(t, h, 11, branch([]string{"f"}, 13, 14))
	putNode(t, h, 12, branch([]string{"t"}, 15, 16))
	putNode(t, h, 13, leaf("a", "c"))
	putNode(t, h, 14, leaf("f", "h"))
	putNode(t, h, 15, leaf("m", "p"))
	putNode(t, h, 16, leaf("t", "z"))
}

func modelOf(keys ...string) map[string]string {
	model := map[string]string{}
	for _, k := range keys {
		model[k] = k
	}
	return model
}

func TestP13_2Functions(t *testing.T) {
	s := formatted(t, 20)
	view(t, s, func(h *heap.Heap) {
		if Depth(h) != 0 || len(Pages(h)) != 0 || Check(h) != api.OK {
			t.Error("the empty tree")
		}
		Put(h, "a", "")
		if Depth(h) != 1 || !slices.Equal(Pages(h), []int{2}) || Check(h) != api.OK {
			t.Error(Depth(h), Pages(h))
		}
	})
	view(t, s, func(h *heap.Heap) {
		small(t, h)
		l := Pages(h)
		slices.Sort(l)
		if Depth(h) != 3 || !slices.Equal(l, []int{10, 11, 12, 13, 14, 15, 16}) || Check(h) != api.OK {
			t.Error(Depth(h), l, Check(h))
		}
		isTree(t, h, modelOf("a", "c", "f", "h", "m", "p", "t", "z"))
	})
}

func TestP13_2CheckOfOtherValidTrees(t *testing.T) {
	s := formatted(t, 20)
	for i, change := range []func(h *heap.Heap){
		func(h *heap.Heap) { putNode(t, h, 14, leaf("g", "h")) },
		func(h *heap.Heap) { putNode(t, h, 14, leaf("f", "l\xff")) },
		func(h *heap.Heap) { putNode(t, h, 13, leaf("\x00", "e\xff")) },
		func(h *heap.Heap) { putNode(t, h, 16, leaf("t\x00", "\xff")) },
		func(h *heap.Heap) { setUsed(h, 7, true) },
		func(h *heap.Heap) { h.Put(1, letters(255, 480)) },
		func(h *heap.Heap) { h.Put(7, letters('x', 480)); setUsed(h, 3839, true) },
		func(h *heap.Heap) { putRoot(h, 11, 4) },
		func(h *heap.Heap) { putRoot(h, 13, 2) },
		func(h *heap.Heap) { putRoot(h, 0, 0) },
		func(h *heap.Heap) { putNode(t, h, 19, branch(nil, 10)); putRoot(h, 19, 8) },
		func(h *heap.Heap) {
			putNode(t, h, 2, branch(nil, 13))
			putNode(t, h, 11, branch(nil, 2))
			putRoot(h, 11, 2)
		},
	} {
		view(t, s, func(h *heap.Heap) {
			small(t, h)
			change(h)
			if why := Check(h); why != api.OK || !isValidModel(h) {
				t.Error(i, why)
			}
		})
	}
}

func TestP13_2CheckOfOthers(t *testing.T) {
	s := formatted(t, 20)
	node13 := func(keys ...string) func(h *heap.Heap) {
		return func(h *heap.Heap) { putNode(t, h, 13, leaf(keys...)) }
	}
	put := func(page int, n node.Node) func(h *heap.Heap) {
		return func(h *heap.Heap) { putNode(t, h, page, n) }
	}
	root := func(page int, many uint64) func(h *heap.Heap) {
		return func(h *heap.Heap) { putRoot(h, page, many) }
	}
	changes := []func(h *heap.Heap){
		// The number of items.
		root(10, 7), root(10, 9), root(10, 0), root(10, math.MaxUint64), root(11, 8), root(0, 8), root(0, 1), root(0, 1<<63),
		node13("a"), node13("a", "b", "c"),
		// The root page.
		root(1, 8), root(2, 8), root(20, 8), root(3839, 8), root(3840, 8), root(65535, 8), root(7, 0),
		func(h *heap.Heap) { putByte(h, 0, 10, 1) },
		func(h *heap.Heap) { putByte(h, 0, 479, 1) },
		func(h *heap.Heap) { putRoot(h, 0, 0); putByte(h, 0, 300, 1) },
		func(h *heap.Heap) { h.Put(0, letters(255, 480)) },
		// The bitmap happens to be a node: its pages 1, 8 and 27 are in use.
		func(h *heap.Heap) {
			putNode(t, h, 8, leaf("a", "c"))
			putRoot(h, 1, 2)
			h.Put(1, octets.Pad("\x02\x01\x00\x08", 480))
		},
		// Pages that contain no node.
		func(h *heap.Heap) { h.Put(10, letters(0, 480)) },
		func(h *heap.Heap) { h.Put(11, letters(0, 480)) },
		func(h *heap.Heap) { h.Put(16, letters('x', 480)) },
		func(h *heap.Heap) { putByte(h, 15, 479, 1) },
		put(12, branch([]string{"t"}, 15, 2)), put(12, branch([]string{"t"}, 15, 20)), put(12, branch([]string{"t"}, 15, 3839)),
		// Nodes that share a page.
		put(12, branch([]string{"t"}, 15, 15)), put(12, branch([]string{"t"}, 15, 12)), put(12, branch([]string{"t"}, 15, 10)),
		put(10, branch([]string{"m"}, 11, 11)), put(10, branch([]string{"m"}, 10, 12)), put(12, branch([]string{"t"}, 14, 16)),
		// Leaves of different depths.
		put(12, leaf("m", "p", "t", "z")), put(11, leaf("a", "c", "f", "h")), put(10, branch([]string{"m"}, 11, 15)),
		func(h *heap.Heap) { putNode(t, h, 16, branch(nil, 17)); putNode(t, h, 17, leaf("t", "z")) },
		func(h *heap.Heap) { putNode(t, h, 13, branch(nil, 17)); putNode(t, h, 17, leaf("a", "c")) },
		// Keys that are too great, or too small.
		node13("a", "f"), node13("a", "g"), node13("f", "g"), node13("a", "z"),
		put(14, leaf("e", "h")), put(14, leaf("e\xff", "h")), put(14, leaf("f", "m")), put(14, leaf("f", "m\x00")),
		put(15, leaf("l", "p")), put(15, leaf("a", "b")), put(15, leaf("m", "t")), put(16, leaf("s", "z")), put(16, leaf("a", "c")),
		put(11, branch([]string{"c"}, 13, 14)), put(11, branch([]string{"g"}, 13, 14)), put(11, branch([]string{"n"}, 13, 14)),
		put(12, branch([]string{"b"}, 15, 16)), put(12, branch([]string{"\xff"}, 15, 16)), put(10, branch([]string{"g"}, 11, 12)),
		put(10, branch([]string{"n"}, 11, 12)), put(10, branch([]string{"m"}, 12, 11)),
	}
	for page := 10; page <= 16; page++ { // pages that are not in use
		changes = append(changes, func(h *heap.Heap) { setUsed(h, page, false) })
	}
	for i, change := range changes {
		view(t, s, func(h *heap.Heap) {
			small(t, h)
			change(h)
			before := contents(h)
			if why := Check(h); why != api.ErrForm || isValidModel(h) {
				t.Error(i, why)
			}
			if !slices.Equal(contents(h), before) {
				t.Error(i, "it was changed")
			}
		})
	}
}

// found is what a model finds below a page.
type found struct {
	ok     bool
	keys   []string
	depths map[int]bool
	items  uint64
}

// isValidModel is a model of Check: the definition of a valid tree, word by
// word.
func isValidModel(h *heap.Heap) bool {
	text := h.Get(0)
	first := int(text[0])*256 + int(text[1])
	r := octets.Open(text[2:])
	many := r.Num(8)
	if !octets.Noughts(text[10:]) {
		return false
	}
	if first == 0 {
		return many == 0
	}
	x := modelBelow(h, first, 1, map[int]bool{})
	return x.ok && x.items == many && len(x.depths) == 1
}

func modelBelow(h *heap.Heap, page, depth int, visited map[int]bool) found {
	if page < 2 || page >= h.Pages() || visited[page] || !bitmap.Used(h.Get(1), page) {
		return found{}
	}
	visited[page] = true
	n, why := node.Decode(h.Get(page))
	if why != api.OK {
		return found{}
	}
	all := found{ok: true, depths: map[int]bool{}}
	for _, x := range n.Items {
		all.keys = append(all.keys, x.Key)
	}
	if len(n.Kids) == 0 {
		all.depths[depth] = true
		all.items = uint64(len(n.Items))
	}
	for i, kid := range n.Kids {
		x := modelBelow(h, kid, depth+1, visited)
		if !x.ok {
			return found{}
		}
		for _, k := range x.keys {
			if i < len(n.Items) && k >= n.Items[i].Key || i > 0 && k < n.Items[i-1].Key {
				return found{}
			}
		}
		for d := range x.depths {
			all.depths[d] = true
		}
		all.keys = append(all.keys, x.keys...)
		all.items += x.items
	}
	return all
}

// call is a call of one of the functions.
type call struct {
	name string
	by   func(h *heap.Heap)
}

// calls returns calls of all functions but Check.
func calls(key string) []call {
	return []call{
		{"Get", func(h *heap.Heap) { Get(h, key) }},
		{"Put", func(h *heap.Heap) { Put(h, key, letters('v', 64)) }},
		{"Delete", func(h *heap.Heap) { Delete(h, key) }},
		{"Scan", func(h *heap.Heap) { Scan(h, key, 1+len(key)) }},
		{"Scan of all", func(h *heap.Heap) { Scan(h, "", math.MaxInt) }},
		{"Depth", func(h *heap.Heap) { Depth(h) }},
		{"Pages", func(h *heap.Heap) { Pages(h) }},
		{"Many", func(h *heap.Heap) { Many(h) }},
	}
}

func TestP13_1PagesWithoutANode(t *testing.T) {
	s := formatted(t, 20)
	for i, x := range []struct {
		change func(h *heap.Heap)
		key    string // a key whose path has the page
		spares string // what need not visit the page
	}{
		{func(h *heap.Heap) { h.Put(10, letters(0, 480)) }, "a", ""},
		{func(h *heap.Heap) { putRoot(h, 1, 8) }, "a", ""},
		{func(h *heap.Heap) { putRoot(h, 2, 8) }, "a", ""},
		{func(h *heap.Heap) { putRoot(h, 20, 8) }, "a", ""},
		{func(h *heap.Heap) { putRoot(h, 65535, 8) }, "a", ""},
		{func(h *heap.Heap) { h.Put(12, letters('x', 480)) }, "p", "Depth"},
		{func(h *heap.Heap) { h.Put(15, letters(1, 480)) }, "p", "Depth"},
		{func(h *heap.Heap) { putNode(t, h, 12, branch([]string{"t"}, 20, 16)) }, "p", "Depth"},
		{func(h *heap.Heap) { putNode(t, h, 12, branch([]string{"t"}, 3839, 16)) }, "p", "Depth"},
	} {
		for _, c := range calls(x.key) {
			if c.name == x.spares || c.name == "Many" {
				continue
			}
			waiting := s.Waiting()
			if why := heap.Do(s, func(h *heap.Heap) {
				small(t, h)
				x.change(h)
				c.by(h)
				t.Error(i, c.name, "it went on")
			}); why != api.ErrForm || s.Waiting() != waiting {
				t.Error(i, c.name, why)
			}
		}
	}
}

func TestP13_1KeysThatAreOutOfPlace(t *testing.T) {
	// A part that is split off has no place in its branch.
	s := formatted(t, 20)
	waiting := s.Waiting()
	if why := heap.Do(s, func(h *heap.Heap) {
		putRoot(h, 10, 8)
		putNode(t, h, 10, branch([]string{"m"}, 11, 12))
		putNode(t, h, 11, leaf("n"+letters('k', 63), "o"+letters('k', 63), "p"+letters('k', 63)))
		putNode(t, h, 12, leaf("q"))
		Put(h, "a"+letters('k', 63), letters('v', 64))
		t.Error("it went on")
	}); why != api.ErrForm || s.Waiting() != waiting {
		t.Error(why)
	}
}

func TestP13_1DeleteReleasesPages(t *testing.T) {
	s := formatted(t, 20)
	three := func(h *heap.Heap, a, b, c string) {
		putRoot(h, 10, 6)
		putNode(t, h, 10, branch([]string{"c", "e"}, 11, 12, 13))
		putNode(t, h, 11, leaf("a", "b"+a))
		putNode(t, h, 12, leaf("c", "d"+b))
		putNode(t, h, 13, leaf("e", "f"+c))
	}
	large := letters('l', 63)
	for i, x := range []struct {
		a, b, c string
		key     string
		depth   int
		pages   int
	}{
		// The leaf is joined with those beside it, if they fit on one page.
		{"", "", "", "a", 2, 3},
		{"", "", "", "c", 1, 1},
		{"", "", "", "e", 2, 3},
		{large, "", "", "d", 1, 1},
		{large, large, large, "d" + large, 1, 1},
	} {
		view(t, s, func(h *heap.Heap) {
			three(h, x.a, x.b, x.c)
			model := modelOf("a", "b"+x.a, "c", "d"+x.b, "e", "f"+x.c)
			isTree(t, h, model)
			if !Delete(h, x.key) {
				t.Error(i)
			}
			delete(model, x.key)
			if got := isTree(t, h, model); Depth(h) != x.depth || len(got.pages) != x.pages {
				t.Error(i, Depth(h), got.pages)
			}
		})
	}
	// A root with a single kid is not needed.
	view(t, s, func(h *heap.Heap) {
		small(t, h)
		putNode(t, h, 17, branch(nil, 10))
		putNode(t, h, 18, branch(nil, 17))
		putRoot(h, 18, 8)
		Delete(h, "z")
		model := modelOf("a", "c", "f", "h", "m", "p", "t")
		if got := isTree(t, h, model); Depth(h) > 3 {
			t.Error(Depth(h), got.pages)
		}
	})
}

func TestP13_1PagesThatAreNotVisited(t *testing.T) {
	s := formatted(t, 20)
	view(t, s, func(h *heap.Heap) {
		small(t, h)
		h.Put(16, letters('x', 480))
		if v, have := Get(h, "h"); v != "h" || !have {
			t.Error(v, have)
		}
		if l := Scan(h, "c", 5); len(l) != 5 || l[4].Key != "p" {
			t.Error(l)
		}
		h.Put(13, letters('x', 480))
		if l := Scan(h, "f", 4); len(l) != 4 || l[0].Key != "f" || l[3].Key != "p" {
			t.Error(l)
		}
	})
}

func TestP13_1Circles(t *testing.T) {
	many := func(page int) node.Node {
		n := node.Node{Kids: []int{page}}
		for i := range 119 {
			n.Items = append(n.Items, api.Item{Key: string([]byte{byte(2 * i)})})
			n.Kids = append(n.Kids, page)
		}
		return n
	}
	for _, size := range []int{8, 100, 700} {
		s := formatted(t, size)
		for i, put := range []func(h *heap.Heap){
			func(h *heap.Heap) { putNode(t, h, 2, branch(nil, 2)) },
			func(h *heap.Heap) { putNode(t, h, 2, branch([]string{"m"}, 2, 2)) },
			func(h *heap.Heap) { putNode(t, h, 2, branch(nil, 3)); putNode(t, h, 3, branch(nil, 2)) },
			func(h *heap.Heap) {
				putNode(t, h, 2, branch([]string{"m"}, 3, 3))
				putNode(t, h, 3, branch([]string{"c"}, 2, 2))
			},
			func(h *heap.Heap) { putNode(t, h, 2, many(2)) },
			func(h *heap.Heap) { putNode(t, h, 2, many(3)); putNode(t, h, 3, many(2)) },
		} {
			view(t, s, func(h *heap.Heap) {
				putRoot(h, 2, 5)
				put(h)
				if why := Check(h); why != api.ErrForm {
					t.Error(i, why)
				}
			})
			for _, c := range calls("key") {
				if c.name == "Many" {
					continue
				}
				waiting := s.Waiting()
				if why := heap.Do(s, func(h *heap.Heap) {
					putRoot(h, 2, 5)
					put(h)
					c.by(h)
				}); why != api.ErrForm || s.Waiting() != waiting {
					t.Error(size, i, c.name, why)
				}
			}
		}
	}
}

// forked puts a tree in which each branch has the page of its kid twice: it
// has few pages, but very many paths.
func forked(t *testing.T, h *heap.Heap) {
	t.Helper()
	putRoot(h, 2, 5)
	for page := 2; page < 90; page++ {
		putNode(t, h, page, branch([]string{"m"}, page+1, page+1))
	}
	putNode(t, h, 90, leaf("a", "key", "z"))
}

func TestP13_1MoreNodesThanFourTimesThePages(t *testing.T) {
	s := formatted(t, 100)
	for _, c := range calls("key") {
		why := heap.View(s, func(h *heap.Heap) { forked(t, h); c.by(h) })
		if c.name == "Pages" || c.name == "Scan of all" {
			if why != api.ErrForm {
				t.Error(c.name, why)
			}
		} else if why != api.OK && why != api.ErrForm && why != api.ErrArg {
			t.Error(c.name, why)
		}
	}
}

// sparse puts a valid tree of branches with at most so many kids, and leaves
// with single items. It returns the items.
func sparse(t *testing.T, h *heap.Heap, r *rand.Rand, depth, kids int) map[string]string {
	t.Helper()
	model := map[string]string{}
	many := uint64(0)
	next := 0
	var build func(depth int) (int, string)
	build = func(depth int) (int, string) {
		page := h.Take()
		if depth == 1 {
			next++
			k := string([]byte{byte('a' + next/26%26), byte('a' + next%26)}) + letters('k', r.Intn(63))
			model[k] = k
			many++
			putNode(t, h, page, leaf(k))
			return page, k
		}
		var n node.Node
		lowest := ""
		for i := range 1 + r.Intn(kids) {
			kid, key := build(depth - 1)
			n.Kids = append(n.Kids, kid)
			if i > 0 {
				n.Items = append(n.Items, api.Item{Key: key})
			} else {
				lowest = key
			}
		}
		putNode(t, h, page, n)
		return page, lowest
	}
	page, _ := build(depth)
	putRoot(h, page, many)
	return model
}

func TestP13_4TreesWithFewKids(t *testing.T) {
	// They are valid, too, though no sequence of calls may lead to them.
	r := rand.New(rand.NewSource(19))
	for round := range 60 {
		s := formatted(t, 1500)
		view(t, s, func(h *heap.Heap) {
			depth := 1 + r.Intn(6)
			kids := 1 + r.Intn(3)
			if kids == 1 {
				depth = 1 + r.Intn(200)
			}
			model := sparse(t, h, r, depth, kids)
			if Depth(h) != depth {
				t.Error(Depth(h), depth)
			}
			isTree(t, h, model)
			x := random{r, "abcdefghijk", 5, 64}
			for range 60 {
				k, v := x.key(), x.value()
				l := sorted(model)
				isPut := round%3 == 0 || round%3 == 1 && r.Intn(2) == 0
				if len(l) > 0 && (!isPut || r.Intn(4) == 0) {
					k = l[r.Intn(len(l))].Key
				}
				c := costOf(h, func() {
					if isPut {
						Put(h, k, v)
					} else if _, have := model[k]; Delete(h, k) != have {
						t.Error(k, have)
					}
				})
				if isPut {
					model[k] = v
				} else {
					delete(model, k)
				}
				if c.changed > 3*c.depth+4 || isPut && c.taken > c.depth+1 || !isPut && c.taken > 0 {
					t.Error(round, isPut, c)
				}
				isTree(t, h, model)
				compare(t, h, model, k, 3)
			}
		})
	}
}

func TestP13_1TheDeepestTree(t *testing.T) {
	s := formatted(t, 3840)
	r := rand.New(rand.NewSource(20))
	build := func(h *heap.Heap) map[string]string { return sparse(t, h, r, 3838, 1) }
	view(t, s, func(h *heap.Heap) {
		model := build(h)
		if Depth(h) != 3838 || h.Free() != 0 {
			t.Error(Depth(h), h.Free())
		}
		isTree(t, h, model)
		for i := range 3 { // they still fit in the leaf
			k := string([]byte{byte('p' + i)})
			Put(h, k, k)
			model[k] = k
			isTree(t, h, model)
		}
		for k := range model {
			if !Delete(h, k) {
				t.Error(k)
			}
			delete(model, k)
			isTree(t, h, model)
		}
		if h.Free() != 3838 {
			t.Error(h.Free())
		}
	})
	if why := heap.View(s, func(h *heap.Heap) {
		build(h)
		for i := range 5 {
			Put(h, string([]byte{byte(i)})+letters('k', 63), letters('v', 64))
		}
		t.Error("it went on")
	}); why != api.ErrDisk {
		t.Error(why)
	}
}

// spoil changes something of a tree.
func spoil(t *testing.T, h *heap.Heap, r *rand.Rand) {
	t.Helper()
	page := r.Intn(h.Pages())
	if l := []int{0, 1, 2, 3, 4, page}; r.Intn(2) == 0 {
		page = l[r.Intn(len(l))]
	}
	bytes := []byte{0, 1, 2, 3, 4, 5, 64, 'a', 255, byte(r.Intn(256))}
	switch r.Intn(6) {
	case 0:
		putByte(h, page, r.Intn(12), bytes[r.Intn(len(bytes))])
	case 1:
		putByte(h, page, r.Intn(480), bytes[r.Intn(len(bytes))])
	case 2:
		h.Put(page, h.Get(r.Intn(h.Pages())))
	case 3:
		setUsed(h, page, r.Intn(2) == 0)
	case 4: // another kid
		if n, why := node.Decode(h.Get(page)); why == api.OK && len(n.Kids) > 0 {
			n.Kids[r.Intn(len(n.Kids))] = 2 + r.Intn(h.Pages())
			putNode(t, h, page, n)
		}
	case 5: // another key
		if n, why := node.Decode(h.Get(page)); why == api.OK && len(n.Items) > 0 {
			n.Items[r.Intn(len(n.Items))].Key = string([]byte{bytes[r.Intn(len(bytes))], 'c'})
			if text, why := node.Encode(n); why == api.OK {
				h.Put(page, text)
			}
		}
	}
}

func TestP1OtherContents(t *testing.T) {
	r := rand.New(rand.NewSource(21))
	ends := map[api.Errno]int{}
	valid := 0
	for round := range 1500 {
		s := formatted(t, 8+r.Intn(60))
		x := kinds(int64(round))[round%5]
		full := heap.Do(s, func(h *heap.Heap) {
			for range r.Intn(1 + r.Intn(120)) {
				if h.Free() <= Depth(h) {
					break
				}
				Put(h, x.key(), x.value())
			}
			for range 1 + r.Intn(4) {
				spoil(t, h, r)
			}
			before := contents(h)
			if why := Check(h); (why == api.OK) != isValidModel(h) || why != api.OK && why != api.ErrForm {
				t.Error(round, why)
			} else if why == api.OK {
				valid++
			}
			if !slices.Equal(contents(h), before) {
				t.Error(round, "Check changed it")
			}
		})
		must(t, full)
		key := x.key()
		for _, c := range calls(key) {
			why := heap.View(s, c.by)
			ends[why]++
			if why != api.OK && why != api.ErrForm && why != api.ErrArg && why != api.ErrDisk {
				t.Error(round, c.name, why)
			}
		}
		// One call after another, whatever they leave behind.
		for range 10 {
			l := calls(x.key())
			if why := heap.Do(s, l[1+r.Intn(2)].by); why != api.OK && why != api.ErrForm && why != api.ErrArg && why != api.ErrDisk {
				t.Error(round, why)
			}
			view(t, s, func(h *heap.Heap) { Check(h) })
		}
	}
	if valid < 100 || valid > 1400 || ends[api.OK] < 1000 || ends[api.ErrForm] < 1000 || ends[api.ErrArg] == 0 {
		t.Error(valid, ends)
	}
}

func TestP1HeapsWithoutATransaction(t *testing.T) {
	var ended *heap.Heap
	s := formatted(t, 20)
	do(t, s, func(h *heap.Heap) {
		small(t, h)
		ended = h
	})
	for i, h := range []*heap.Heap{nil, {}, ended} {
		for _, c := range calls("a") {
			c.by(h)
		}
		Put(h, "", "")
		if v, have := Get(h, "a"); v != "" || have {
			t.Error(i, v, have)
		}
		if Delete(h, "a") || len(Scan(h, "", 9)) != 0 || Many(h) != 0 || Depth(h) != 0 || len(Pages(h)) != 0 || Check(h) != api.ErrForm {
			t.Error(i, Many(h), Depth(h), Check(h))
		}
	}
	view(t, s, func(h *heap.Heap) { isTree(t, h, modelOf("a", "c", "f", "h", "m", "p", "t", "z")) })
}

func TestP2ResultsAreNewMemory(t *testing.T) {
	s := formatted(t, 20)
	view(t, s, func(h *heap.Heap) {
		small(t, h)
		items, l := Scan(h, "", 9), Pages(h)
		first, again := slices.Clone(items), slices.Clone(l)
		for i := range items {
			items[i] = api.Item{Key: "spoilt"}
		}
		for i := range l {
			l[i] = -7
		}
		if !slices.Equal(Scan(h, "", 9), first) || !slices.Equal(Pages(h), again) {
			t.Error("a result has changed")
		}
	})
}
