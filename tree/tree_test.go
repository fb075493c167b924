package tree

import (
	"maps"
	"math"
	"math/rand"
	"slices"
	"strings"
	"testing"

	"wharfage/api"
	"wharfage/bitmap"
	"wharfage/disk"
	"wharfage/heap"
	"wharfage/node"
	"wharfage/octets"
	"wharfage/pages"
)

// letters returns a string of n times this byte.
func letters(c byte, n int) string { return strings.Repeat(string([]byte{c}), n) }

func must(t *testing.T, why api.Errno) {
	t.Helper()
	if why != api.OK {
		t.Fatal(why)
	}
}

// formatted returns an empty store of so many pages.
func formatted(t *testing.T, n int) *pages.Store {
	t.Helper()
	size, why := pages.Size(n, api.MaxJournal)
	must(t, why)
	d, why := disk.New(size)
	must(t, why)
	s, why := pages.Format(d, n, api.MaxJournal)
	must(t, why)
	return s
}

// do performs a transaction that must not abort.
func do(t *testing.T, s *pages.Store, by func(h *heap.Heap)) {
	t.Helper()
	must(t, heap.Do(s, by))
}

// view is do, but its changes are lost.
func view(t *testing.T, s *pages.Store, by func(h *heap.Heap)) {
	t.Helper()
	must(t, heap.View(s, by))
}

// contents returns the contents of all pages.
func contents(h *heap.Heap) []string {
	var l []string
	for i := range h.Pages() {
		l = append(l, h.Get(i))
	}
	return l
}

// sorted returns the items of a model, in order.
func sorted(model map[string]string) []api.Item {
	var l []api.Item
	for _, k := range slices.Sorted(maps.Keys(model)) {
		l = append(l, api.Item{Key: k, Value: model[k]})
	}
	return l
}

// seen is what a test reads from the pages themselves.
type seen struct {
	items  []api.Item
	pages  []int
	depths map[int]int // how many leaves there are at each depth
	sizes  []int       // of the leaves
}

// inspect reads all nodes below a page. The keys of branches are held against
// those of the leaves below them.
func (x *seen) inspect(t *testing.T, h *heap.Heap, page, depth int) (lowest, highest string) {
	t.Helper()
	n, why := node.Decode(h.Get(page))
	must(t, why)
	x.pages = append(x.pages, page)
	if len(n.Kids) == 0 {
		x.items = append(x.items, n.Items...)
		x.depths[depth]++
		x.sizes = append(x.sizes, node.Size(n))
		return n.Items[0].Key, n.Items[len(n.Items)-1].Key
	}
	for i, kid := range n.Kids {
		low, high := x.inspect(t, h, kid, depth+1)
		if i > 0 && low < n.Items[i-1].Key || i < len(n.Items) && high >= n.Items[i].Key {
			t.Errorf("kid %d of page %d has keys from %q to %q", i, page, low, high)
		}
		if i == 0 {
			lowest = low
		}
		highest = high
	}
	return lowest, highest
}

// isTree fails if the pages do not contain a valid tree of exactly the items
// of the model, or if any page is lost, or if a function says otherwise.
func isTree(t *testing.T, h *heap.Heap, model map[string]string) seen {
	t.Helper()
	x := seen{depths: map[int]int{}}
	root := h.Get(0)
	if first := int(root[0])*256 + int(root[1]); first != 0 {
		x.inspect(t, h, first, 1)
	}
	want := sorted(model)
	if !slices.Equal(x.items, want) || octets.Num(8, uint64(len(want))) != root[2:10] || !octets.Noughts(root[10:]) {
		t.Errorf("%d items instead of %d; the root page is %q", len(x.items), len(want), root[:12])
	}
	depth := 0
	for depth = range x.depths {
	}
	if len(x.depths) > 1 || Depth(h) != depth || Many(h) != uint64(len(want)) || Check(h) != api.OK {
		t.Error(x.depths, Depth(h), Many(h), Check(h))
	}
	l := Pages(h)
	slices.Sort(l)
	slices.Sort(x.pages)
	if !slices.Equal(l, x.pages) || len(slices.Compact(l)) != len(l) || h.Free() != h.Pages()-2-len(l) {
		t.Error(l, x.pages, h.Free())
	}
	for _, page := range x.pages {
		if page < 2 || page >= h.Pages() || !bitmap.Used(h.Get(1), page) {
			t.Error(page, "is not in use")
		}
	}
	if got := Scan(h, "", math.MaxInt); !slices.Equal(got, want) {
		t.Error(len(got), len(want))
	}
	return x
}

// random makes keys and values of a kind.
type random struct {
	r            *rand.Rand
	bytes        string
	longest      int // key
	longestValue int
}

func (x random) key() string {
	b := make([]byte, 1+x.r.Intn(x.longest))
	for i := range b {
		b[i] = x.bytes[x.r.Intn(len(x.bytes))]
	}
	return string(b)
}

func (x random) value() string {
	b := make([]byte, x.r.Intn(x.longestValue+1))
	x.r.Read(b)
	return string(b)
}

func kinds(seed int64) []random {
	r := rand.New(rand.NewSource(seed))
	return []random{
		{r, "abcdefgh", 3, 64},
		{r, "ab\x00\xff", 64, 64},
		{r, "ab", 9, 0},
		{r, "0123456789", 64, 64},
		{r, "0123456789", 4, 8},
	}
}

func TestP13_1Example(t *testing.T) {
	s := formatted(t, 20)
	do(t, s, func(h *heap.Heap) {
		for i, k := range []string{"b", "a", "c"} {
			Put(h, k, letters('v', i))
		}
		Put(h, "b", "new")
	})
	view(t, s, func(h *heap.Heap) {
		isTree(t, h, map[string]string{"a": "v", "b": "new", "c": "vv"})
		if h.Get(0)[:10] != "\x00\x02\x00\x00\x00\x00\x00\x00\x00\x03" {
			t.Errorf("%q", h.Get(0)[:12])
		}
		for _, x := range []struct {
			key, value string
			have       bool
		}{{"a", "v", true}, {"b", "new", true}, {"c", "vv", true}, {"", "", false}, {"aa", "", false}, {"d", "", false}, {letters('c', 1000), "", false}} {
			if v, have := Get(h, x.key); v != x.value || have != x.have {
				t.Errorf("%.9q %q %v", x.key, v, have)
			}
		}
		for _, x := range []struct {
			from string
			most int
			want string
		}{
			{"", 9, "abc"}, {"", 3, "abc"}, {"", 2, "ab"}, {"", 1, "a"}, {"", 0, ""}, {"", -1, ""}, {"", math.MinInt, ""}, {"", math.MaxInt, "abc"},
			{"a", 9, "abc"}, {"a\x00", 9, "bc"}, {"b", 1, "b"}, {"bb", 9, "c"}, {"c", 9, "c"}, {"c\x00", 9, ""}, {letters(255, 99), 9, ""},
		} {
			keys := ""
			for _, y := range Scan(h, x.from, x.most) {
				keys += y.Key
			}
			if keys != x.want {
				t.Errorf("%q %d %q", x.from, x.most, keys)
			}
		}
		if !Delete(h, "b") || Delete(h, "b") || Delete(h, "") || Delete(h, letters('c', 1000)) {
			t.Error("Delete")
		}
		isTree(t, h, map[string]string{"a": "v", "c": "vv"})
		if !Delete(h, "c") || !Delete(h, "a") || Delete(h, "a") {
			t.Error("Delete")
		}
		isTree(t, h, nil)
	})
}

func TestP13_1EmptyTree(t *testing.T) {
	s := formatted(t, 8)
	do(t, s, func(h *heap.Heap) {
		isTree(t, h, nil)
		if v, have := Get(h, "a"); v != "" || have || Delete(h, "a") || len(Scan(h, "", 9)) != 0 || len(Pages(h)) != 0 {
			t.Error(v, have)
		}
	})
	if s.Waiting() != 0 {
		t.Error("it was changed")
	}
}

func TestP13_1PutOfInvalidItems(t *testing.T) {
	s := formatted(t, 20)
	for range 2 { // the empty tree, and one with items
		for _, x := range []api.Item{{}, {Value: "v"}, {Key: letters('k', 65)}, {Key: "a", Value: letters('v', 65)}, {Key: letters('k', 1<<20), Value: letters('v', 1<<20)}} {
			waiting := s.Waiting()
			if why := heap.Do(s, func(h *heap.Heap) {
				Put(h, "other", "")
				Put(h, x.Key, x.Value)
				t.Error("it went on")
			}); why != api.ErrArg || s.Waiting() != waiting {
				t.Error(why)
			}
		}
		do(t, s, func(h *heap.Heap) {
			Put(h, letters('k', 64), letters('v', 64))
			Put(h, "\x00", "")
			isTree(t, h, map[string]string{letters('k', 64): letters('v', 64), "\x00": ""})
		})
	}
}

func TestP13_1WhatChangesNothing(t *testing.T) {
	s := formatted(t, 40)
	do(t, s, func(h *heap.Heap) {
		for i := range 60 {
			Put(h, string([]byte{'k', byte(i)}), letters('v', i))
		}
	})
	waiting := s.Waiting()
	do(t, s, func(h *heap.Heap) {
		for i := range 60 {
			Put(h, string([]byte{'k', byte(i)}), letters('v', i))
			Delete(h, string([]byte{'k', byte(i), 0}))
		}
		Get(h, "k")
		Scan(h, "", 99)
		Pages(h)
		Depth(h)
		Many(h)
		Check(h)
	})
	if s.Waiting() != waiting {
		t.Error("it was changed")
	}
}

// compare fails if reading a key differs from the model.
func compare(t *testing.T, h *heap.Heap, model map[string]string, key string, most int) {
	t.Helper()
	want, have := model[key]
	if got, ok := Get(h, key); got != want || ok != have {
		t.Errorf("%q: %q %v", key, got, ok)
	}
	l := sorted(model)
	i, _ := slices.BinarySearchFunc(l, key, func(x api.Item, k string) int { return strings.Compare(x.Key, k) })
	l = l[i:]
	if got := Scan(h, key, most); !slices.Equal(got, l[:min(len(l), max(most, 0))]) {
		t.Errorf("%q %d: %d", key, most, len(got))
	}
}

// cost is what a call allocated and changed.
type cost struct{ depth, taken, changed int }

func costOf(h *heap.Heap, by func()) cost {
	c := cost{depth: Depth(h)}
	before, free := contents(h), h.Free()
	by()
	for i, text := range contents(h) {
		if text != before[i] {
			c.changed++
		}
	}
	c.taken = free - h.Free()
	return c
}

func TestP13_4OrderedMap(t *testing.T) {
	for seed, x := range kinds(13) {
		s := formatted(t, 500)
		model := map[string]string{}
		deepest := 0
		for round := range 12 {
			do(t, s, func(h *heap.Heap) {
				// It grows, and shrinks, and grows again, and ends empty.
				for range 150 {
					k := x.key()
					if l := sorted(model); len(l) > 0 && x.r.Intn(3) == 0 {
						k = l[x.r.Intn(len(l))].Key
					}
					if x.r.Intn(10) < []int{9, 7, 2, 8, 5, 1}[round%6] {
						v := x.value()
						c := costOf(h, func() { Put(h, k, v) })
						model[k] = v
						if c.taken > c.depth+1 || c.changed > 3*c.depth+4 {
							t.Error(seed, c)
						}
					} else {
						_, have := model[k]
						c := costOf(h, func() {
							if Delete(h, k) != have {
								t.Errorf("%q %v", k, have)
							}
						})
						delete(model, k)
						if c.taken > 0 || c.changed > 3*c.depth+4 || !have && c.changed > 0 {
							t.Error(seed, c)
						}
					}
					compare(t, h, model, k, x.r.Intn(6)-1)
					compare(t, h, model, x.key(), x.r.Intn(60))
				}
				isTree(t, h, model)
				deepest = max(deepest, Depth(h))
			})
		}
		do(t, s, func(h *heap.Heap) {
			l := sorted(model)
			x.r.Shuffle(len(l), func(i, j int) { l[i], l[j] = l[j], l[i] })
			for i, y := range l {
				c := costOf(h, func() { Delete(h, y.Key) })
				delete(model, y.Key)
				if c.taken > 0 || c.changed > 3*c.depth+4 {
					t.Error(seed, c)
				}
				if i%10 == 0 || len(model) < 10 {
					isTree(t, h, model)
				}
			}
			if h.Free() != 498 || Depth(h) != 0 {
				t.Error(h.Free())
			}
		})
		if deepest < 2 {
			t.Error(seed, deepest)
		}
	}
}

func TestP13_4TheOrderOfKeysDoesNotMatter(t *testing.T) {
	for seed, x := range kinds(14) {
		model := map[string]string{}
		for range 200 {
			model[x.key()] = x.value()
		}
		l := sorted(model)
		for order := range 6 {
			switch order {
			case 0: // increasing
			case 1:
				slices.Reverse(l)
			default:
				x.r.Shuffle(len(l), func(i, j int) { l[i], l[j] = l[j], l[i] })
			}
			s := formatted(t, 300)
			for part := range slices.Chunk(l, 50) {
				do(t, s, func(h *heap.Heap) {
					for _, y := range part {
						Put(h, y.Key, y.Value)
					}
				})
			}
			view(t, s, func(h *heap.Heap) {
				isTree(t, h, model)
				last := l[len(l)-1]
				for _, y := range l[:len(l)-1] {
					Delete(h, y.Key)
				}
				if x := isTree(t, h, map[string]string{last.Key: last.Value}); len(x.pages) != 1 {
					t.Error(seed, len(x.pages), "pages for an item")
				}
			})
		}
	}
}

func TestP13_5Fill(t *testing.T) {
	for seed, x := range kinds(15) {
		for order := range 8 {
			model := map[string]string{}
			for range 400 {
				k := x.key()
				switch order {
				case 5: // small and large ones next to one another
					if x.r.Intn(2) == 0 {
						k = (k + letters('z', 64))[:64]
					}
				case 6:
					k = (k + letters('z', 64))[:64]
				}
				model[k] = x.value()
				if order == 7 {
					model[k] = letters('v', []int{0, 64}[x.r.Intn(2)])
				}
			}
			l := sorted(model)
			switch order {
			case 0:
			case 1:
				slices.Reverse(l)
			case 2: // from both ends
				for i := 1; i < len(l); i += 2 {
					slices.Reverse(l[i:])
				}
			case 3: // the small ones first
				slices.SortFunc(l, func(a, b api.Item) int { return len(a.Key+a.Value) - len(b.Key+b.Value) })
			case 4: // the large ones first
				slices.SortFunc(l, func(a, b api.Item) int { return len(b.Key+b.Value) - len(a.Key+a.Value) })
			default:
				x.r.Shuffle(len(l), func(i, j int) { l[i], l[j] = l[j], l[i] })
			}
			s := formatted(t, 600)
			view(t, s, func(h *heap.Heap) {
				inserted := map[string]string{}
				for i, y := range l {
					Put(h, y.Key, y.Value)
					inserted[y.Key] = y.Value
					if i%40 != 0 && i != len(l)-1 {
						continue
					}
					got := isTree(t, h, inserted)
					if least := slices.Min(got.sizes); len(got.sizes) > 1 && least < 100 {
						t.Error(seed, order, i, least)
					}
				}
			})
		}
	}
}

func TestP13_3SplitsAreCuts(t *testing.T) {
	// The first part of a node that is split stays on its page.
	x := kinds(16)[3]
	s := formatted(t, 600)
	splits := map[int]int{}
	view(t, s, func(h *heap.Heap) {
		for range 1500 {
			k, v := x.key(), x.value()
			before := contents(h)
			path := pathTo(h, k)
			Put(h, k, v)
			if len(path) == 0 {
				continue
			}
			leaf := path[len(path)-1]
			n, _ := node.Decode(before[leaf])
			n = node.Put(n, api.Item{Key: k, Value: v})
			rest := node.Node{}
			if node.Size(n) > 480 {
				n, _, rest = node.Cut(n)
			}
			if text, why := node.Encode(n); why != api.OK || h.Get(leaf) != text {
				t.Fatal("the leaf has other items", why)
			}
			if len(rest.Items) > 0 {
				text, _ := node.Encode(rest)
				path = pathTo(h, rest.Items[0].Key)
				if page := path[len(path)-1]; h.Get(page) != text || bitmap.Used(before[1], page) {
					t.Fatal("the rest is not on a new page")
				}
				splits[bitmap.Many(h.Get(1), 0, 600)-bitmap.Many(before[1], 0, 600)]++
			}
		}
		// A leaf; a leaf and its branch; and so on.
		if splits[1] < 10 || splits[2] < 10 || splits[3] < 2 {
			t.Error(splits)
		}
	})
}

// pathTo returns the pages from the root node to the leaf of a key.
func pathTo(h *heap.Heap, key string) []int {
	var path []int
	root := h.Get(0)
	for page := int(root[0])*256 + int(root[1]); page != 0; {
		path = append(path, page)
		n, _ := node.Decode(h.Get(page))
		page = 0
		if len(n.Kids) > 0 {
			i, _ := node.Find(n, key)
			page = n.Kids[i]
		}
	}
	return path
}

func TestP13_3Space(t *testing.T) {
	// A put succeeds if depth + 1 pages are free, and changes nothing if it
	// does not succeed; a delete needs no space at all.
	for seed, x := range kinds(17) {
		s := formatted(t, 8+5*seed)
		model := map[string]string{}
		failed := 0
		for range 1500 {
			k, v := x.key(), letters('v', x.r.Intn(65))
			free, depth, waiting := 0, 0, s.Waiting()
			why := heap.Do(s, func(h *heap.Heap) {
				free, depth = h.Free(), Depth(h)
				Put(h, k, v)
			})
			switch why {
			case api.OK:
				model[k] = v
			case api.ErrDisk:
				failed++
				if free >= depth+1 || s.Waiting() != waiting {
					t.Error(seed, free, depth)
				}
			default:
				t.Error(seed, why)
			}
			if failed%50 == 1 {
				view(t, s, func(h *heap.Heap) { isTree(t, h, model) })
			}
		}
		if failed < 100 {
			t.Error(seed, failed)
		}
		for len(model) > 0 {
			do(t, s, func(h *heap.Heap) {
				for h.Free() > 0 { // no page is free
					h.Take()
				}
				for i, y := range sorted(model) {
					if i%3 == 0 && !Delete(h, y.Key) {
						t.Error(y.Key)
					}
					if i%3 == 0 {
						delete(model, y.Key)
					}
				}
				if l := Scan(h, "", math.MaxInt); !slices.Equal(l, sorted(model)) || Check(h) != api.OK {
					t.Error(len(l), len(model))
				}
			})
		}
	}
}

func TestP13_1TheJournalIsTooSmall(t *testing.T) {
	// Nothing is changed if a transaction does not fit.
	size, _ := pages.Size(100, 6)
	d, _ := disk.New(size)
	s, why := pages.Format(d, 100, 6)
	must(t, why)
	model := map[string]string{}
	kinds := map[api.Errno]int{}
	x := random{rand.New(rand.NewSource(18)), "0123456789", 20, 64}
	for range 300 {
		next := maps.Clone(model)
		why := heap.Do(s, func(h *heap.Heap) {
			for range 1 + x.r.Intn(3) {
				k, v := x.key(), x.value()
				Put(h, k, v)
				next[k] = v
			}
		})
		kinds[why]++
		if why == api.OK {
			model = next
		}
		view(t, s, func(h *heap.Heap) { isTree(t, h, model) })
	}
	if kinds[api.OK] < 50 || kinds[api.ErrJournal] < 50 || len(kinds) != 2 {
		t.Error(kinds)
	}
}
