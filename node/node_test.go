package node

import (
	"math"
	"math/rand"
	"slices"
	"sort"
	"strings"
	"testing"

	"wharfage/api"
)

// letters returns a string of n times this byte.
func letters(c byte, n int) string { return strings.Repeat(string([]byte{c}), n) }

// page returns text with zero bytes behind it, up to the size of a page.
func page(text string) string { return text + letters(0, 480-len(text)) }

// leaf returns a leaf of items, given as key, value, key, value and so on.
func leaf(l ...string) Node {
	var n Node
	for i := 0; i < len(l); i += 2 {
		n.Items = append(n.Items, api.Item{Key: l[i], Value: l[i+1]})
	}
	return n
}

// branch returns a branch with these keys and kids.
func branch(keys []string, kids ...int) Node {
	n := Node{Kids: kids}
	for _, k := range keys {
		n.Items = append(n.Items, api.Item{Key: k})
	}
	return n
}

// keys returns n keys of this length, in order.
func keys(n, length int) []string {
	var l []string
	for i := range n {
		l = append(l, string([]byte{byte(i)})+letters('k', length-1))
	}
	return l
}

// singles returns a leaf with n items whose keys have one byte.
func singles(n int) Node {
	var l Node
	for _, k := range keys(n, 1) {
		l.Items = append(l.Items, api.Item{Key: k})
	}
	return l
}

// pagesFrom returns n pages.
func pagesFrom(first, n int) []int {
	var l []int
	for i := range n {
		l = append(l, first+i)
	}
	return l
}

var (
	key64   = letters('k', 64)
	value64 = letters('v', 64)
)

// The largest nodes.
func fullLeaf() Node {
	return leaf("a", value64, letters('b', 64), value64, letters('c', 64), value64, "d", value64, "e", value64, "f", letters('v', 14))
}

func fullBranch() Node {
	return branch(append(keys(7, 64), "zzzz"), pagesFrom(2, 9)...)
}

type sized struct {
	n    Node
	size int
}

// validNodes returns valid nodes, with their sizes.
func validNodes() []sized {
	return []sized{
		{leaf("a", ""), 5},
		{leaf("\x00", "\x00"), 6},
		{leaf("a", "xy", "c", ""), 10},
		{leaf("\x00", "", "\x00\x00", "", "a", "", "aa", "", "a\xff", "", "b", "", "\xff", ""), 26},
		{leaf(key64, value64), 132},
		{singles(159), 479},
		{fullLeaf(), 480},
		{Node{Items: leaf("a", "").Items, Kids: []int{}}, 5},
		{branch(nil, 2), 4},
		{Node{Items: []api.Item{}, Kids: []int{3839}}, 4},
		{branch([]string{"m"}, 2, 258), 8},
		{branch([]string{"m"}, 7, 7), 8},
		{branch([]string{"a", "ab"}, 3839, 2, 300), 13},
		{branch([]string{key64}, 2, 3), 71},
		{branch(keys(119, 1), pagesFrom(2, 120)...), 480},
		{fullBranch(), 480},
	}
}

// invalidNodes returns invalid nodes, with their sizes.
func invalidNodes() []sized {
	long := fullLeaf()
	long.Items[5].Value += "v"
	longBranch := fullBranch()
	longBranch.Items[7].Key += "z"
	return []sized{
		{Node{}, 2},
		{Node{Items: []api.Item{}, Kids: []int{}}, 2},
		{leaf("", ""), 4},
		{leaf("", "v", "a", "v"), 9},
		{leaf(key64+"k", ""), 69},
		{leaf("a", value64+"v"), 70},
		{leaf("a", "", "b", value64+"v"), 73},
		{leaf("b", "", "a", ""), 8},
		{leaf("a", "", "a", ""), 8},
		{leaf("a", "", "c", "", "b", ""), 11},
		{leaf("ab", "", "a", ""), 9},
		{singles(160), 482},
		{singles(256), 770},
		{long, 481},
		{leaf("a", letters('v', 1000)), 1005},
		{branch(nil, 1), 4},
		{branch(nil, 0), 4},
		{branch(nil, -2), 4},
		{branch(nil, 3840), 4},
		{branch(nil, math.MaxInt), 4},
		{branch(nil, math.MinInt), 4},
		{branch(nil, 1<<16+2), 4},
		{branch([]string{"a"}, 2, 3840), 8},
		{branch([]string{"a"}, 1, 2), 8},
		{branch([]string{"a", "b"}, 2, 1, 3), 12},
		{branch([]string{"a"}, 2), 8},
		{branch([]string{"a"}, 2, 3, 4), 8},
		{branch(nil, 2, 3), 4},
		{branch([]string{""}, 2, 3), 7},
		{branch([]string{key64 + "k"}, 2, 3), 72},
		{branch([]string{"b", "a"}, 2, 3, 4), 12},
		{branch([]string{"a", "a"}, 2, 3, 4), 12},
		{Node{Items: leaf("a", "v").Items, Kids: []int{2, 3}}, 8},
		{branch(keys(120, 1), pagesFrom(2, 121)...), 484},
		{longBranch, 481},
	}
}

// randomKeys returns at most n different keys of at most this length, in order.
func randomKeys(r *rand.Rand, n, longest int) []string {
	var l []string
	for range n {
		b := make([]byte, 1+r.Intn(longest))
		for i := range b {
			b[i] = "ab\x00\xff"[r.Intn(4)]
		}
		l = append(l, string(b))
	}
	sort.Strings(l)
	return slices.Compact(l)
}

// randomLeaf returns a leaf of at most so many bytes.
func randomLeaf(r *rand.Rand, most int) Node {
	longest := 4 + r.Intn(61)
	var n Node
	for _, k := range randomKeys(r, 1+r.Intn(60), longest) {
		n.Items = append(n.Items, api.Item{Key: k, Value: letters('v', r.Intn(1+r.Intn(65)))})
	}
	for modelSize(n) > most {
		i := r.Intn(len(n.Items))
		n.Items = slices.Delete(n.Items, i, i+1)
	}
	return n
}

// randomBranch returns a branch of at most so many bytes.
func randomBranch(r *rand.Rand, most int) Node {
	n := Node{Kids: []int{2 + r.Intn(3838)}}
	for _, k := range randomKeys(r, 1+r.Intn(60), 4+r.Intn(61)) {
		n.Items = append(n.Items, api.Item{Key: k})
		n.Kids = append(n.Kids, 2+r.Intn(3838))
	}
	for modelSize(n) > most {
		i := r.Intn(len(n.Items))
		n.Items = slices.Delete(n.Items, i, i+1)
		n.Kids = slices.Delete(n.Kids, i, i+1)
	}
	return n
}

// modelSize is a model of Size.
func modelSize(n Node) int {
	size := 2
	if len(n.Kids) > 0 {
		size = 4
	}
	for _, x := range n.Items {
		size += modelBytes(n, x)
	}
	return size
}

func modelBytes(n Node, x api.Item) int {
	if len(n.Kids) > 0 {
		return 3 + len(x.Key)
	}
	return 2 + len(x.Key) + len(x.Value)
}

// modelEncode is a model of Encode, for valid nodes.
func modelEncode(n Node) string {
	var b []byte
	if len(n.Kids) == 0 {
		b = append(b, 1, byte(len(n.Items)))
		for _, x := range n.Items {
			b = append(append(b, byte(len(x.Key))), x.Key...)
			b = append(append(b, byte(len(x.Value))), x.Value...)
		}
		return page(string(b))
	}
	b = append(b, 2, byte(len(n.Kids)))
	for i, kid := range n.Kids {
		if i > 0 {
			key := n.Items[i-1].Key
			b = append(append(b, byte(len(key))), key...)
		}
		b = append(b, byte(kid/256), byte(kid%256))
	}
	return page(string(b))
}

func same(a, b Node) bool {
	return slices.Equal(a.Items, b.Items) && slices.Equal(a.Kids, b.Kids)
}

func copied(n Node) Node {
	return Node{append([]api.Item(nil), n.Items...), append([]int(nil), n.Kids...)}
}

// spoil changes all that a node refers to.
func spoil(n Node) {
	for i := range n.Items[:cap(n.Items)] {
		n.Items[:cap(n.Items)][i] = api.Item{Key: "spoilt", Value: "spoilt"}
	}
	for i := range n.Kids[:cap(n.Kids)] {
		n.Kids[:cap(n.Kids)][i] = -7
	}
}

func TestP12_1Size(t *testing.T) {
	for i, x := range append(validNodes(), invalidNodes()...) {
		if got := Size(x.n); got != x.size {
			t.Error(i, got, x.size)
		}
	}
	// The values of a branch have no bytes.
	if got := Size(Node{Items: leaf("ab", "value").Items, Kids: []int{2, 3}}); got != 9 {
		t.Error(got)
	}
}

func TestP12_1Check(t *testing.T) {
	for i, x := range validNodes() {
		if why := Check(x.n); why != api.OK {
			t.Error(i, why)
		}
	}
	for i, x := range invalidNodes() {
		if why := Check(x.n); why != api.ErrArg {
			t.Error(i, why)
		}
	}
}

func TestP12_1Encode(t *testing.T) {
	for _, x := range []struct {
		n    Node
		want string
	}{
		{leaf("a", "xy", "c", ""), "\x01\x02\x01a\x02xy\x01c\x00"},
		{leaf("\x00", "\x00"), "\x01\x01\x01\x00\x01\x00"},
		{leaf(key64, value64), "\x01\x01\x40" + key64 + "\x40" + value64},
		{branch(nil, 2), "\x02\x01\x00\x02"},
		{branch([]string{"m"}, 2, 258), "\x02\x02\x00\x02\x01m\x01\x02"},
		{branch([]string{"a", "bc"}, 3839, 255, 256), "\x02\x03\x0e\xff\x01a\x00\xff\x02bc\x01\x00"},
	} {
		if got, why := Encode(x.n); why != api.OK || got != page(x.want) {
			t.Errorf("%q %d", got, why)
		}
	}
	for i, x := range validNodes() {
		if got, why := Encode(x.n); why != api.OK || got != modelEncode(x.n) {
			t.Error(i, why)
		}
	}
	for i, x := range invalidNodes() {
		if got, why := Encode(x.n); why != api.ErrArg || got != "" {
			t.Error(i, why, got)
		}
	}
}

func TestP12_1Decode(t *testing.T) {
	for i, x := range validNodes() {
		if got, why := Decode(modelEncode(x.n)); why != api.OK || !same(got, x.n) {
			t.Error(i, why, got)
		}
	}
}

// isForm fails if text is decoded.
func isForm(t *testing.T, text string) {
	t.Helper()
	if n, why := Decode(text); why != api.ErrForm || len(n.Items) != 0 || len(n.Kids) != 0 {
		t.Errorf("%d %d %.40q", why, len(text), text)
	}
}

func TestP12_1DecodeOfOthersIsAnError(t *testing.T) {
	for _, text := range []string{
		"",
		"\x00",
		"\x01\x00",                      // no item
		"\x02\x00",                      // no kid
		"\x02\x00\x00\x02",              // no kid, and one
		"\x02\x00\x00\x02\x01a\x00\x03", // no kid, and two
		"\x00\x01\x01a\x00",             // other kinds
		"\x03\x01\x01a\x00",
		"\xff\x01\x00\x02",
		"\x01\x01\x00\x00", // an empty key
		"\x01\x01\x00\x01v",
		"\x01\x01\x41" + key64 + "k\x00",    // a long one
		"\x01\x01\x01a\x41" + value64 + "v", // a long value
		"\x01\x02\x01b\x00\x01a\x00",        // falling keys
		"\x01\x02\x01a\x00\x01a\x00",        // equal ones
		"\x01\x01\x01a\x00\x01",             // bytes behind it
		"\x01\x01\x01a\x00\x01b\x00",
		"\x01\x03\x01a\x00\x01b\x00", // fewer items
		"\x02\x01\x00\x01",           // other pages
		"\x02\x01\x00\x00",
		"\x02\x01\x0f\x00",
		"\x02\x01\xff\xff",
		"\x02\x02\x00\x02\x01a\x00\x01",
		"\x02\x02\x00\x02\x00\x00\x03",               // an empty key
		"\x02\x02\x00\x02\x41" + key64 + "k\x00\x03", // a long one
		"\x02\x03\x00\x02\x01b\x00\x03\x01a\x00\x04",
		"\x02\x03\x00\x02\x01a\x00\x03\x01a\x00\x04",
		"\x02\x01\x00\x02\x01",
		"\x02\x01\x00\x02\x01a\x00\x03",
		"\x02\x03\x00\x02\x01a\x00\x03",
	} {
		isForm(t, page(text))
	}
	isForm(t, letters(1, 480))
	isForm(t, letters(2, 480))
	isForm(t, letters(255, 480))
	// Other lengths.
	for i, x := range validNodes() {
		text := modelEncode(x.n)
		for _, other := range []string{text[:479], text + "\x00", text + text, text[:x.size], text[:x.size-1], text[1:], "\x00" + text} {
			if other != text {
				isForm(t, other)
			}
		}
		if i == 0 {
			isForm(t, text+letters(0, 1<<16))
		}
	}
	// More items than have room: all bytes are keys, up to the last one.
	isForm(t, "\x01\xff"+strings.Repeat("\x00", 478))
	isForm(t, "\x02\xff"+strings.Repeat("\x00", 478))
	isForm(t, "\x01\xff"+letters('a', 478))
}

func TestP12_1DecodeOfChangedBytes(t *testing.T) {
	// Whatever is decoded has the very bytes as its encoding.
	r := rand.New(rand.NewSource(1))
	kinds := map[api.Errno]int{}
	for range 20000 {
		l := validNodes()
		text := []byte(modelEncode(l[r.Intn(len(l))].n))
		for range 1 + r.Intn(2) {
			at := r.Intn(480)
			if r.Intn(2) == 0 {
				at = r.Intn(12)
			}
			text[at] = []byte{0, 1, 2, 3, 64, 65, 'a', 'z', byte(r.Intn(256))}[r.Intn(9)]
		}
		n, why := Decode(string(text))
		kinds[why]++
		if why == api.OK && (Check(n) != api.OK || modelEncode(n) != string(text)) {
			t.Errorf("%q", text)
		}
		if why != api.OK && (why != api.ErrForm || len(n.Items) != 0 || len(n.Kids) != 0) {
			t.Error(why, n)
		}
	}
	if kinds[api.OK] < 1000 || kinds[api.ErrForm] < 1000 {
		t.Error(kinds)
	}
}

func TestP12_2FindInLeaves(t *testing.T) {
	n := leaf("b", "1", "bb", "2", "d", "3")
	for _, x := range []struct {
		key  string
		i    int
		have bool
	}{{"", 0, false}, {"a", 0, false}, {"b", 0, true}, {"b\x00", 1, false}, {"ba", 1, false}, {"bb", 1, true}, {"c", 2, false}, {"d", 2, true}, {"d\x00", 3, false}, {"\xff", 3, false}} {
		if i, have := Find(n, x.key); i != x.i || have != x.have {
			t.Error(x, i, have)
		}
	}
	if i, have := Find(Node{}, "a"); i != 0 || have {
		t.Error(i, have)
	}
}

func TestP12_2FindInBranches(t *testing.T) {
	n := branch([]string{"b", "bb", "d"}, 2, 3, 4, 5)
	for _, x := range []struct {
		key  string
		i    int
		have bool
	}{{"", 0, false}, {"a", 0, false}, {"b", 1, true}, {"b\x00", 1, false}, {"ba", 1, false}, {"bb", 2, true}, {"c", 2, false}, {"d", 3, true}, {"d\x00", 3, false}, {"\xff", 3, false}} {
		if i, have := Find(n, x.key); i != x.i || have != x.have {
			t.Error(x, i, have)
		}
	}
	if i, have := Find(branch(nil, 2), "a"); i != 0 || have {
		t.Error(i, have)
	}
}

func TestP12_2FindOfRandomNodes(t *testing.T) {
	r := rand.New(rand.NewSource(2))
	for range 500 {
		n := randomLeaf(r, 1<<20)
		isBranch := r.Intn(2) == 0
		if isBranch {
			n = randomBranch(r, 1<<20)
		}
		l := randomKeys(r, 20, 1+r.Intn(5))
		for _, x := range n.Items {
			l = append(l, x.Key, x.Key+"\x00", x.Key[:len(x.Key)-1])
		}
		for _, k := range l {
			less, equal := 0, 0
			for _, x := range n.Items {
				switch strings.Compare(x.Key, k) {
				case -1:
					less++
				case 0:
					equal++
				}
			}
			want := less
			if isBranch {
				want += equal
			}
			if i, have := Find(n, k); i != want || have != (equal == 1) {
				t.Fatalf("%v %q: %d %v", isBranch, k, i, have)
			}
		}
	}
}

func TestP12_2Put(t *testing.T) {
	n := leaf("b", "1", "d", "2")
	for _, x := range []struct {
		x    api.Item
		want Node
	}{
		{api.Item{Key: "a", Value: "x"}, leaf("a", "x", "b", "1", "d", "2")},
		{api.Item{Key: "b", Value: "x"}, leaf("b", "x", "d", "2")},
		{api.Item{Key: "b\x00", Value: "x"}, leaf("b", "1", "b\x00", "x", "d", "2")},
		{api.Item{Key: "c"}, leaf("b", "1", "c", "", "d", "2")},
		{api.Item{Key: "d"}, leaf("b", "1", "d", "")},
		{api.Item{Key: "e", Value: "x"}, leaf("b", "1", "d", "2", "e", "x")},
		{api.Item{}, leaf("", "", "b", "1", "d", "2")}, // it need not be valid
		{api.Item{Key: letters('z', 99), Value: letters('v', 99)}, leaf("b", "1", "d", "2", letters('z', 99), letters('v', 99))},
	} {
		if got := Put(n, x.x); !same(got, x.want) {
			t.Error(x.x, got)
		}
	}
	if got := Put(Node{}, api.Item{Key: "a", Value: "b"}); !same(got, leaf("a", "b")) {
		t.Error(got)
	}
	// It may become too large.
	if got := Put(singles(159), api.Item{Key: "\xff", Value: "v"}); len(got.Items) != 160 || got.Items[159].Value != "v" {
		t.Error(len(got.Items))
	}
}

func TestP12_2PutOfABranchChangesNothing(t *testing.T) {
	for _, n := range []Node{branch(nil, 2), branch([]string{"b", "d"}, 2, 3, 4), branch([]string{"b"}, 2, 3, 4), fullBranch()} {
		for _, k := range []string{"", "a", "b", "c", "zzzz"} {
			if got := Put(n, api.Item{Key: k, Value: "v"}); !same(got, n) {
				t.Error(got)
			}
		}
	}
}

func TestP12_2PutIsThatOfAMap(t *testing.T) {
	r := rand.New(rand.NewSource(3))
	for range 100 {
		var n Node
		model := map[string]string{}
		for _, i := range r.Perm(40) {
			l := randomKeys(r, 40, 1+r.Intn(8))
			x := api.Item{Key: l[i%len(l)], Value: letters('v', r.Intn(9))}
			n = Put(n, x)
			model[x.Key] = x.Value
			if len(n.Items) != len(model) || !slices.IsSortedFunc(n.Items, func(a, b api.Item) int { return strings.Compare(a.Key, b.Key) }) {
				t.Fatal(n)
			}
		}
		for _, x := range n.Items {
			if v, ok := model[x.Key]; !ok || v != x.Value {
				t.Error(x, v)
			}
		}
	}
}

func TestP12_3CutOfLeaves(t *testing.T) {
	for i, x := range []struct {
		n    Node
		many int // items of the first part
	}{
		{leaf("a", "", "b", ""), 1},
		{leaf("a", "", "b", "12345678"), 1},        // at most all but one
		{leaf("a", "12345678", "b", ""), 1},        // at least one
		{leaf("a", "", "b", "", "c", ""), 2},       // 3 of 9 are too few
		{leaf("a", "123", "b", "", "c", ""), 1},    // 6 of 12 are half
		{leaf("a", "12", "b", "", "c", ""), 2},     // 5 of 11 are less
		{leaf("a", "", "b", "", "c", "123"), 2},    // 6 of 12
		{leaf("a", "", "b", "", "c", "1234"), 2},   // 6 of 13, but at most 2
		{leaf("a", "", "bbb", "1", "c", "123"), 2}, // 3 of 15, 9 of 15
		{leaf("a", value64, "b", "", "c", ""), 1},
		{leaf("a", "", "b", "", "c", value64), 2},
		{leaf("a", "", "b", "", "c", "", "d", ""), 2},
		{singles(159), 80},
	} {
		a, key, b := Cut(x.n)
		if !same(a, Node{Items: x.n.Items[:x.many]}) || key != x.n.Items[x.many].Key || !same(b, Node{Items: x.n.Items[x.many:]}) {
			t.Error(i, len(a.Items), key, len(b.Items))
		}
	}
}

func TestP12_3CutOfBranches(t *testing.T) {
	for i, x := range []struct {
		keys []string
		many int // items of the first part
	}{
		{[]string{"a", "b"}, 1},
		{[]string{"a", "bbbb"}, 1},
		{[]string{"aaaa", "b"}, 1},
		{[]string{"a", "b", "c"}, 2},
		{[]string{"aaaaa", "b", "c"}, 1}, // 8 of 16
		{[]string{"aaaa", "b", "c"}, 2},  // 7 of 15
		{[]string{"a", "b", "ccccc"}, 2}, // 8 of 16
		{[]string{"a", "b", "cccccc"}, 2},
		{[]string{"a", "b", "c", "d"}, 2},
		{[]string{key64, "l", "m", "n"}, 1},
		{keys(119, 1), 60},
	} {
		n := branch(x.keys, pagesFrom(2, len(x.keys)+1)...)
		a, key, b := Cut(n)
		if !same(a, branch(x.keys[:x.many], n.Kids[:x.many+1]...)) || key != x.keys[x.many] || !same(b, branch(x.keys[x.many+1:], n.Kids[x.many+1:]...)) {
			t.Error(i, a, key, b)
		}
	}
	// The values of its items have no bytes.
	n := branch([]string{"a", "b", "c", "d"}, 2, 3, 4, 5, 6)
	n.Items[0].Value = value64
	if a, key, b := Cut(n); len(a.Items) != 2 || key != "c" || len(b.Items) != 1 {
		t.Error(a, key, b)
	}
}

func TestP12_3CutOfOthersIsTheNode(t *testing.T) {
	for i, n := range []Node{
		{}, leaf("a", "x"), leaf("", ""), branch(nil, 2), branch([]string{"a"}, 2, 3), branch(nil, 2, 3, 4),
		branch([]string{"a"}, 2, 3, 4), branch([]string{"a", "b", "c"}, 2, 3, 4), branch([]string{"a", "b"}, 2, 3), branch([]string{"a", "b"}, 2),
	} {
		if a, key, b := Cut(n); !same(a, n) || key != "" || !same(b, Node{}) {
			t.Error(i, a, key, b)
		}
	}
}

func TestP12_3CutIsTheFirstThatHasHalf(t *testing.T) {
	r := rand.New(rand.NewSource(4))
	for range 2000 {
		n := randomLeaf(r, 600)
		if r.Intn(2) == 0 {
			n = randomBranch(r, 600)
		}
		if len(n.Items) < 2 {
			continue
		}
		c, sum := 0, 0
		for c < len(n.Items)-1 && 2*sum < modelSize(n)-modelSize(Node{Kids: n.Kids}) {
			sum += modelBytes(n, n.Items[c])
			c++
		}
		rest := c
		if len(n.Kids) > 0 {
			rest++
		}
		a, key, b := Cut(n)
		if !slices.Equal(a.Items, n.Items[:c]) || key != n.Items[c].Key || !slices.Equal(b.Items, n.Items[rest:]) {
			t.Fatal(n, len(a.Items), key)
		}
		if len(n.Kids) > 0 && (!slices.Equal(a.Kids, n.Kids[:c+1]) || !slices.Equal(b.Kids, n.Kids[c+1:])) {
			t.Fatal(n, a.Kids, b.Kids)
		}
	}
}

func TestP12_3Join(t *testing.T) {
	for i, x := range []struct {
		a    Node
		key  string
		b    Node
		want Node
	}{
		{leaf("a", "1"), "b", leaf("b", "2"), leaf("a", "1", "b", "2")},
		{leaf("a", "1"), "", leaf("b", "2", "c", "3"), leaf("a", "1", "b", "2", "c", "3")},
		{leaf("a", "1"), letters('z', 100), leaf("b", "2"), leaf("a", "1", "b", "2")},
		{Node{}, "", leaf("b", "2"), leaf("b", "2")},
		{leaf("a", "1"), "q", Node{}, leaf("a", "1")},
		{branch(nil, 2), "m", branch(nil, 3), branch([]string{"m"}, 2, 3)},
		{branch([]string{"a", "b"}, 2, 3, 4), "c", branch([]string{"d"}, 5, 6), branch([]string{"a", "b", "c", "d"}, 2, 3, 4, 5, 6)},
		{branch(nil, 2), key64, branch([]string{"z"}, 3, 4), branch([]string{key64, "z"}, 2, 3, 4)},
		{branch(nil, 2), "m", branch(nil, 2), branch([]string{"m"}, 2, 2)},
	} {
		if got, ok := Join(x.a, x.key, x.b); !ok || !same(got, x.want) {
			t.Error(i, got, ok)
		}
	}
}

func TestP12_3JoinOfOthersIsFalse(t *testing.T) {
	for i, x := range []struct {
		a   Node
		key string
		b   Node
	}{
		{Node{}, "", Node{}},
		{Node{}, "a", Node{}},
		{leaf("a", "1"), "m", branch(nil, 2)},
		{branch(nil, 2), "m", leaf("z", "1")},
		{Node{}, "m", branch(nil, 2)},
		{branch(nil, 2), "m", Node{}},
		{leaf("b", "1"), "b", leaf("b", "2")},
		{leaf("b", "1"), "b", leaf("a", "2")},
		{leaf("b", "1", "d", ""), "c", leaf("c", "2", "e", "")},
		{leaf("", "1"), "b", leaf("b", "2")},
		{leaf("a", "1"), "b", leaf("b", value64+"v")},
		{branch(nil, 2), "", branch(nil, 3)},
		{branch(nil, 2), key64 + "k", branch(nil, 3)},
		{branch([]string{"m"}, 2, 3), "m", branch(nil, 4)},
		{branch([]string{"m"}, 2, 3), "l", branch(nil, 4)},
		{branch(nil, 2), "m", branch([]string{"m"}, 3, 4)},
		{branch(nil, 2), "m", branch([]string{"l"}, 3, 4)},
		{branch(nil, 2), "m", branch(nil, 1)},
		{branch(nil, 3840), "m", branch(nil, 2)},
		{branch(nil, 2), "m", branch(nil, 3, 4)},
		{branch(nil, 2), "m", Node{Items: leaf("z", "1").Items, Kids: []int{3, 4}}},
		{fullLeaf(), "g", leaf("g", "")},
		{fullBranch(), "zzzzz", branch(nil, 2)},
	} {
		if got, ok := Join(x.a, x.key, x.b); ok || len(got.Items) != 0 || len(got.Kids) != 0 {
			t.Error(i, got, ok)
		}
	}
}

func TestP12_3JoinOfWhatFitsExactly(t *testing.T) {
	whole := fullLeaf()
	for i := range whole.Items {
		a, b := Node{Items: whole.Items[:i]}, Node{Items: whole.Items[i:]}
		if got, ok := Join(a, "any", b); !ok || !same(got, whole) {
			t.Error(i, ok)
		}
		b = copied(b)
		b.Items[len(b.Items)-1].Value += "v"
		if got, ok := Join(a, "any", b); ok || !same(got, Node{}) {
			t.Error(i, ok)
		}
	}
	whole = fullBranch()
	for i := range whole.Items {
		a, b := Node{whole.Items[:i], whole.Kids[:i+1]}, Node{whole.Items[i+1:], whole.Kids[i+1:]}
		if got, ok := Join(a, whole.Items[i].Key, b); !ok || !same(got, whole) {
			t.Error(i, ok)
		}
	}
	if got, ok := Join(branch(keys(7, 64), pagesFrom(2, 8)...), "zzzzz", branch(nil, 2)); ok || !same(got, Node{}) {
		t.Error(ok)
	}
}

func TestP12_4RoundTrip(t *testing.T) {
	r := rand.New(rand.NewSource(5))
	var l []Node
	for _, x := range validNodes() {
		l = append(l, x.n)
	}
	for range 1000 {
		l = append(l, randomLeaf(r, 480), randomBranch(r, 480))
	}
	for i, n := range l {
		text, why := Encode(n)
		got, no := Decode(text)
		if why != api.OK || no != api.OK || !same(got, n) {
			t.Error(i, why, no)
		}
		a, key, b := Cut(n)
		if len(b.Items) == 0 && len(b.Kids) == 0 {
			if len(n.Items) > 1 {
				t.Error(i, "it was not split")
			}
			continue
		}
		if got, ok := Join(a, key, b); !ok || !same(got, n) {
			t.Error(i, ok, got)
		}
	}
}

func TestP12_4BothPartsAreValid(t *testing.T) {
	r := rand.New(rand.NewSource(6))
	split := 0
	check := func(n Node) {
		t.Helper()
		a, key, b := Cut(n)
		if len(b.Items) == 0 && len(b.Kids) == 0 {
			return
		}
		split++
		if Check(a) != api.OK || Check(b) != api.OK {
			t.Errorf("%d: %d %d, %d %d", Size(n), Size(a), Check(a), Size(b), Check(b))
		}
		if last := a.Items; len(last) > 0 && last[len(last)-1].Key >= key || len(b.Items) > 0 && b.Items[0].Key < key {
			t.Errorf("%q is not between them", key)
		}
	}
	for range 3000 {
		n := randomLeaf(r, 480)
		check(n)
		check(randomBranch(r, 480))
		// Into the fullest leaves, at the ends and between.
		for Size(n) < 477 {
			next := Put(n, api.Item{Key: randomKeys(r, 1, 64)[0], Value: letters('v', r.Intn(65))})
			if Size(next) > 480 {
				check(next)
				break
			}
			n = next
		}
		for _, k := range []string{"\x00", letters(0, 64), letters('b', 64), letters(255, 64), n.Items[0].Key, n.Items[len(n.Items)-1].Key} {
			check(Put(n, api.Item{Key: k, Value: value64}))
			check(Put(n, api.Item{Key: k}))
		}
		// An item of a branch comes with a kid.
		b := randomBranch(r, 480)
		k := randomKeys(r, 1, 64)[0]
		if at, have := Find(b, k); !have {
			b.Items = slices.Insert(b.Items, at, api.Item{Key: k})
			b.Kids = slices.Insert(b.Kids, at+1, 2)
			check(b)
		}
	}
	check(Put(fullLeaf(), api.Item{Key: letters('b', 63), Value: value64}))
	check(Put(singles(159), api.Item{Key: key64, Value: value64}))
	if split < 5000 {
		t.Error(split)
	}
}

// odd are nodes that no tree has.
func odd() []Node {
	return []Node{
		{}, {Items: []api.Item{{}}}, {Items: []api.Item{{}, {}, {}}}, {Kids: []int{0}}, {Kids: []int{math.MinInt, math.MaxInt}},
		leaf("c", "", "a", "", "b", ""), leaf("c", "", "c", "", "c", ""), leaf("b", "", "c", "", "a", "", "c", ""),
		{Items: leaf("c", "x", "a", "y", "b", "z").Items, Kids: []int{-1, 0, 1, 2}},
		{Items: leaf("c", "x", "a", "y", "b", "z").Items, Kids: []int{-1}},
		{Items: []api.Item{{}, {}}, Kids: []int{5, 5, 5}},
		branch(nil, pagesFrom(-10, 5000)...),
		{Items: slices.Repeat([]api.Item{{Key: "a", Value: letters('v', 5000)}}, 3000)},
		leaf(letters('k', 1<<20), letters('v', 1<<20), "a", ""),
	}
}

func TestP1AllArguments(t *testing.T) {
	texts := []string{"", "a", "b", "c", "d", "\x00", "\xff", letters('c', 1<<16)}
	for _, n := range odd() {
		if Size(n) < 2 {
			t.Error(Size(n))
		}
		text, why := Encode(n)
		if why != Check(n) || (text == "") != (why != api.OK) {
			t.Error(why)
		}
		for _, k := range texts {
			if i, _ := Find(n, k); i < 0 || i > len(n.Items) {
				t.Error(i)
			}
			got := Put(n, api.Item{Key: k, Value: k})
			if len(n.Kids) > 0 && !same(got, n) {
				t.Error("a branch was changed")
			}
			for _, m := range odd() {
				if got, ok := Join(n, k, m); !ok && !same(got, Node{}) {
					t.Error("a node beside false")
				}
			}
		}
		Cut(n)
	}
	for _, text := range texts {
		isForm(t, text)
		isForm(t, text+letters(1, 1<<20))
		isForm(t, text+letters(2, 478))
	}
}

func TestP2ResultsAreNewMemory(t *testing.T) {
	for i, n := range []Node{
		{}, leaf("a", ""), leaf("a", "1", "c", "2", "d", "3", "e", "4"), branch(nil, 2), branch([]string{"a", "c", "d", "e"}, 2, 3, 4, 5, 6),
		branch([]string{"a", "c"}, 2),
	} {
		// Room behind the lists, in which nothing may be written.
		n.Items = slices.Grow(n.Items, 8)
		n.Kids = slices.Grow(n.Kids, 8)
		behind := n.Items[:len(n.Items)+1][len(n.Items)]
		before := copied(n)
		same2 := func(what string) {
			t.Helper()
			if !same(n, before) || n.Items[:len(n.Items)+1][len(n.Items)] != behind {
				t.Error(i, what, n)
			}
		}
		for _, k := range []string{"", "a", "b", "e", "z"} {
			got := Put(n, api.Item{Key: k, Value: "v"})
			same2("Put")
			spoil(got)
			same2("Put's result")
		}
		a, key, b := Cut(n)
		wantA, wantB := copied(a), copied(b)
		spoil(a)
		if !same(b, wantB) {
			t.Error(i, "the parts share memory")
		}
		spoil(b)
		same2("Cut")
		for _, pair := range [][2]Node{{wantA, wantB}, {{}, n}, {n, {}}, {n, branch([]string{"x"}, 7, 8)}, {branch(nil, 7), n}, {n, leaf("x", "")}} {
			x, y := copied(pair[0]), copied(pair[1])
			got, _ := Join(pair[0], key, pair[1])
			spoil(got)
			same2("Join")
			if !same(pair[0], x) || !same(pair[1], y) {
				t.Error(i, "Join")
			}
		}
		if text, why := Encode(n); why == api.OK {
			first, _ := Decode(text)
			spoil(first)
			if again, _ := Decode(text); !same(again, n) {
				t.Error(i, "Decode")
			}
		}
	}
}
