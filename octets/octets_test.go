package octets

import (
	"encoding/binary"
	"math"
	"slices"
	"strings"
	"testing"

	"wharfage/api"
)

// widths has all widths, and numbers near them and far outside.
var widths = []int{math.MinInt, -8, -1, 0, 1, 2, 3, 4, 5, 6, 7, 8, 9, 16, 1 << 32, math.MaxInt}

// numbers has the edges of all widths.
func numbers() []uint64 {
	l := []uint64{0x0102030405060708, 0xfedcba9876543210, math.MaxUint64 - 1, math.MaxUint64}
	for bit := range 64 {
		l = append(l, 1<<bit-1, 1<<bit, 1<<bit+1)
	}
	slices.Sort(l)
	return slices.Compact(l)
}

// encoded is what Num has to return.
func encoded(w int, n uint64) string {
	if w < 1 || w > 8 {
		return ""
	}
	return string(binary.BigEndian.AppendUint64(nil, n)[8-w:])
}

// texts has strings of many lengths, with all bytes.
func texts() []string {
	var every []byte
	for c := range 256 {
		every = append(every, byte(c))
	}
	l := []string{string(every), "\x00", "\x00\x00\x00", "a\x00", "\xff", "\n %", "\xe4\xb8"}
	for _, n := range []int{0, 1, 2, 7, 8, 9, 255, 256, 257, 65534, 65535} {
		l = append(l, strings.Repeat("k", n))
	}
	return l
}

func TestP3_1Num(t *testing.T) {
	for _, w := range widths {
		for _, n := range numbers() {
			if got := Num(w, n); got != encoded(w, n) {
				t.Errorf("%d %d %q", w, n, got)
			}
		}
	}
}

func TestP3_1NumExamples(t *testing.T) {
	for _, x := range []struct {
		w   int
		n   uint64
		out string
	}{
		{1, 0, "\x00"},
		{1, 255, "\xff"},
		{1, 256, "\x00"},
		{1, 257, "\x01"},
		{2, 258, "\x01\x02"},
		{3, 258, "\x00\x01\x02"},
		{3, 0x04010203, "\x01\x02\x03"},
		{7, 1<<56 + 1, "\x00\x00\x00\x00\x00\x00\x01"},
		{8, 1<<56 + 1, "\x01\x00\x00\x00\x00\x00\x00\x01"},
		{8, 1<<64 - 1, "\xff\xff\xff\xff\xff\xff\xff\xff"},
		{0, 1, ""},
		{9, 1, ""},
		{-1, 1, ""},
		{math.MaxInt, 1, ""},
		{math.MinInt, 1, ""},
	} {
		if got := Num(x.w, x.n); got != x.out {
			t.Errorf("%d %d %q", x.w, x.n, got)
		}
	}
}

func TestP3_1Text(t *testing.T) {
	for _, s := range texts() {
		if got, why := Text(s); got != encoded(2, uint64(len(s)))+s || why != api.OK {
			t.Error(len(s), len(got), why)
		}
	}
	for _, n := range []int{65536, 65537, 1 << 17, 1 << 20} {
		if got, why := Text(strings.Repeat("k", n)); got != "" || why != api.ErrLong {
			t.Error(n, len(got), why)
		}
	}
	if got, why := Text("ab"); got != "\x00\x02ab" || why != api.OK {
		t.Errorf("%q %d", got, why)
	}
	if got, why := Text(""); got != "\x00\x00" || why != api.OK {
		t.Errorf("%q %d", got, why)
	}
}

// model is a reader with a position, written without regard to the program's.
type model struct {
	s   string
	at  int
	why api.Errno
}

func (m *model) raw(n int) string {
	switch {
	case m.why != api.OK:
		return ""
	case n < 0:
		m.why = api.ErrArg
		return ""
	case n > len(m.s)-m.at:
		m.why = api.ErrShort
		return ""
	}
	m.at += n
	return m.s[m.at-n : m.at]
}

func (m *model) num(w int) uint64 {
	if m.why == api.OK && (w < 1 || w > 8) {
		m.why = api.ErrArg
	}
	if m.why != api.OK {
		return 0
	}
	b := []byte(m.raw(w))
	if m.why != api.OK {
		return 0
	}
	return binary.BigEndian.Uint64(append(make([]byte, 8-w), b...))
}

func (m *model) text(most int) string {
	n := int(m.num(2))
	if m.why != api.OK {
		return ""
	}
	if n > most {
		m.why = api.ErrLong
		return ""
	}
	return m.raw(n)
}

func (m *model) left() int {
	if m.why != api.OK {
		return 0
	}
	return len(m.s) - m.at
}

func (m *model) end() api.Errno {
	if m.why == api.OK && m.at < len(m.s) {
		return api.ErrForm
	}
	return m.why
}

// reads has each kind of read with each argument, on a reader and on a model.
func reads() []func(r *Reader, m *model) bool {
	var l []func(r *Reader, m *model) bool
	for _, n := range []int{math.MinInt, -1, 0, 1, 2, 3, 5, 8, 9, 10, math.MaxInt} {
		l = append(l,
			func(r *Reader, m *model) bool { return r.Raw(n) == m.raw(n) },
			func(r *Reader, m *model) bool { return r.Num(n) == m.num(n) },
			func(r *Reader, m *model) bool { return r.Text(n) == m.text(n) })
	}
	return l
}

func TestP3_2ReadsInAllOrders(t *testing.T) {
	inputs := []string{"", "\x00", "\x01", "\x00\x00", "\x00\x01", "\x00\x01a", "\x00\x02ab", "\x00\x02abc", "\x00\x03ab", "\x01\x00ab",
		"\xff\xff", "\x00\x00\x00\x01a\x00\x02bc", "abcdefgh", "abcdefghi", "\xff\xff\xff\xff\xff\xff\xff\xff\x00\x01a", "\x00\x09abcdefghij"}
	l := reads()
	for _, s := range inputs {
		for i := range len(l) * len(l) * len(l) {
			r, m := Open(s), &model{s: s}
			for _, j := range []int{i % len(l), i / len(l) % len(l), i / len(l) / len(l)} {
				same := l[j](r, m)
				if !same || r.Left() != m.left() || r.Err() != m.why || r.End() != m.end() {
					t.Errorf("%q %d %d: %v %d %d %d", s, i, j, same, r.Left(), r.Err(), r.End())
				}
			}
		}
	}
}

func TestP3_2Num(t *testing.T) {
	for _, x := range []struct {
		s    string
		w    int
		out  uint64
		left int
		why  api.Errno
	}{
		{"\x01\x02\x03", 1, 1, 2, api.OK},
		{"\x01\x02\x03", 2, 258, 1, api.OK},
		{"\x01\x02\x03", 3, 0x010203, 0, api.OK},
		{"\x01\x02\x03", 4, 0, 0, api.ErrShort},
		{"\xff\xff\xff\xff\xff\xff\xff\xff\xff", 8, math.MaxUint64, 1, api.OK},
		{"", 1, 0, 0, api.ErrShort},
		{"", 0, 0, 0, api.ErrArg},
		{"\x01", 0, 0, 0, api.ErrArg},
		{"\x01", 9, 0, 0, api.ErrArg},
		{"123456789", 9, 0, 0, api.ErrArg},
		{"\x01", -1, 0, 0, api.ErrArg},
		{"\x01", math.MinInt, 0, 0, api.ErrArg},
		{"\x01", math.MaxInt, 0, 0, api.ErrArg},
	} {
		r := Open(x.s)
		if got := r.Num(x.w); got != x.out || r.Left() != x.left || r.Err() != x.why {
			t.Errorf("%q %d: %d %d %d", x.s, x.w, got, r.Left(), r.Err())
		}
	}
}

func TestP3_2Text(t *testing.T) {
	long := strings.Repeat("k", 65535)
	for _, x := range []struct {
		s    string
		most int
		out  string
		left int
		why  api.Errno
	}{
		{"\x00\x02abc", 2, "ab", 1, api.OK},
		{"\x00\x02abc", math.MaxInt, "ab", 1, api.OK},
		{"\x00\x00", 0, "", 0, api.OK},
		{"\x00\x00c", 0, "", 1, api.OK},
		{"\x00\x02abc", 1, "", 0, api.ErrLong},
		{"\x00\x02a", 1, "", 0, api.ErrLong},
		{"\x00\x02a", 2, "", 0, api.ErrShort},
		{"\x00\x02", 2, "", 0, api.ErrShort},
		{"\x00\x00", -1, "", 0, api.ErrLong},
		{"\x00\x00", math.MinInt, "", 0, api.ErrLong},
		{"\x00", -1, "", 0, api.ErrShort},
		{"\x00", 5, "", 0, api.ErrShort},
		{"", -1, "", 0, api.ErrShort},
		{"\xff\xff" + long, 65535, long, 0, api.OK},
		{"\xff\xff" + long, 65534, "", 0, api.ErrLong},
		{"\xff\xff" + long[1:], 65535, "", 0, api.ErrShort},
	} {
		r := Open(x.s)
		if got := r.Text(x.most); got != x.out || r.Left() != x.left || r.Err() != x.why {
			t.Errorf("%.10q %d: %.10q %d %d", x.s, x.most, got, r.Left(), r.Err())
		}
	}
}

func TestP3_2Raw(t *testing.T) {
	for _, x := range []struct {
		s    string
		n    int
		out  string
		left int
		why  api.Errno
	}{
		{"abc", 0, "", 3, api.OK},
		{"abc", 2, "ab", 1, api.OK},
		{"abc", 3, "abc", 0, api.OK},
		{"abc", 4, "", 0, api.ErrShort},
		{"", 0, "", 0, api.OK},
		{"", 1, "", 0, api.ErrShort},
		{"abc", -1, "", 0, api.ErrArg},
		{"", -1, "", 0, api.ErrArg},
		{"abc", math.MinInt, "", 0, api.ErrArg},
		{"abc", math.MaxInt, "", 0, api.ErrShort},
	} {
		r := Open(x.s)
		if got := r.Raw(x.n); got != x.out || r.Left() != x.left || r.Err() != x.why {
			t.Errorf("%q %d: %q %d %d", x.s, x.n, got, r.Left(), r.Err())
		}
	}
}

func TestP3_2TheFirstErrorStays(t *testing.T) {
	for _, first := range []struct {
		read func(r *Reader)
		why  api.Errno
	}{
		{func(r *Reader) { r.Num(9) }, api.ErrArg},
		{func(r *Reader) { r.Raw(-1) }, api.ErrArg},
		{func(r *Reader) { r.Raw(100) }, api.ErrShort},
		{func(r *Reader) { r.Num(8) }, api.ErrShort},
		{func(r *Reader) { r.Text(-1) }, api.ErrLong},
		{func(r *Reader) { r.Text(100) }, api.ErrShort},
	} {
		r := Open("\x00\x09abc")
		first.read(r)
		for range 2 {
			if r.Num(1) != 0 || r.Num(0) != 0 || r.Text(9) != "" || r.Text(-1) != "" || r.Raw(1) != "" || r.Raw(0) != "" || r.Raw(-1) != "" || r.Raw(9) != "" {
				t.Error("a read of a failed reader", first.why)
			}
			if r.Left() != 0 || r.Err() != first.why || r.End() != first.why {
				t.Error(first.why, r.Left(), r.Err(), r.End())
			}
		}
	}
}

func TestP3_2End(t *testing.T) {
	r := Open("ab")
	if r.End() != api.ErrForm || r.Err() != api.OK || r.Left() != 2 {
		t.Error("at the beginning", r.End(), r.Err(), r.Left())
	}
	if r.Raw(1) != "a" || r.End() != api.ErrForm || r.Raw(1) != "b" || r.End() != api.OK || r.Err() != api.OK {
		t.Error("at the end", r.End(), r.Err())
	}
	if Open("").End() != api.OK || Open("").Err() != api.OK || Open("").Left() != 0 {
		t.Error("of nothing")
	}
}

func TestP3_2NilReader(t *testing.T) {
	var r *Reader
	for range 2 {
		for _, n := range []int{math.MinInt, -1, 0, 1, 8, 9, math.MaxInt} {
			if r.Num(n) != 0 || r.Text(n) != "" || r.Raw(n) != "" {
				t.Error(n)
			}
		}
		if r.Left() != 0 || r.Err() != api.ErrArg || r.End() != api.ErrArg {
			t.Error(r.Left(), r.Err(), r.End())
		}
	}
}

func TestP3_2ReadersAreIndependent(t *testing.T) {
	s := "abcd"
	a, b := Open(s), Open(s)
	if a.Raw(3) != "abc" || b.Left() != 4 || b.Raw(-1) != "" || a.Err() != api.OK || a.Left() != 1 || a.Raw(1) != "d" {
		t.Error(a.Left(), a.Err(), b.Left(), b.Err())
	}
}

func TestP3_3RiseAndFall(t *testing.T) {
	for _, n := range numbers() {
		up, down := encoded(8, n), encoded(8, math.MaxUint64-n)
		if Rise(n) != up || Fall(n) != down {
			t.Errorf("%d %q %q", n, Rise(n), Fall(n))
		}
		if got, why := OfRise(up); got != n || why != api.OK {
			t.Error("OfRise", n, got, why)
		}
		if got, why := OfFall(down); got != n || why != api.OK {
			t.Error("OfFall", n, got, why)
		}
	}
	if Rise(258) != "\x00\x00\x00\x00\x00\x00\x01\x02" || Fall(258) != "\xff\xff\xff\xff\xff\xff\xfe\xfd" {
		t.Errorf("%q %q", Rise(258), Fall(258))
	}
}

func TestP3_3OtherLengths(t *testing.T) {
	for n := range 30 {
		s := strings.Repeat("\xff", n)
		up, why := OfRise(s)
		down, other := OfFall(s)
		if n == 8 {
			if up != math.MaxUint64 || down != 0 || why != api.OK || other != api.OK {
				t.Error(up, down, why, other)
			}
		} else if up != 0 || down != 0 || why != api.ErrForm || other != api.ErrForm {
			t.Error(n, up, down, why, other)
		}
	}
}

func TestP3_4Pad(t *testing.T) {
	lengths := []int{math.MinInt, -1, 0, 1, 2, 3, 4, 255, 256, 480, 65535, 65536, 65537, 65538, 70000, 1 << 40, math.MaxInt}
	for _, s := range append(texts(), strings.Repeat("k", 65536), strings.Repeat("k", 65537)) {
		for _, n := range lengths {
			want := []byte(s)
			for n <= 65536 && len(want) < n {
				want = append(want, 0)
			}
			if got := Pad(s, n); got != string(want) {
				t.Error(len(s), n, len(got))
			}
		}
	}
	if Pad("ab", 4) != "ab\x00\x00" || Pad("ab", 2) != "ab" || Pad("ab", 1) != "ab" || Pad("", 2) != "\x00\x00" {
		t.Error("examples")
	}
}

func TestP3_4Cut(t *testing.T) {
	for _, x := range []struct {
		s    string
		each int
		out  []string
	}{
		{"abcde", 1, []string{"a", "b", "c", "d", "e"}},
		{"abcde", 2, []string{"ab", "cd", "e"}},
		{"abcd", 2, []string{"ab", "cd"}},
		{"abcde", 4, []string{"abcd", "e"}},
		{"abcde", 5, []string{"abcde"}},
		{"abcde", 6, []string{"abcde"}},
		{"abcde", math.MaxInt, []string{"abcde"}},
		{"\x00\xff\x00", 2, []string{"\x00\xff", "\x00"}},
		{"abcde", 0, nil},
		{"abcde", -1, nil},
		{"abcde", math.MinInt, nil},
		{"", 1, nil},
		{"", 0, nil},
		{"", math.MaxInt, nil},
	} {
		if got := Cut(x.s, x.each); !slices.Equal(got, x.out) {
			t.Errorf("%q %d: %q", x.s, x.each, got)
		}
	}
}

func TestP3_4Noughts(t *testing.T) {
	for n := range 20 {
		b := make([]byte, n)
		if !Noughts(string(b)) {
			t.Error(n)
		}
		for i := range b {
			for _, c := range []byte{1, 2, 16, '0', 128, 255} {
				b[i] = c
				if Noughts(string(b)) {
					t.Error(n, i, c)
				}
			}
			b[i] = 0
		}
	}
}

func TestP3_5RoundTripOfNumbers(t *testing.T) {
	for _, n := range numbers() {
		for w := 1; w <= 8; w++ {
			r := Open(Num(w, n))
			kept := n << (64 - 8*w) >> (64 - 8*w)
			if got := r.Num(w); got != kept || r.End() != api.OK {
				t.Error(w, n, got, r.End())
			}
		}
		if got, why := OfRise(Rise(n)); got != n || why != api.OK {
			t.Error(n, got, why)
		}
		if got, why := OfFall(Fall(n)); got != n || why != api.OK {
			t.Error(n, got, why)
		}
	}
}

func TestP3_5RoundTripOfTexts(t *testing.T) {
	all := ""
	for _, s := range texts() {
		e, _ := Text(s)
		all += e
		for _, most := range []int{len(s), len(s) + 1, math.MaxInt} {
			r := Open(e)
			if got := r.Text(most); got != s || r.End() != api.OK {
				t.Error(len(s), len(got), r.End())
			}
		}
	}
	r := Open(all)
	for _, s := range texts() {
		if got := r.Text(len(s)); got != s {
			t.Error(len(s), len(got), r.Err())
		}
	}
	if r.End() != api.OK {
		t.Error(r.End())
	}
}

func TestP3_5PiecesOfCut(t *testing.T) {
	for _, s := range texts() {
		for _, each := range []int{1, 2, 3, 255, 256, 480, 65534, 65535, 65536, math.MaxInt} {
			l := Cut(s, each)
			if strings.Join(l, "") != s {
				t.Error(len(s), each)
			}
			for i, p := range l {
				if p == "" || len(p) > each || len(p) < each && i != len(l)-1 {
					t.Error(len(s), each, i, len(p))
				}
			}
		}
	}
}

func TestP3_6Order(t *testing.T) {
	l := numbers()
	for i, a := range l {
		for _, b := range l[i+1:] {
			if Rise(a) >= Rise(b) || Fall(a) <= Fall(b) {
				t.Error(a, b)
			}
		}
	}
}

// everything has the results of all functions for edges of their arguments.
func everything() []any {
	var l []any
	add := func(x any, why api.Errno) { l = append(l, x, why) }
	for _, n := range widths {
		add(Num(n, 77), 0)
		for _, s := range texts() {
			r := Open(s)
			add(r.Text(n), r.Err())
			add(r.Num(n), r.Err())
			add(r.Raw(n), r.End())
			add(Pad(s, n), 0)
			add(strings.Join(Cut(s, n), ","), api.Errno(len(Cut(s, n))))
		}
	}
	for _, s := range texts() {
		add(Text(s))
		add(OfRise(s))
		add(OfFall(s))
		add(Noughts(s), 0)
	}
	return l
}

func TestP1_P2SameResultsForAllArguments(t *testing.T) {
	if !slices.Equal(everything(), everything()) {
		t.Error("different results for the same arguments")
	}
}

func TestRulesResultsAreNew(t *testing.T) {
	first := Cut("abcd", 2)
	first[0] = "x"
	if again := Cut("abcd", 2); !slices.Equal(again, []string{"ab", "cd"}) {
		t.Error(again)
	}
}
