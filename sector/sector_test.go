package sector

import (
	"encoding/binary"
	"hash/crc32"
	"math"
	"slices"
	"strings"
	"testing"

	"wharfage/api"
)

// ints has the edges of kinds and of numbers of two bytes, and such far outside.
var ints = []int{math.MinInt, -65536, -256, -1, 0, 1, 2, 3, 4, 5, 6, 254, 255, 256, 257, 258, 260, 3839, 65534, 65535, 65536, 65537, 1 << 32, 1<<32 + 1, math.MaxInt}

var longs = []uint64{0, 1, 255, 256, 0x0102030405060708, 0xfedcba9876543210, 1<<63 - 1, 1 << 63, math.MaxUint64}

var noughts = strings.Repeat("\x00", 480)

// mixed is a page without a short period.
func mixed() string {
	b := make([]byte, 480)
	for i := range b {
		b[i] = byte(i*i + i/7 + i>>5)
	}
	return string(b)
}

func contents() []string {
	return []string{
		mixed(), noughts, strings.Repeat("\xff", 480), noughts[1:] + "\x01", "\x80" + noughts[1:],
		"", "x", noughts[1:], noughts + "\x00", mixed()[1:], mixed() + "x", strings.Repeat("\x00", 512), strings.Repeat("x", 960),
	}
}

// valid is what the document calls so.
func valid(s Sector) bool {
	kinds := []int{1, 2, 3, 4}
	return slices.Contains(kinds, s.Kind) && 0 <= s.At && s.At <= 65535 && 0 <= s.Many && s.Many <= 65535 && len(s.Page) == 480
}

// signed returns bytes with the checksum that belongs at the offset 28.
func signed(b []byte) string {
	b = slices.Clone(b)
	sum := crc32.Checksum(slices.Concat(b[:28], b[32:]), crc32.MakeTable(crc32.Koopman))
	binary.BigEndian.PutUint32(b[28:], sum)
	return string(b)
}

// encoded is the encoding of a sector, laid out by offsets.
func encoded(s Sector) string {
	b := make([]byte, 512)
	b[0] = byte(s.Kind)
	binary.BigEndian.PutUint16(b[2:], uint16(s.At))
	binary.BigEndian.PutUint16(b[4:], uint16(s.Many))
	binary.BigEndian.PutUint64(b[8:], s.Epoch)
	binary.BigEndian.PutUint64(b[16:], s.Number)
	copy(b[32:], s.Page)
	return signed(b)
}

// sectors has valid ones and others, with each field at its edges.
func sectors() []Sector {
	var l []Sector
	for _, x := range []Sector{
		{Kind: Head, Page: noughts},
		{Kind: Image, Epoch: 3, Number: 258, At: 7, Many: 1, Page: mixed()},
		{Kind: HomePage, At: 65535, Many: 65535, Epoch: math.MaxUint64, Number: math.MaxUint64, Page: strings.Repeat("\xff", 480)},
	} {
		l = append(l, x)
		for _, n := range ints {
			kind, at, many := x, x, x
			kind.Kind, at.At, many.Many = n, n, n
			l = append(l, kind, at, many)
		}
		for _, n := range longs {
			epoch, number := x, x
			epoch.Epoch, number.Number = n, n
			l = append(l, epoch, number)
		}
		for _, p := range contents() {
			x.Page = p
			l = append(l, x)
		}
	}
	return l
}

func TestP6_1Kinds(t *testing.T) {
	if got := [4]int{Head, Image, Commit, HomePage}; got != [4]int{1, 2, 3, 4} {
		t.Error(got)
	}
}

func TestP6_1Check(t *testing.T) {
	for _, s := range sectors() {
		want := api.ErrArg
		if valid(s) {
			want = api.OK
		}
		if got := Check(s); got != want {
			t.Error(s.Kind, s.At, s.Many, len(s.Page), got)
		}
	}
}

func TestP6_1CheckAllNumbersOfTwoBytes(t *testing.T) {
	p := mixed()
	for n := -300; n < 65536+300; n++ {
		want := api.ErrArg
		if 0 <= n && n <= 65535 {
			want = api.OK
		}
		at, many := Check(Sector{Kind: Commit, At: n, Page: p}), Check(Sector{Kind: Commit, Many: n, Page: p})
		if at != want || many != want {
			t.Error(n, at, many)
		}
	}
}

func TestP6_1CheckAllLengths(t *testing.T) {
	p := mixed() + mixed()
	for n := range len(p) {
		want := api.ErrArg
		if n == 480 {
			want = api.OK
		}
		if got := Check(Sector{Kind: Head, Page: p[:n]}); got != want {
			t.Error(n, got)
		}
	}
}

func TestP6_1Seal(t *testing.T) {
	for _, s := range sectors() {
		want, why := "", api.ErrArg
		if valid(s) {
			want, why = encoded(s), api.OK
		}
		if got, no := Seal(s); got != want || no != why {
			t.Errorf("%d %d %d %d %d %d: %x", s.Kind, s.At, s.Many, s.Epoch, s.Number, no, got[:min(32, len(got))])
		}
	}
}

func TestP6_1SealByHand(t *testing.T) {
	page := strings.Repeat("page", 120)
	front := "\x03\x00\x01\x02\x03\x04\x00\x00\x05\x06\x07\x08\x09\x0a\x0b\x0c\x0d\x0e\x0f\x10\x11\x12\x13\x14\x00\x00\x00\x00"
	sum := crc32.Checksum([]byte(front+page), crc32.MakeTable(0xeb31d82e))
	want := front + string([]byte{byte(sum >> 24), byte(sum >> 16), byte(sum >> 8), byte(sum)}) + page
	s := Sector{Kind: 3, At: 0x0102, Many: 0x0304, Epoch: 0x05060708090a0b0c, Number: 0x0d0e0f1011121314, Page: page}
	if got, why := Seal(s); got != want || why != api.OK || len(got) != 512 {
		t.Errorf("%x %d", got, why)
	}
	if got, why := Open(want); got != s || why != api.OK {
		t.Error(got, why)
	}
}

// bad reports that b is the encoding of no sector.
func bad(b string) bool {
	s, why := Open(b)
	return s == Sector{} && why == api.ErrForm
}

func TestP6_1OpenOtherKinds(t *testing.T) {
	b := []byte(encoded(Sector{Kind: Image, Epoch: 3, Number: 258, At: 7, Many: 1, Page: mixed()}))
	for kind := range 256 {
		b[0] = byte(kind)
		if got := !bad(signed(b)); got != (kind >= 1 && kind <= 4) {
			t.Error(kind, got)
		}
	}
}

// The checksum is right in all of these: only the gaps are not.
func TestP6_1OpenZeroBytes(t *testing.T) {
	good := encoded(Sector{Kind: Commit, Epoch: 3, Number: 258, At: 7, Many: 1, Page: mixed()})
	for _, at := range []int{1, 6, 7, 24, 25, 26, 27} {
		for c := 1; c < 256; c++ {
			b := []byte(good)
			b[at] = byte(c)
			if !bad(signed(b)) {
				t.Error(at, c)
			}
		}
	}
}

func TestP6_1OpenOtherBytesAreFree(t *testing.T) {
	for at := range 512 {
		b := []byte(encoded(Sector{Kind: Commit, Page: noughts}))
		b[at] = 3
		s, why := Open(signed(b))
		gap := at == 1 || at == 6 || at == 7 || at >= 24 && at <= 27
		if (why == api.OK) == gap || why == api.OK && encoded(s) != signed(b) {
			t.Error(at, s.Kind, why)
		}
	}
}

func TestP6_1OpenChecksum(t *testing.T) {
	good := encoded(Sector{Kind: Head, Epoch: 1, At: 8, Many: 4, Page: noughts})
	for at := 28; at < 32; at++ {
		for c := 1; c < 256; c++ {
			if !bad(changed(good, at, byte(c))) {
				t.Error(at, c)
			}
		}
	}
	// Neither a checksum of another part, nor one in another order of bytes.
	koopman := crc32.MakeTable(crc32.Koopman)
	for _, part := range []string{good, good[:28], good[32:], good[:28] + "\x00\x00\x00\x00" + good[32:]} {
		b := []byte(good)
		binary.BigEndian.PutUint32(b[28:], crc32.Checksum([]byte(part), koopman))
		if !bad(string(b)) {
			t.Error(len(part))
		}
	}
	b := []byte(good)
	slices.Reverse(b[28:32])
	if !bad(string(b)) {
		t.Error("reversed")
	}
}

func TestP6_1OpenOtherLengths(t *testing.T) {
	for _, s := range []Sector{{Kind: Head, Page: noughts}, {Kind: Image, Epoch: 3, Number: 258, At: 7, Many: 1, Page: mixed()}} {
		good := encoded(s)
		for n := range 512 {
			if !bad(good[:n]) || !bad(good[512-n:]) || !bad(good+good[:n+1]) {
				t.Error(n)
			}
		}
	}
	for _, b := range []string{"\x00", "x", strings.Repeat("\xff", 512), strings.Repeat("\x00", 511), strings.Repeat("\x01", 1<<20)} {
		if !bad(b) {
			t.Error(len(b))
		}
	}
}

func TestP6_1Blank(t *testing.T) {
	if got := Blank(); got != strings.Repeat("\x00", 512) {
		t.Errorf("%d %q", len(got), got)
	}
	if !bad(Blank()) {
		t.Error("a blank sector is no encoding")
	}
}

// homed is what Home has to return.
func homed(page int, text string) (string, api.Errno) {
	s := Sector{Kind: 4, At: page, Page: text}
	if !valid(s) {
		return "", api.ErrArg
	}
	if text == noughts {
		return strings.Repeat("\x00", 512), api.OK
	}
	return encoded(s), api.OK
}

func TestP6_2Home(t *testing.T) {
	for _, page := range ints {
		for _, text := range contents() {
			want, why := homed(page, text)
			if got, no := Home(page, text); got != want || no != why {
				t.Error(page, len(text), len(got), no)
			}
		}
	}
}

func TestP6_2HomeOfAlmostZeroBytes(t *testing.T) {
	for at := range 480 {
		text := changed(noughts, at, 1)
		want := encoded(Sector{Kind: 4, At: 9, Page: text})
		if got, why := Home(9, text); got != want || why != api.OK {
			t.Error(at, why)
		}
	}
}

func TestP6_2OfHome(t *testing.T) {
	for _, page := range ints {
		for _, at := range ints {
			for _, text := range contents() {
				b, why := homed(page, text)
				if why != api.OK || b == Blank() {
					continue
				}
				got, no := OfHome(b, at)
				if at == page && (got != text || no != api.OK) || at != page && (got != "" || no != api.ErrForm) {
					t.Error(page, at, len(got), no)
				}
			}
		}
	}
}

func TestP6_2OfHomeBlank(t *testing.T) {
	for _, page := range ints {
		if got, why := OfHome(strings.Repeat("\x00", 512), page); got != noughts || why != api.OK {
			t.Error(page, len(got), why)
		}
		for _, n := range []int{0, 1, 480, 511, 513, 1024} {
			if got, why := OfHome(strings.Repeat("\x00", n), page); got != "" || why != api.ErrForm {
				t.Error(page, n, len(got), why)
			}
		}
	}
}

// A page of zero bytes may be sealed like any other page.
func TestP6_2OfHomeSealedZeroBytes(t *testing.T) {
	b := encoded(Sector{Kind: 4, At: 5, Page: noughts})
	if got, why := OfHome(b, 5); got != noughts || why != api.OK {
		t.Error(len(got), why)
	}
	if got, why := OfHome(b, 6); got != "" || why != api.ErrForm {
		t.Error(len(got), why)
	}
}

func TestP6_2OfHomeOtherSectors(t *testing.T) {
	p := mixed()
	for _, s := range []Sector{
		{Kind: 1, At: 5, Page: p},
		{Kind: 2, At: 5, Page: p},
		{Kind: 3, At: 5, Page: p},
		{Kind: 4, At: 5, Many: 1, Page: p},
		{Kind: 4, At: 5, Many: 5, Page: p},
		{Kind: 4, At: 5, Epoch: 1, Page: p},
		{Kind: 4, At: 5, Number: 1, Page: p},
		{Kind: 4, At: 5, Epoch: 1 << 63, Page: p},
		{Kind: 4, At: 5, Number: 1 << 63, Page: p},
		{Kind: 4, At: 5, Many: 1, Page: noughts},
		{Kind: 4, At: 5 + 256, Page: p},
	} {
		if got, why := OfHome(encoded(s), 5); got != "" || why != api.ErrForm {
			t.Error(s.Kind, s.At, s.Many, s.Epoch, s.Number, len(got), why)
		}
	}
	good := encoded(Sector{Kind: 4, At: 5, Page: p})
	for _, b := range []string{"", good[1:], good[:511], good + "\x00", changed(good, 30, 1), changed(good, 1, 1), changed(good, 511, 1), p} {
		if got, why := OfHome(b, 5); got != "" || why != api.ErrForm {
			t.Error(len(b), len(got), why)
		}
	}
}

func TestP6_2OfHomeInvertsHome(t *testing.T) {
	for page := range 65536 {
		text := changed(noughts, page%480, byte(page%3))
		b, _ := Home(page, text)
		if got, why := OfHome(b, page); got != text || why != api.OK {
			t.Fatal(page, why)
		}
	}
}

func TestP6_3OpenInvertsSeal(t *testing.T) {
	for _, s := range sectors() {
		b, why := Seal(s)
		if why != api.OK {
			continue
		}
		if got, no := Open(b); got != s || no != api.OK {
			t.Error(s.Kind, s.At, s.Many, s.Epoch, s.Number, no)
		}
	}
}

// changed returns s with the bytes from one on changed by XOR.
func changed(s string, at int, by ...byte) string {
	b := []byte(s)
	for i, c := range by {
		b[at+i] ^= c
	}
	return string(b)
}

func examples() []string {
	home, _ := Home(7, mixed())
	return []string{
		home,
		encoded(Sector{Kind: Head, Page: noughts}),
		encoded(Sector{Kind: Image, Epoch: 3, Number: 258, At: 7, Many: 1, Page: mixed()}),
		encoded(Sector{Kind: Commit, Epoch: math.MaxUint64, Number: math.MaxUint64, At: 65535, Many: 65535, Page: strings.Repeat("\xff", 480)}),
	}
}

func TestP6_3ChangesOfOneByte(t *testing.T) {
	for i, b := range examples()[:3] {
		for at := range 512 {
			for c := 1; c < 256; c++ {
				if !bad(changed(b, at, byte(c))) {
					t.Error(i, at, c)
				}
			}
		}
	}
}

func TestP6_3ChangesWithinFourBytes(t *testing.T) {
	some := []byte{0, 1, 0xff}
	for i, b := range examples() {
		for at := range 509 {
			for n := 1; n < 81; n++ {
				by := []byte{some[n%3], some[n/3%3], some[n/9%3], some[n/27]}
				if !straddles(at, by) && !bad(changed(b, at, by...)) {
					t.Error(i, at, by)
				}
			}
		}
	}
}

// straddles reports whether bytes are changed both inside the checksum and
// outside of it: about these changes, nothing is promised.
func straddles(at int, by []byte) bool {
	inside, outside := false, false
	for i, c := range by {
		in := at+i >= 28 && at+i < 32
		inside = inside || c != 0 && in
		outside = outside || c != 0 && !in
	}
	return inside && outside
}

// everything has the results of all functions for edges of their arguments.
func everything() []any {
	l := []any{Blank()}
	add := func(x any, why api.Errno) { l = append(l, x, why) }
	for _, s := range sectors() {
		b, why := Seal(s)
		add(b, why)
		add(Open(b))
		add(s.Kind, Check(s))
	}
	for _, page := range ints {
		for _, text := range contents() {
			b, why := Home(page, text)
			add(b, why)
			add(OfHome(b, page))
			add(OfHome(text, page))
			add(Open(text))
		}
	}
	return l
}

func TestP1_P2SameResultsForAllArguments(t *testing.T) {
	if !slices.Equal(everything(), everything()) {
		t.Error("different results for the same arguments")
	}
}
