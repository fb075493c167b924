package name

import (
	"math"
	"regexp"
	"slices"
	"strconv"
	"strings"
	"testing"

	"wharfage/api"
)

const (
	lower   = "abcdefghijklmnopqrstuvwxyz"
	upper   = "ABCDEFGHIJKLMNOPQRSTUVWXYZ"
	figures = "0123456789"
)

// strung has all strings of up to n of the letters.
func strung(letters string, n int) []string {
	l := []string{""}
	from := 0
	for range n {
		to := len(l)
		for _, s := range l[from:to] {
			for i := range len(letters) {
				l = append(l, s+letters[i:i+1])
			}
		}
		from = to
	}
	return l
}

func single(c int) string { return string([]byte{byte(c)}) }

func okIf(valid bool) api.Errno {
	if valid {
		return api.OK
	}
	return api.ErrArg
}

func TestP5_1BucketLengths(t *testing.T) {
	for n := range 40 {
		if got := Bucket(strings.Repeat("a", n)); got != okIf(n >= 1 && n <= 12) {
			t.Error(n, got)
		}
	}
}

func TestP5_1BucketBytes(t *testing.T) {
	for c := range 256 {
		s := single(c)
		inside := strings.Contains(lower+figures+"-", s)
		outside := strings.Contains(lower+figures, s)
		for _, x := range []struct {
			s     string
			valid bool
		}{
			{s, outside},
			{s + "bc", outside},
			{"ab" + s, outside},
			{"a" + s + "c", inside},
			{"a" + s + s + "c", inside},
			{"abcdefghijk" + s, outside},
			{"abcdefghij" + s + "l", inside},
		} {
			if got := Bucket(x.s); got != okIf(x.valid) {
				t.Errorf("%q %d", x.s, got)
			}
		}
	}
}

func TestP5_1BucketExamples(t *testing.T) {
	for s, valid := range map[string]bool{
		"a": true, "7": true, "a-1": true, "a--b": true, "0-0": true, "abcdefghijkl": true, "1234567890-z": true,
		"": false, "-": false, "--": false, "-a": false, "a-": false, "abcdefghijklm": false, "A": false, "aB": false, "a.b": false,
		"a_b": false, "a b": false, "a\n": false, "\x00": false, "a\x00": false, "\xff": false, "é": false, "a/b": false,
	} {
		if got := Bucket(s); got != okIf(valid) {
			t.Errorf("%q %d", s, got)
		}
	}
}

func TestP5_1KeyAndPrefixLengths(t *testing.T) {
	for n := range 60 {
		s := strings.Repeat("k", n)
		if got := Key(s); got != okIf(n >= 1 && n <= 24) {
			t.Error("Key", n, got)
		}
		if got := Prefix(s); got != okIf(n <= 24) {
			t.Error("Prefix", n, got)
		}
	}
	long := strings.Repeat("k", 1<<20)
	if Bucket(long) != api.ErrArg || Key(long) != api.ErrArg || Prefix(long) != api.ErrArg {
		t.Error("long")
	}
}

func TestP5_1KeyAndPrefixBytes(t *testing.T) {
	for c := range 256 {
		s := single(c)
		for _, k := range []string{s, s + "bc", "ab" + s, "a" + s + "c", strings.Repeat("k", 23) + s, s + strings.Repeat("k", 23)} {
			if got := Key(k); got != okIf(c != 0) {
				t.Errorf("Key %q %d", k, got)
			}
			if got := Prefix(k); got != okIf(c != 0) {
				t.Errorf("Prefix %q %d", k, got)
			}
		}
	}
}

// worded is what Word has to return.
func worded(s string) string {
	if s == "" {
		return "%"
	}
	w := ""
	for i := range len(s) {
		if strings.Contains(lower+upper+figures+"-_.", s[i:i+1]) {
			w += s[i : i+1]
		} else {
			code := strconv.FormatInt(int64(s[i]), 16)
			w += "%" + strings.Repeat("0", 2-len(code)) + strings.ToUpper(code)
		}
	}
	return w
}

func TestP5_1Word(t *testing.T) {
	for a := range 256 {
		if s := single(a); Word(s) != worded(s) {
			t.Errorf("%q %q", s, Word(s))
		}
		for b := range 256 {
			if s := single(a) + single(b); Word(s) != worded(s) {
				t.Errorf("%q %q", s, Word(s))
			}
		}
	}
}

func TestP5_1WordExamples(t *testing.T) {
	for s, w := range map[string]string{
		"":          "%",
		"%":         "%25",
		"%%":        "%25%25",
		" ":         "%20",
		"a b":       "a%20b",
		"A_b.c-1":   "A_b.c-1",
		"\n\xff":    "%0A%FF",
		"\x00":      "%00",
		"/":         "%2F",
		":":         "%3A",
		"@":         "%40",
		"[":         "%5B",
		"`":         "%60",
		"{":         "%7B",
		"%41":       "%2541",
		"k\x7f\x80": "k%7F%80",
	} {
		if got := Word(s); got != w {
			t.Errorf("%q %q", s, got)
		}
		if got, why := Unword(w); got != s || why != api.OK {
			t.Errorf("%q %q %d", w, got, why)
		}
	}
}

var (
	spelling = regexp.MustCompile(`^([A-Za-z0-9_.-]|%[0-9A-F]{2})+$`)
	escape   = regexp.MustCompile(`%..`)
	needless = regexp.MustCompile(`%(2D|2E|3[0-9]|4[1-9A-F]|5[0-9AF]|6[1-9A-F]|7[0-9A])`)
)

// unworded is what Unword has to return.
func unworded(w string) (string, api.Errno) {
	if w == "%" {
		return "", api.OK
	}
	if !spelling.MatchString(w) || needless.MatchString(w) {
		return "", api.ErrForm
	}
	return escape.ReplaceAllStringFunc(w, func(e string) string {
		c, _ := strconv.ParseUint(e[1:], 16, 8)
		return single(int(c))
	}), api.OK
}

func TestP5_1Unword(t *testing.T) {
	l := append(strung("%20Ff4", 5), strung("aZ9-._%2E \n\xff", 4)...)
	for a := range 256 {
		for b := range 256 {
			s := single(a) + single(b)
			l = append(l, s, "%"+s, "a%"+s, "%"+s+"a")
		}
	}
	for _, w := range l {
		s, wantWhy := unworded(w)
		if got, why := Unword(w); got != s || why != wantWhy {
			t.Errorf("%q %q %d", w, got, why)
		}
	}
}

func TestP5_1UnwordOfNoWord(t *testing.T) {
	for _, w := range []string{"", "%%", "%2", "%2g", "%g2", "%G2", "%2G", "%41", "%2D", "%2E", "%5F", "%30", "%7A", "%4a", "%0a", "%fF", "%Ff", "%ff",
		"a b", " ", "\n", "a%", "%a", "% 2", "%+2", "%-2", "%20%", "%20%2", "%%20", "%25%", "\x00", "\xff", "a\xff", "é", "/", "%20 "} {
		if got, why := Unword(w); got != "" || why != api.ErrForm {
			t.Errorf("%q %q %d", w, got, why)
		}
	}
}

// edges has numbers of each length, and those next to the powers of two.
func edges() []uint64 {
	l := []uint64{0, 7, 42, 300, math.MaxUint64 - 1, math.MaxUint64}
	ten := uint64(1)
	for range 20 {
		l = append(l, ten-1, ten, ten+1)
		ten *= 10
	}
	for bit := range 64 {
		l = append(l, 1<<bit-1, 1<<bit, 1<<bit+1)
	}
	return l
}

func TestP5_2DigitsAndSigned(t *testing.T) {
	for n, w := range map[uint64]string{0: "0", 7: "7", 10: "10", 300: "300", 1 << 63: "9223372036854775808", 1<<64 - 1: "18446744073709551615"} {
		if got := Digits(n); got != w {
			t.Error(n, got)
		}
		if got, why := Number(w); got != n || why != api.OK {
			t.Error(w, got, why)
		}
	}
	for n, w := range map[int64]string{0: "0", 7: "7", -7: "-7", 10: "10", -10: "-10", 1<<63 - 1: "9223372036854775807", -1 << 63: "-9223372036854775808", 1 - 1<<63: "-9223372036854775807"} {
		if got := Signed(n); got != w {
			t.Error(n, got)
		}
		if got, why := Whole(w); got != n || why != api.OK {
			t.Error(w, got, why)
		}
	}
}

// All short strings of what numbers are made of, or nearly.
func TestP5_2NumberAndWhole(t *testing.T) {
	numbers, wholes := map[string]int64{}, map[string]int64{}
	for n := int64(-999); n <= 9999; n++ {
		wholes[strconv.FormatInt(n, 10)] = n
		if n >= 0 {
			numbers[strconv.FormatInt(n, 10)] = n
		}
	}
	for _, w := range strung("0179-+_ .ax", 4) {
		got, why := Number(w)
		if n, valid := numbers[w]; got != uint64(n) || valid != (why == api.OK) || !valid && why != api.ErrForm {
			t.Errorf("Number %q %d %d", w, got, why)
		}
		whole, why := Whole(w)
		if n, valid := wholes[w]; whole != n || valid != (why == api.OK) || !valid && why != api.ErrForm {
			t.Errorf("Whole %q %d %d", w, whole, why)
		}
	}
}

func TestP5_2NoNumber(t *testing.T) {
	for _, w := range []string{"", "00", "01", "-1", "-0", "+1", "1a", "a", " 1", "1 ", "1\n", "0x1", "1e3", "1_000", "1.0", "--1", "-", "٣", "\x00", "1\x00",
		"18446744073709551616", "18446744073709551620", "28446744073709551615", "99999999999999999999", "118446744073709551615", "018446744073709551615", strings.Repeat("9", 1000), strings.Repeat("0", 1000)} {
		if n, why := Number(w); n != 0 || why != api.ErrForm {
			t.Errorf("%q %d %d", w, n, why)
		}
	}
}

func TestP5_2NoWhole(t *testing.T) {
	for _, w := range []string{"", "00", "01", "-", "-0", "-00", "-01", "+0", "+1", "--1", "- 1", "-a", "1a", " 1", "1 ", "1\n", "0x1", "1e3", "1_000", "1.0", "−1", "\x00",
		"9223372036854775808", "-9223372036854775809", "18446744073709551615", "-18446744073709551615", "18446744073709551616", "99999999999999999999", strings.Repeat("9", 1000), "-" + strings.Repeat("9", 1000)} {
		if n, why := Whole(w); n != 0 || why != api.ErrForm {
			t.Errorf("%q %d %d", w, n, why)
		}
	}
}

func TestP5_3Words(t *testing.T) {
	for _, x := range []struct {
		line string
		out  []string
	}{
		{"", []string{""}},
		{"a", []string{"a"}},
		{" ", []string{"", ""}},
		{"  ", []string{"", "", ""}},
		{"a b", []string{"a", "b"}},
		{"a  b", []string{"a", "", "b"}},
		{" a", []string{"", "a"}},
		{"a ", []string{"a", ""}},
		{"ab c\td\ne", []string{"ab", "c\td\ne"}},
		{"\xff\x00 \xa0", []string{"\xff\x00", "\xa0"}},
		{"a\u00a0b", []string{"a\u00a0b"}},
	} {
		if got := Words(x.line); !slices.Equal(got, x.out) {
			t.Errorf("%q %q", x.line, got)
		}
		if got := Line(x.out...); got != x.line {
			t.Errorf("%q %q", x.out, got)
		}
	}
	if got := Line(); got != "" {
		t.Errorf("%q", got)
	}
	if got := Line("a b", " ", "c"); got != "a b   c" {
		t.Errorf("%q", got)
	}
}

func TestP5_4RoundTripOfWords(t *testing.T) {
	var every []byte
	for c := range 256 {
		every = append(every, byte(c))
	}
	l := append(strung("a% \n2F\x00\xff", 4), string(every), strings.Repeat(string(every), 300))
	for _, s := range l {
		w := Word(s)
		if w == "" || strings.ContainsAny(w, " \n") {
			t.Errorf("%.20q %.20q", s, w)
		}
		if got, why := Unword(w); got != s || why != api.OK {
			t.Errorf("%.20q %.20q %d", s, got, why)
		}
	}
}

func TestP5_4RoundTripOfNumbers(t *testing.T) {
	for _, n := range edges() {
		if got, why := Number(Digits(n)); got != n || why != api.OK {
			t.Error(n, got, why)
		}
		if got, why := Whole(Signed(int64(n))); got != int64(n) || why != api.OK {
			t.Error(n, got, why)
		}
	}
}

func TestP5_4RoundTripOfLines(t *testing.T) {
	l := strung("a%\n", 2)
	for _, a := range l {
		if got := Words(Line(a)); !slices.Equal(got, []string{a}) {
			t.Errorf("%q %q", a, got)
		}
		for _, b := range l {
			for _, c := range l {
				if got := Words(Line(a, b, c)); !slices.Equal(got, []string{a, b, c}) {
					t.Errorf("%q %q %q %q", a, b, c, got)
				}
			}
		}
	}
}

// everything has the results of all functions for many arguments.
func everything() []any {
	var l []any
	add := func(x any, why api.Errno) { l = append(l, x, why) }
	for _, s := range append(strung("a-% \x00\xff9", 4), strings.Repeat("7", 1<<16)) {
		add(Bucket(s), Key(s))
		add(Word(s), Prefix(s))
		add(Unword(s))
		add(Number(s))
		add(Whole(s))
		add(Line(Words(s)...), api.Errno(len(Words(s))))
	}
	for _, n := range edges() {
		add(Digits(n)+Signed(int64(n)), 0)
	}
	return l
}

func TestP1_P2SameResultsForAllArguments(t *testing.T) {
	if !slices.Equal(everything(), everything()) {
		t.Error("different results for the same arguments")
	}
}

func TestRulesArgumentsAreKept(t *testing.T) {
	l := []string{"c", "a", "b"}
	Line(l...)
	if !slices.Equal(l, []string{"c", "a", "b"}) {
		t.Error(l)
	}
	first := Words("a b")
	first[0] = "x"
	if again := Words("a b"); !slices.Equal(again, []string{"a", "b"}) {
		t.Error(again)
	}
}
