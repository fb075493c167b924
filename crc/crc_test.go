package crc

import (
	"hash/crc32"
	"math"
	"slices"
	"strings"
	"testing"
)

// slow is the checksum bit by bit, as the document words it.
func slow(register uint32, s string) uint32 {
	for i := 0; i < len(s); i++ {
		register ^= uint32(s[i])
		for j := 0; j < 8; j++ {
			out := register % 2
			register /= 2
			if out == 1 {
				register ^= 0xeb31d82e
			}
		}
	}
	return register
}

func checksum(s string) uint32 { return slow(0xffffffff, s) ^ 0xffffffff }

// mixed is a string of n bytes without a short period.
func mixed(n int) string {
	b := make([]byte, n)
	for i := range b {
		b[i] = byte(i*i + i/7 + i>>5)
	}
	return string(b)
}

func texts() []string {
	l := []string{"", "a", "ab", "abc", "123456789", "\x00", "\x00\x00\x00\x00", "\xff", "\xff\xff\xff\xff", "\xff\xff\xff\xff\xff", "\n %\xe4\xb8"}
	for _, n := range []int{3, 4, 5, 255, 256, 257, 480, 508, 512, 4096} {
		l = append(l, mixed(n), strings.Repeat("\x00", n))
	}
	for c := range 256 {
		l = append(l, string([]byte{byte(c)}))
	}
	return l
}

// sums has registers and checksums of all kinds, also such of no short string.
func sums() []uint32 {
	l := []uint32{0, 1, 2, 0xff, 0x100, 0x12345678, 0x7fffffff, 0x80000000, 0xeb31d82e, 0xfffffffe, 0xffffffff}
	for bit := range 32 {
		l = append(l, 1<<bit, ^uint32(1<<bit))
	}
	return l
}

func TestP4_1Sum(t *testing.T) {
	koopman := crc32.MakeTable(crc32.Koopman)
	for _, s := range texts() {
		if got := Sum(s); got != checksum(s) || got != crc32.Checksum([]byte(s), koopman) {
			t.Errorf("%.20q %x", s, got)
		}
	}
}

func TestP4_1SumExamples(t *testing.T) {
	for _, x := range []struct {
		s   string
		out uint32
	}{
		{"", 0},
		{"123456789", 0x2d3dd0ae},
		{"\xff\xff\xff\xff", 0xffffffff},
	} {
		if got := Sum(x.s); got != x.out {
			t.Errorf("%q %x", x.s, got)
		}
	}
}

func TestP4_1More(t *testing.T) {
	for _, sum := range sums() {
		for _, s := range texts() {
			if got := More(sum, s); got != slow(sum^0xffffffff, s)^0xffffffff {
				t.Errorf("%x %.20q %x", sum, s, got)
			}
		}
		if got := More(sum, ""); got != sum {
			t.Errorf("%x %x", sum, got)
		}
	}
}

func TestP4_1Halves(t *testing.T) {
	h := Halves()
	for i := range h {
		// With the register i, the byte 0 leaves only the eight steps.
		if want := slow(uint32(i), "\x00"); h[i] != want {
			t.Errorf("%d %x %x", i, h[i], want)
		}
	}
	if h[0] != 0 || h[128] != 0xeb31d82e || h[64] != 0xeb31d82e>>1 {
		t.Errorf("%x %x %x", h[0], h[128], h[64])
	}
}

func TestP4_1HalvesAreNew(t *testing.T) {
	h := Halves()
	h[1]++
	if Halves() == h || Sum("123456789") != 0x2d3dd0ae {
		t.Error("a table that was changed is used")
	}
}

func TestP4_2Join(t *testing.T) {
	for _, a := range texts() {
		for _, b := range texts() {
			if got := Join(checksum(a), checksum(b), len(b)); got != checksum(a+b) {
				t.Errorf("%.20q %.20q %x", a, b, got)
			}
		}
	}
}

// zeros moves a register through the steps of n zero bytes by squaring the
// matrix of the steps, whose columns are the registers of the single bits.
func zeros(register uint32, n int) uint32 {
	var columns [32]uint32
	for i := range columns {
		columns[i] = slow(1<<i, "\x00")
	}
	times := func(x uint32) uint32 {
		sum := uint32(0)
		for i := range columns {
			sum ^= columns[i] * (x >> i & 1)
		}
		return sum
	}
	for ; n > 0; n /= 2 {
		if n%2 == 1 {
			register = times(register)
		}
		var squared [32]uint32
		for i := range squared {
			squared[i] = times(columns[i])
		}
		columns = squared
	}
	return register
}

func TestP4_2JoinLong(t *testing.T) {
	lengths := []int{1<<16 - 1, 1 << 16, 1<<16 + 1, 1 << 20, 123456789, 1<<29 - 1, 1 << 29, 1<<29 + 1, 1<<30 - 1, 1 << 30}
	for bit := range 31 {
		lengths = append(lengths, 1<<bit)
	}
	for _, n := range lengths {
		second := zeros(0xffffffff, n) ^ 0xffffffff
		for _, a := range sums() {
			whole := zeros(a^0xffffffff, n) ^ 0xffffffff
			if got := Join(a, second, n); got != whole {
				t.Errorf("%x %d %x", a, n, got)
			}
		}
	}
	long := strings.Repeat("\x00", 1<<20)
	if second := Sum(long); second != zeros(0xffffffff, len(long))^0xffffffff || Join(Sum("ab"), second, len(long)) != Sum("ab"+long) {
		t.Error("a million zeros")
	}
}

func TestP4_2JoinLengthsThatMayNotBe(t *testing.T) {
	for _, n := range []int{-1, -2, -1 << 30, math.MinInt, 1<<30 + 1, 1 << 31, 1<<32 + 1, 1 << 40, math.MaxInt} {
		for _, a := range sums() {
			for _, b := range []uint32{0, 1, a, 0xffffffff} {
				if got := Join(a, b, n); got != 0 {
					t.Errorf("%x %x %d %x", a, b, n, got)
				}
			}
		}
	}
}

func TestP4_3AllSplits(t *testing.T) {
	for _, s := range []string{"", "a", "123456789", mixed(300), strings.Repeat("\x00", 40), strings.Repeat("\xff", 40)} {
		whole := Sum(s)
		for i := range len(s) + 1 {
			if got := More(Sum(s[:i]), s[i:]); got != whole {
				t.Errorf("More %.20q %d %x", s, i, got)
			}
			if got := Join(Sum(s[:i]), Sum(s[i:]), len(s)-i); got != whole {
				t.Errorf("Join %.20q %d %x", s, i, got)
			}
		}
	}
}

func TestP4_3ThreeParts(t *testing.T) {
	s := mixed(40)
	for i := range len(s) + 1 {
		for j := i; j <= len(s); j++ {
			a, b, c := Sum(s[:i]), Sum(s[i:j]), Sum(s[j:])
			left := Join(Join(a, b, j-i), c, len(s)-j)
			right := Join(a, Join(b, c, len(s)-j), len(s)-i)
			more := More(More(a, s[i:j]), s[j:])
			if left != Sum(s) || right != Sum(s) || more != Sum(s) {
				t.Errorf("%d %d %x %x %x", i, j, left, right, more)
			}
		}
	}
}

func changed(s string, at int, by ...byte) string {
	b := []byte(s)
	for i, c := range by {
		b[at+i] ^= c
	}
	return string(b)
}

func TestP4_4ChangesWithinFourBytes(t *testing.T) {
	some := []byte{0, 1, 0x80, 0xff}
	for _, s := range []string{mixed(4), mixed(5), mixed(12), strings.Repeat("\x00", 12), strings.Repeat("\xff", 12)} {
		sum := Sum(s)
		for at := range len(s) {
			for c := 1; c < 256; c++ {
				if Sum(changed(s, at, byte(c))) == sum {
					t.Errorf("%q %d %x", s, at, c)
				}
			}
		}
		for at := range len(s) - 3 {
			for i := 1; i < 256; i++ {
				by := []byte{some[i&3], some[i>>2&3], some[i>>4&3], some[i>>6]}
				if Sum(changed(s, at, by...)) == sum {
					t.Errorf("%q %d %x", s, at, by)
				}
			}
		}
	}
}

// A change of several bits changes the checksum by the XOR of what each of
// them changes. No selection of the 32 bits yields 0 if, and only if, they are
// independent: so none of the 2^32 - 1 changes of four bytes is missed.
func TestP4_4AllChangesOfFourBytes(t *testing.T) {
	for _, s := range []string{mixed(4), mixed(30)} {
		for at := range len(s) - 3 {
			var l []uint32
			for bit := range 32 {
				var by [4]byte
				by[bit/8] = 1 << (bit % 8)
				l = append(l, Sum(s)^Sum(changed(s, at, by[:]...)))
			}
			if n := rank(l); n != 32 {
				t.Error(len(s), at, n)
			}
		}
	}
}

// rank is the number of independent ones among bit vectors.
func rank(l []uint32) int {
	var reduced []uint32
	for _, x := range l {
		for _, y := range reduced {
			x = min(x, x^y)
		}
		if x != 0 {
			reduced = append(reduced, x)
		}
	}
	return len(reduced)
}

// everything has the results of all functions for edges of their arguments.
func everything() []uint32 {
	h := Halves()
	l := h[:]
	for _, a := range sums() {
		for _, n := range []int{math.MinInt, -1, 0, 1, 1 << 29, 1 << 30, 1<<30 + 1, math.MaxInt} {
			l = append(l, Join(a, ^a, n))
		}
		for _, s := range texts() {
			l = append(l, Sum(s), More(a, s))
		}
	}
	return l
}

func TestP1_P2SameResultsForAllArguments(t *testing.T) {
	if !slices.Equal(everything(), everything()) {
		t.Error("different results for the same arguments")
	}
}
