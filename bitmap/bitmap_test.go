package bitmap

import (
	"math"
	"math/rand"
	"slices"
	"strings"
	"testing"

	"wharfage/api"
)

var (
	none = strings.Repeat("\x00", 480)
	full = strings.Repeat("\xff", 480)
)

// noBitmaps are strings that are not bitmaps.
var noBitmaps = []string{"", "x", full[:479], full + "\xff", full + full}

// noPages are numbers of pages that do not exist.
var noPages = []int{-1, -8, -3840, 3840, 3841, math.MinInt, math.MaxInt}

// noRanges are ranges that are not within 0 to 3840.
var noRanges = [][2]int{
	{-1, 5}, {5, 4}, {1, 0}, {0, 3841}, {3840, 3841}, {3841, 3841}, {3840, 3839},
	{math.MinInt, math.MaxInt}, {math.MinInt, 0}, {0, math.MinInt}, {0, math.MaxInt}, {math.MaxInt, math.MaxInt}, {-1, -1},
}

// of returns a bitmap in which exactly these pages are in use.
func of(used ...int) string {
	b := make([]byte, 480)
	for _, i := range used {
		b[i/8] |= 1 << (i % 8)
	}
	return string(b)
}

// usedIn is a model of a bitmap: one bool a page.
func usedIn(text string) []bool {
	l := make([]bool, 3840)
	for i := range l {
		l[i] = text[i/8]/byte(1<<(i%8))%2 == 1
	}
	return l
}

// random returns a bitmap of which about so many in 100 pages are in use.
func random(r *rand.Rand, percent int) string {
	var l []int
	for i := range 3840 {
		if r.Intn(100) < percent {
			l = append(l, i)
		}
	}
	return of(l...)
}

// someRanges returns ranges within 0 to 3840.
func someRanges(r *rand.Rand) [][2]int {
	l := [][2]int{{0, 0}, {0, 1}, {0, 3840}, {3839, 3840}, {3840, 3840}, {2, 8}, {7, 9}, {8, 16}}
	for range 20 {
		a, b := r.Intn(3841), r.Intn(3841)
		l = append(l, [2]int{min(a, b), max(a, b)}, [2]int{a, min(a+r.Intn(20), 3840)})
	}
	return l
}

// modelFree returns the free pages of a range, by the model.
func modelFree(text string, from, to int) []int {
	var l []int
	used := usedIn(text)
	for i := from; i < to; i++ {
		if !used[i] {
			l = append(l, i)
		}
	}
	return l
}

func TestP10_1UsedIsTheBitOfThePage(t *testing.T) {
	for i := range 3840 {
		b := make([]byte, 480)
		b[i/8] = 1 << (i % 8)
		text := string(b)
		for _, j := range []int{i - 8, i - 1, i, i + 1, i + 7, i + 8, 0, 3839} {
			if Used(text, j) != (j == i) {
				t.Fatal(i, j)
			}
		}
		if Used(none, i) || !Used(full, i) {
			t.Fatal(i)
		}
	}
	if !Used(of(9), 9) || of(9)[1] != 2 {
		t.Error("bit 1 of byte 1 is that of page 9")
	}
}

func TestP10_1UsedOfOthersIsFalse(t *testing.T) {
	for _, text := range noBitmaps {
		for _, i := range []int{0, 1, 7, 3831, 3839, 3840, -1} {
			if Used(text, i) {
				t.Error(len(text), i)
			}
		}
	}
	for _, i := range noPages {
		if Used(full, i) {
			t.Error(i)
		}
	}
}

func TestP10_1SetChangesOnePage(t *testing.T) {
	r := rand.New(rand.NewSource(1))
	for _, text := range []string{none, full, random(r, 50)} {
		for i := range 3840 {
			for _, on := range []bool{false, true} {
				want := []byte(text)
				if want[i/8] &^= 1 << (i % 8); on {
					want[i/8] |= 1 << (i % 8)
				}
				if got, why := Set(text, i, on); why != api.OK || got != string(want) {
					t.Fatal(i, on, why)
				}
			}
		}
	}
}

func TestP10_1SetOfOthersIsAnError(t *testing.T) {
	for _, on := range []bool{false, true} {
		for _, text := range noBitmaps {
			for _, i := range []int{0, 7, 3839, -1, 3840} {
				if got, why := Set(text, i, on); got != "" || why != api.ErrArg {
					t.Error(len(text), i, on, why)
				}
			}
		}
		for _, i := range noPages {
			if got, why := Set(full, i, on); got != "" || why != api.ErrArg {
				t.Error(i, on, why)
			}
		}
	}
}

func TestP10_1ManyCountsPagesInUse(t *testing.T) {
	r := rand.New(rand.NewSource(2))
	for _, percent := range []int{0, 1, 50, 99, 100} {
		text := random(r, percent)
		for _, x := range someRanges(r) {
			want := x[1] - x[0] - len(modelFree(text, x[0], x[1]))
			if got := Many(text, x[0], x[1]); got != want {
				t.Error(percent, x, got, want)
			}
		}
	}
}

func TestP10_1ManyIgnoresWhatIsOutside(t *testing.T) {
	for _, x := range []struct{ from, to, want int }{
		{-5, 3, 3}, {-5, -1, 0}, {-5, 0, 0}, {3835, 4000, 5}, {3839, 3841, 1}, {3840, 4000, 0}, {5000, 6000, 0},
		{math.MinInt, math.MaxInt, 3840}, {math.MinInt, 1, 1}, {3839, math.MaxInt, 1},
		{5, 5, 0}, {5, 4, 0}, {math.MaxInt, math.MinInt, 0}, {3840, 0, 0}, {4000, -4000, 0},
	} {
		if got := Many(full, x.from, x.to); got != x.want {
			t.Error(x, got)
		}
	}
	for _, text := range noBitmaps {
		if got := Many(text, 0, 3840); got != 0 {
			t.Error(len(text), got)
		}
	}
}

func TestP10_2LowestAreTheLowestFreePages(t *testing.T) {
	r := rand.New(rand.NewSource(3))
	for _, percent := range []int{0, 1, 50, 99, 100} {
		text := random(r, percent)
		for _, x := range someRanges(r) {
			free := modelFree(text, x[0], x[1])
			n := len(free)
			for _, k := range []int{0, 1, 2, n / 2, n - 1, n} {
				if k < 0 || k > n {
					continue
				}
				if got, why := Lowest(text, x[0], x[1], k); why != api.OK || !slices.Equal(got, free[:k]) {
					t.Error(percent, x, k, why)
				}
			}
			for _, k := range []int{n + 1, n + 2, 3841, math.MaxInt} {
				if got, why := Lowest(text, x[0], x[1], k); why != api.ErrDisk || len(got) != 0 {
					t.Error(percent, x, k, n, why)
				}
			}
		}
	}
}

func TestP10_2TakeUsesTheLowestFreePages(t *testing.T) {
	r := rand.New(rand.NewSource(4))
	for _, percent := range []int{0, 1, 50, 99, 100} {
		text := random(r, percent)
		for _, x := range someRanges(r) {
			n := len(modelFree(text, x[0], x[1]))
			for _, k := range []int{0, 1, n / 2, n, n + 1, math.MaxInt, -1} {
				want, no := Lowest(text, x[0], x[1], k)
				got, after, why := Take(text, x[0], x[1], k)
				if why != no || !slices.Equal(got, want) {
					t.Error(percent, x, k, why, no)
				}
				if why != api.OK {
					if after != "" {
						t.Error(percent, x, k, "a bitmap beside an error")
					}
					continue
				}
				used := usedIn(text)
				for _, i := range want {
					used[i] = true
				}
				if !slices.Equal(usedIn(after), used) {
					t.Error(percent, x, k)
				}
			}
		}
	}
}

func TestP10_2LowestAndTakeOfOthersAreErrors(t *testing.T) {
	try := func(text string, from, to, k int) {
		t.Helper()
		if got, why := Lowest(text, from, to, k); why != api.ErrArg || len(got) != 0 {
			t.Error(len(text), from, to, k, why)
		}
		if got, after, why := Take(text, from, to, k); why != api.ErrArg || len(got) != 0 || after != "" {
			t.Error(len(text), from, to, k, why)
		}
	}
	for _, text := range noBitmaps {
		try(text, 0, 3, 1)
		try(text, 0, 0, 0)
		try(text, 0, 0, 1) // not ErrDisk
	}
	for _, k := range []int{-1, -3840, math.MinInt} {
		try(none, 0, 3840, k)
		try(full, 0, 0, k)
	}
	for _, x := range noRanges {
		for _, k := range []int{0, 1, 4000} {
			try(none, x[0], x[1], k)
			try(full, x[0], x[1], k)
		}
	}
}

func TestP10_2GiveFreesPages(t *testing.T) {
	r := rand.New(rand.NewSource(5))
	for _, percent := range []int{1, 50, 100} {
		text := random(r, percent)
		var inUse []int
		for i, on := range usedIn(text) {
			if on {
				inUse = append(inUse, i)
			}
		}
		for _, k := range []int{0, 1, 2, len(inUse) / 2, len(inUse)} {
			r.Shuffle(len(inUse), func(i, j int) { inUse[i], inUse[j] = inUse[j], inUse[i] })
			l := inUse[:k]
			before := slices.Clone(l)
			want := usedIn(text)
			for _, i := range l {
				want[i] = false
			}
			got, why := Give(text, l...)
			if why != api.OK || !slices.Equal(usedIn(got), want) {
				t.Error(percent, k, why)
			}
			if !slices.Equal(l, before) {
				t.Error("the list was changed")
			}
		}
	}
	if got, why := Give(of(5)); why != api.OK || got != of(5) {
		t.Error("no pages", why)
	}
}

func TestP10_2GiveOfOthersIsAnError(t *testing.T) {
	try := func(text string, l ...int) {
		t.Helper()
		if got, why := Give(text, l...); why != api.ErrArg || got != "" {
			t.Error(len(text), l, why)
		}
	}
	for _, text := range noBitmaps {
		try(text)
		try(text, 0)
	}
	for _, i := range noPages {
		try(full, i)
		try(full, 1, i)
		try(full, i, 1)
	}
	try(none, 0)
	try(of(9), 8)
	try(of(9), 9, 8)
	try(of(9), 9, 9)
	try(of(3, 4, 5), 3, 4, 5, 3)
	try(full, slices.Repeat([]int{3839}, 5000)...)
}

func TestP10_3SpansAreMaximalRangesOfFreePages(t *testing.T) {
	r := rand.New(rand.NewSource(6))
	for _, percent := range []int{0, 1, 50, 99, 100} {
		text := random(r, percent)
		for _, x := range someRanges(r) {
			var free []int
			end := -1 // of the span before: two of them do not touch
			for _, s := range Spans(text, x[0], x[1]) {
				if s[0] >= s[1] || s[0] <= end {
					t.Error(percent, x, s)
				}
				end = s[1]
				for i := s[0]; i < s[1]; i++ {
					free = append(free, i)
				}
			}
			if !slices.Equal(free, modelFree(text, x[0], x[1])) {
				t.Error(percent, x)
			}
		}
	}
}

func TestP10_3SpansExamples(t *testing.T) {
	for _, x := range []struct {
		text     string
		from, to int
		want     [][2]int
	}{
		{none, 0, 3840, [][2]int{{0, 3840}}},
		{none, 5, 6, [][2]int{{5, 6}}},
		{none, 5, 5, nil},
		{none, 3840, 3840, nil},
		{full, 0, 3840, nil},
		{of(9), 8, 12, [][2]int{{8, 9}, {10, 12}}},
		{of(8, 11), 8, 12, [][2]int{{9, 11}}},
		{of(0, 3839), 0, 3840, [][2]int{{1, 3839}}},
		{of(1, 3), 0, 5, [][2]int{{0, 1}, {2, 3}, {4, 5}}},
		{of(1, 2, 3), 0, 5, [][2]int{{0, 1}, {4, 5}}},
	} {
		if got := Spans(x.text, x.from, x.to); !slices.Equal(got, x.want) {
			t.Error(x.from, x.to, got, x.want)
		}
	}
}

func TestP10_3SpansOfOthersAreNone(t *testing.T) {
	for _, text := range append(noBitmaps, none[:479], none+"\x00") {
		if got := Spans(text, 0, 10); len(got) != 0 {
			t.Error(len(text), got)
		}
	}
	for _, x := range noRanges {
		if got := Spans(none, x[0], x[1]); len(got) != 0 {
			t.Error(x, got)
		}
	}
}

func TestP10_4GiveIsTheInverseOfTake(t *testing.T) {
	r := rand.New(rand.NewSource(7))
	for range 300 {
		text := random(r, r.Intn(101))
		a, b := r.Intn(3841), r.Intn(3841)
		from, to := min(a, b), max(a, b)
		k := r.Intn(len(modelFree(text, from, to)) + 1)
		l, after, why := Take(text, from, to, k)
		if why != api.OK || len(l) != k {
			t.Fatal(from, to, k, why)
		}
		if Many(after, 0, 3840) != Many(text, 0, 3840)+k || Many(after, from, to) != Many(text, from, to)+k {
			t.Error(from, to, k, "pages in use")
		}
		for _, i := range l {
			if Used(text, i) || !Used(after, i) {
				t.Error(i, "was in use")
			}
		}
		if back, why := Give(after, l...); why != api.OK || back != text {
			t.Error(from, to, k, why)
		}
	}
}

func TestP2ResultsAreNewMemory(t *testing.T) {
	a, _ := Lowest(of(3), 0, 9, 4)
	b, _ := Lowest(of(3), 0, 9, 4)
	a[0] = 77
	if !slices.Equal(b, []int{0, 1, 2, 4}) {
		t.Error(b)
	}
	l, text, _ := Take(of(3), 0, 9, 2)
	l[0] = 77
	if text != of(0, 1, 3) {
		t.Error("the bitmap changed")
	}
}
