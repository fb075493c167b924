package gauge

import (
	"math"
	"math/big"
	"slices"
	"testing"
)

var (
	inf   = math.Inf(1)
	nan   = math.NaN()
	minus = math.Copysign(0, -1)
)

// ladder has numbers in ascending order, no two of them equal.
var ladder = []float64{
	-inf,
	-math.MaxFloat64, -1000, -1, -0.5, -math.SmallestNonzeroFloat64,
	minus, 0,
	math.SmallestNonzeroFloat64, 0.001, 0.009, 0.5, 1, 1.001, math.Nextafter(1000, 0), 1000, math.MaxFloat64,
	inf,
	nan,
}

// nans differ in their bits only.
var nans = []float64{nan, -nan, math.Float64frombits(0x7ff0000000000001), math.Float64frombits(0xfff8000000000123)}

// same compares numbers by their bits, NaNs as one.
func same(a, b float64) bool {
	return math.Float64bits(a) == math.Float64bits(b) || a != a && b != b
}

func kind(x float64) int {
	bits := math.Float64bits(x)
	negative, rest, infinite := bits>>63 == 1, bits<<1>>1, uint64(0x7ff0000000000000)
	switch {
	case rest > infinite:
		return 6
	case rest == infinite && negative:
		return 0
	case rest == infinite:
		return 5
	case rest == 0 && negative:
		return 2
	case rest == 0:
		return 3
	case negative:
		return 1
	}
	return 4
}

func TestP2_1Of(t *testing.T) {
	for _, x := range []struct {
		used, limit int64
		out         float64
	}{
		{1, 4, 0.25},
		{3, 3, 1},
		{5, 2, 2.5},
		{1, 3, 1.0 / 3},
		{0, 7, 0},
		{-5, 2, -2.5},
		{0, 0, nan},
		{5, 0, inf},
		{-5, 0, -inf},
		{math.MaxInt64, 0, inf},
		{math.MinInt64, 0, -inf},
		{5, -1, minus},
		{0, -1, minus},
		{-5, -1, minus},
		{5, -2, minus},
		{math.MaxInt64, math.MinInt64, minus},
		{1 << 50, 1 << 50, 1},
		{1 << 50, 1, 1 << 50},
		{1, 1 << 50, 1.0 / (1 << 50)},
		{1<<53 + 1, 1, 1 << 53},
		{1<<53 + 3, 1 << 53, 1 + 1.0/(1<<51)},
		{math.MaxInt64, math.MaxInt64, 1},
		{math.MinInt64, math.MaxInt64, -1},
	} {
		if got := Of(x.used, x.limit); !same(got, x.out) {
			t.Error(x, got)
		}
	}
}

func TestP2_1Kind(t *testing.T) {
	want := []int{0, 1, 1, 1, 1, 1, 2, 3, 4, 4, 4, 4, 4, 4, 4, 4, 4, 5, 6}
	for i, x := range ladder {
		if got := Kind(x); got != want[i] || got != kind(x) {
			t.Error(x, got)
		}
	}
	for _, x := range nans {
		if got := Kind(x); got != 6 {
			t.Error(x, got)
		}
	}
}

func TestP2_1Order(t *testing.T) {
	for i, a := range ladder {
		for j, b := range ladder {
			want := 0
			if i < j {
				want = -1
			} else if i > j {
				want = 1
			}
			if got := Order(a, b); got != want {
				t.Error(a, b, got)
			}
		}
	}
	for _, a := range nans {
		for _, b := range nans {
			if got := Order(a, b); got != 0 {
				t.Error(got)
			}
		}
		if Order(a, inf) != 1 || Order(inf, a) != -1 || Order(-inf, a) != -1 {
			t.Error("NaN is not the greatest")
		}
	}
}

// shuffled has the numbers of the ladder in another order, by steps of n.
func shuffled(n int) []float64 {
	var l []float64
	for i := range ladder {
		l = append(l, ladder[i*n%len(ladder)])
	}
	return l
}

func TestP2_2Sort(t *testing.T) {
	for n := 1; n < len(ladder); n++ { // the length is a prime number
		l := shuffled(n)
		before := slices.Clone(l)
		if got := Sort(l...); !slices.EqualFunc(got, ladder, same) {
			t.Error(n, got)
		}
		if !slices.EqualFunc(l, before, same) {
			t.Error("an argument was changed", n)
		}
	}
	if got := Sort(); len(got) != 0 {
		t.Error(got)
	}
	if got := Sort(nan); len(got) != 1 || !same(got[0], nan) {
		t.Error(got)
	}
	got := Sort(2, nan, minus, 0, minus, 2, -inf, nan, 0)
	if !slices.EqualFunc(got, []float64{-inf, minus, minus, 0, 0, 2, 2, nan, nan}, same) {
		t.Error(got)
	}
}

func TestP2_2SortOfMany(t *testing.T) {
	var l []float64
	for i := range 2000 {
		l = append(l, ladder[i*i%len(ladder)], float64(i*7919%2003-1000))
	}
	got := Sort(l...)
	if len(got) != len(l) {
		t.Fatal(len(got))
	}
	for i := range got[1:] {
		if Order(got[i], got[i+1]) > 0 {
			t.Error(i, got[i], got[i+1])
		}
	}
	times := map[uint64]int{}
	for i := range l {
		times[math.Float64bits(l[i])]++
		times[math.Float64bits(got[i])]--
	}
	for bits, n := range times {
		if n != 0 {
			t.Error(math.Float64frombits(bits), n)
		}
	}
}

func TestP2_2SortReturnsNewMemory(t *testing.T) {
	for _, l := range [][]float64{{1}, {1, 2, 3}, {3, 2, 1}} {
		before := slices.Clone(l)
		got := Sort(l...)
		for i := range got {
			got[i] = 9
		}
		got = append(got[:0], 8)
		if !slices.Equal(l, before) {
			t.Error(l, got)
		}
	}
	l := make([]float64, 2, 8)
	got := append(Sort(l...), 9)
	if l[:3][2] != 0 {
		t.Error(l[:3], got)
	}
}

func TestP2_2LeastAndGreatest(t *testing.T) {
	if !same(Least(), nan) || !same(Greatest(), nan) {
		t.Error("without arguments", Least(), Greatest())
	}
	for _, x := range []struct {
		l               []float64
		least, greatest float64
	}{
		{[]float64{0.5}, 0.5, 0.5},
		{[]float64{nan}, nan, nan},
		{[]float64{nan, nan}, nan, nan},
		{[]float64{nan, inf}, inf, nan},
		{[]float64{inf, nan}, inf, nan},
		{[]float64{0, minus}, minus, 0},
		{[]float64{minus, 0}, minus, 0},
		{[]float64{2, 1, 3}, 1, 3},
		{[]float64{1, -inf, inf}, -inf, inf},
		{[]float64{-1, minus}, -1, minus},
	} {
		if got := Least(x.l...); !same(got, x.least) {
			t.Error("Least", x.l, got)
		}
		if got := Greatest(x.l...); !same(got, x.greatest) {
			t.Error("Greatest", x.l, got)
		}
	}
	for _, a := range ladder {
		for _, b := range ladder {
			for _, c := range ladder {
				s := Sort(a, b, c)
				if !same(Least(a, b, c), s[0]) || !same(Greatest(a, b, c), s[2]) {
					t.Error(a, b, c)
				}
			}
		}
	}
}

// NaNs are equal, but their bits tell which of them was returned.
func TestP2_2EndsAreThoseOfTheSortedList(t *testing.T) {
	bits := math.Float64bits
	s := Sort(nans...)
	if bits(Least(nans...)) != bits(s[0]) || bits(Greatest(nans...)) != bits(s[len(s)-1]) {
		t.Error("another NaN")
	}
}

func TestP2_2Kinds(t *testing.T) {
	for _, x := range []struct {
		l   []float64
		out [7]int
	}{
		{nil, [7]int{}},
		{ladder, [7]int{1, 5, 1, 1, 9, 1, 1}},
		{nans, [7]int{6: 4}},
		{[]float64{minus, 0, minus}, [7]int{2: 2, 3: 1}},
		{[]float64{-inf, inf, inf, -3, 7, 8}, [7]int{1, 1, 0, 0, 2, 2, 0}},
	} {
		if got := Kinds(x.l...); got != x.out {
			t.Error(x.l, got)
		}
	}
}

func TestP2_3Mean(t *testing.T) {
	for _, x := range []struct {
		l   []float64
		out float64
		n   int
	}{
		{nil, nan, 0},
		{[]float64{nan}, nan, 0},
		{nans, nan, 0},
		{[]float64{5}, 5, 1},
		{[]float64{1, 2, 4}, 7.0 / 3, 3},
		{[]float64{nan, 1, nan, 2, nan}, 1.5, 2},
		{[]float64{-1, 1}, 0, 2},
		{[]float64{minus}, 0, 1},
		{[]float64{minus, minus}, 0, 2},
		{[]float64{0}, 0, 1},
		{[]float64{inf, 1}, inf, 2},
		{[]float64{-inf, 1, nan}, -inf, 2},
		{[]float64{inf, -inf}, nan, 2},
		{[]float64{inf, nan, -inf, 5}, nan, 3},
		{[]float64{math.MaxFloat64, math.MaxFloat64}, inf, 2},
		{[]float64{1e16, 1, -1e16}, 0, 3},
		{[]float64{1e16, -1e16, 1}, 1.0 / 3, 3},
		{[]float64{-math.SmallestNonzeroFloat64, minus, minus}, minus, 3},
	} {
		if got, n := Mean(x.l...); !same(got, x.out) || n != x.n {
			t.Error(x.l, got, n)
		}
	}
}

func TestP2_3Blend(t *testing.T) {
	for _, x := range []struct {
		old, now float64
		k        int
		out      float64
	}{
		{1, 3, 1, 3},
		{1, 3, 2, 2},
		{1, 3, 4, 1.5},
		{3, 1, 4, 2.5},
		{1, 3, 0, 3},
		{1, 3, -4, 3},
		{1, 3, math.MinInt, 3},
		{1, 3, math.MaxInt, 1},
		{0, 1, math.MaxInt, 1.0 / (1 << 63)},
		{0.1, 0.2, 10, 0.11},
		{nan, 3, 2, 3},
		{3, nan, 2, 3},
		{nan, nan, 2, nan},
		{nan, inf, 2, inf},
		{-inf, nan, 2, -inf},
		{nan, minus, 2, minus},
		{minus, nan, 2, minus},
		{inf, inf, 2, inf},
		{-inf, -inf, 2, -inf},
		{inf, -inf, 2, -inf},
		{-inf, inf, 2, inf},
		{inf, 5, 2, 5},
		{-inf, minus, 2, minus},
		{5, inf, 2, inf},
		{5, -inf, 2, -inf},
		{math.MaxFloat64, -math.MaxFloat64, 2, -inf},
		{0, 0, 3, 0},
		{minus, minus, 3, 0},
		{minus, 0, 3, 0},
		{0, minus, 3, 0},
		{minus, -math.SmallestNonzeroFloat64, 4, minus},
		{1e16, 1, 1, 0},
	} {
		if got := Blend(x.old, x.now, x.k); !same(got, x.out) {
			t.Error(x, got)
		}
	}
}

// One operation at a time is computed exactly and rounded.
func TestP2_3BlendRoundsEachOperation(t *testing.T) {
	near := func(x *big.Float) float64 {
		y, _ := x.Float64()
		return y
	}
	at := func(x float64) *big.Float { return new(big.Float).SetPrec(3000).SetFloat64(x) }
	l := []float64{-1000, -1, -0.5, 0.001, 0.009, 0.5, 1, 1.001, 1000, 1e16, 1e300}
	for _, old := range l {
		for _, now := range l {
			for _, k := range []int{1, 2, 3, 7, 10, 1000, 1<<53 + 1} {
				gap := near(at(now).Sub(at(now), at(old)))
				part := near(new(big.Float).SetPrec(3000).Quo(at(gap), at(float64(k))))
				want := near(at(old).Add(at(old), at(part)))
				if got := Blend(old, now, k); got != want {
					t.Error(old, now, k, got, want)
				}
			}
		}
	}
}

func TestP2_4Permille(t *testing.T) {
	for _, x := range []struct {
		x   float64
		out int
	}{
		{nan, -1},
		{-nan, -1},
		{nans[2], -1},
		{-inf, 0},
		{-3, 0},
		{-math.SmallestNonzeroFloat64, 0},
		{minus, 0},
		{0, 0},
		{math.SmallestNonzeroFloat64, 0},
		{0.0009999, 0},
		{0.001, 1},
		{0.009, 9},    // exactly it is below 9, and x * 1000 is rounded up to 9
		{1.001, 1000}, // x * 1000 is rounded to a number below 1001
		{0.25, 250},
		{0.5, 500},
		{0.9999, 999},
		{1, 1000},
		{2.5, 2500},
		{999, 999000},
		{math.Nextafter(1000, 0), 999999},
		{1000, 1000000},
		{1000.5, 1000000},
		{math.Nextafter(1000, inf), 1000000},
		{1e300, 1000000},
		{math.MaxFloat64, 1000000},
		{inf, 1000000},
	} {
		if got := Permille(x.x); got != x.out {
			t.Error(x, got)
		}
	}
}

func TestP2_5TotalOrder(t *testing.T) {
	l := append(slices.Clone(ladder), nans...)
	for _, a := range l {
		if Order(a, a) != 0 {
			t.Error(a)
		}
		for _, b := range l {
			if Order(a, b) != -Order(b, a) {
				t.Error(a, b)
			}
			if !same(a, b) && Order(a, b) == 0 {
				t.Error("equal", a, b)
			}
			for _, c := range l {
				if Order(a, b) <= 0 && Order(b, c) <= 0 && Order(a, c) > 0 {
					t.Error(a, b, c)
				}
				if Order(a, b) < 0 && Order(b, c) <= 0 && Order(a, c) >= 0 {
					t.Error(a, b, c)
				}
			}
		}
	}
}

func TestP2_6Monotonicity(t *testing.T) {
	l := []int64{0, 1, 2, 3, 7, 999, 1000, 1001, 1<<50 - 1, 1 << 50, 1 << 53, 1<<53 + 1, math.MaxInt64 - 1, math.MaxInt64}
	notAbove := func(used, limit, more, lower int64) {
		a, b := Of(used, limit), Of(more, lower)
		if Order(a, b) > 0 || Permille(a) > Permille(b) {
			t.Error(used, limit, more, lower, a, b)
		}
	}
	for i, used := range l {
		for j, limit := range l[1:] {
			for _, more := range l[i:] {
				notAbove(used, limit, more, limit)
			}
			for _, higher := range l[1+j:] {
				notAbove(used, higher, used, limit)
			}
		}
	}
	for used := range int64(60) {
		for limit := int64(1); limit < 60; limit++ {
			notAbove(used, limit, used+1, limit)
			notAbove(used, limit+1, used, limit)
		}
	}
}

func TestP2_6NoLimit(t *testing.T) {
	for _, used := range []int64{math.MinInt64, -1, 0, 1, 1 << 50, math.MaxInt64} {
		for _, limit := range []int64{-1, -2, math.MinInt64} {
			if got := Of(used, limit); Kind(got) != 2 || Permille(got) != 0 {
				t.Error(used, limit, got)
			}
		}
	}
}

// everything has the results of all functions for all of the numbers.
func everything() []uint64 {
	var out []uint64
	add := func(l ...float64) {
		for _, x := range l {
			out = append(out, math.Float64bits(x))
		}
	}
	ints := []int64{math.MinInt64, -1, 0, 1, 1 << 50, math.MaxInt64}
	for _, used := range ints {
		for _, limit := range ints {
			add(Of(used, limit))
		}
	}
	l := append(slices.Clone(ladder), nans...)
	for _, a := range l {
		add(float64(Kind(a)), float64(Permille(a)))
		for _, b := range l {
			mean, n := Mean(a, b)
			add(float64(Order(a, b)), Least(a, b), Greatest(a, b), mean, float64(n))
			add(Sort(a, b, a)...)
			for _, n := range Kinds(a, b) {
				add(float64(n))
			}
			for _, k := range ints {
				add(Blend(a, b, int(k)))
			}
		}
	}
	return out
}

func TestP1_P2SameResultsForAllArguments(t *testing.T) {
	if !slices.Equal(everything(), everything()) {
		t.Error("different results for the same arguments")
	}
}

func TestRulesArgumentsAreKept(t *testing.T) {
	l := shuffled(5)
	before := slices.Clone(l)
	Sort(l...)
	Least(l...)
	Greatest(l...)
	Kinds(l...)
	Mean(l...)
	if !slices.EqualFunc(l, before, same) {
		t.Error(l)
	}
}
