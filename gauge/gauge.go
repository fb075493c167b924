// Package gauge is layer 2: it expresses utilization as a float64, including
// values that are infinite or not a number. See shared/doc/02-gauge.md.
package gauge

import (
	"cmp"
	"math"
	"slices"
)

// The kinds, in their order.
const (
	negativeInfinity = iota
	belowZero
	negativeZero
	positiveZero
	aboveZero
	positiveInfinity
	notANumber
	kinds
)

// From this utilization on, all have the same permille value.
const (
	highest         = 1000
	highestPermille = 1000 * highest
)

// Of returns used / limit, or negative zero if there is no limit.
func Of(used, limit int64) float64 {
	if limit < 0 {
		return math.Copysign(0, -1)
	}
	return float64(used) / float64(limit)
}

// Kind returns the kind of a number, from 0 to 6.
func Kind(x float64) int {
	switch {
	case math.IsNaN(x):
		return notANumber
	case math.IsInf(x, -1):
		return negativeInfinity
	case math.IsInf(x, 1):
		return positiveInfinity
	case x < 0:
		return belowZero
	case x > 0:
		return aboveZero
	case math.Signbit(x):
		return negativeZero
	}
	return positiveZero
}

// Order returns -1 if a is less than b, 1 if b is less than a, and 0 otherwise.
func Order(a, b float64) int {
	if by := cmp.Compare(Kind(a), Kind(b)); by != 0 {
		return by
	}
	// Numbers of one kind that is not finite are equal: both comparisons are
	// false for them, for NaNs as well.
	switch {
	case a < b:
		return -1
	case b < a:
		return 1
	}
	return 0
}

// Sort returns the arguments in ascending order.
func Sort(l ...float64) []float64 {
	sorted := slices.Clone(l)
	slices.SortStableFunc(sorted, Order)
	return sorted
}

// Least returns the first one of the sorted arguments, NaN without any.
func Least(l ...float64) float64 {
	if len(l) == 0 {
		return math.NaN()
	}
	least := l[0]
	for _, x := range l {
		if Order(x, least) < 0 {
			least = x
		}
	}
	return least
}

// Greatest returns the last one of the sorted arguments, NaN without any.
func Greatest(l ...float64) float64 {
	if len(l) == 0 {
		return math.NaN()
	}
	greatest := l[0]
	for _, x := range l {
		// Among equal ones the later one is last in a stable order.
		if Order(x, greatest) >= 0 {
			greatest = x
		}
	}
	return greatest
}

// Kinds returns the number of arguments of each kind.
func Kinds(l ...float64) [7]int {
	var counts [kinds]int
	for _, x := range l {
		counts[Kind(x)]++
	}
	return counts
}

// Mean returns the mean of the arguments that are not NaN, and their number.
func Mean(l ...float64) (float64, int) {
	sum, n := 0.0, 0
	for _, x := range l {
		if !math.IsNaN(x) {
			sum += x
			n++
		}
	}
	if n == 0 {
		return math.NaN(), 0
	}
	return sum / float64(n), n
}

// Blend moves an old value towards a new one by 1/k of their difference.
func Blend(old, now float64, k int) float64 {
	switch {
	case math.IsNaN(old):
		return now
	case math.IsNaN(now):
		return old
	}
	blend := old + (now-old)/float64(max(k, 1))
	if math.IsNaN(blend) {
		return now
	}
	return blend
}

// Permille returns a utilization in thousandths, -1 for NaN.
func Permille(x float64) int {
	switch {
	case math.IsNaN(x):
		return -1
	case x <= 0:
		return 0
	case x >= highest:
		return highestPermille
	}
	return int(math.Floor(x * 1000))
}
