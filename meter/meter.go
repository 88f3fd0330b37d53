// Package meter: rates, and numbers that are none: see ../shared/doc/01-meter.md.
package meter

import (
	"math"
	"strconv"
)

const mostTicks = 1 << 62

// Rate is the quotient of n and ticks (P1.1).
func Rate(n, ticks int64) float64 { return float64(n) / float64(ticks) }

// Mean is the mean of those of l that are numbers (P1.1).
func Mean(l ...float64) float64 {
	sum, n := math.NaN(), 0
	for _, x := range l {
		if math.IsNaN(x) {
			continue
		}
		if n == 0 {
			sum = x // not 0 + x, which would turn -0 into 0
		} else {
			sum += x
		}
		n++
	}
	return sum / float64(n)
}

// Less puts NaN ahead of all numbers, and -0 ahead of 0 (P1.2).
func Less(a, b float64) bool {
	switch {
	case math.IsNaN(a) || math.IsNaN(b):
		return !math.IsNaN(b) && math.IsNaN(a)
	case a == 0 && b == 0:
		return math.Signbit(a) && !math.Signbit(b)
	}
	return a < b
}

// Clamp is x, held between lo and hi as Less orders them (P1.2).
func Clamp(x, lo, hi float64) float64 {
	if Less(x, lo) {
		return lo
	}
	if Less(hi, x) {
		return hi
	}
	return x
}

// Ticks is the least whole number of ticks that x does not exceed (P1.3).
func Ticks(x float64) int64 {
	switch {
	case math.IsNaN(x) || x <= 0:
		return 0
	case x >= mostTicks:
		return mostTicks
	}
	return int64(math.Ceil(x))
}

// Show writes x as a text (P1.3).
func Show(x float64) string {
	switch {
	case math.IsNaN(x):
		return "nan"
	case math.IsInf(x, 1):
		return "+inf"
	case math.IsInf(x, -1):
		return "-inf"
	}
	return strconv.FormatFloat(x, 'g', -1, 64)
}
