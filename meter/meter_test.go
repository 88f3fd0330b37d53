package meter_test

import (
	"math"
	"slices"
	"strconv"
	"testing"

	"courier/meter"
)

var (
	nan   = math.NaN()
	inf   = math.Inf(1)
	minus = math.Copysign(0, -1)
)

// same holds -0 and 0 apart, and takes all NaNs for one.
func same(a, b float64) bool {
	return math.Float64bits(a) == math.Float64bits(b) || math.IsNaN(a) && math.IsNaN(b)
}

func TestRate(t *testing.T) {
	for _, c := range []struct {
		n, ticks int64
		want     float64
	}{
		{6, 3, 2},
		{1, 3, 1.0 / 3},
		{-7, 2, -3.5},
		{7, -2, -3.5},
		{0, 9, 0},
		{0, -9, minus},
		{0, 0, nan},
		{1, 0, inf},
		{math.MaxInt64, 0, inf},
		{-1, 0, -inf},
		{math.MinInt64, 0, -inf},
		{math.MinInt64, -1, 1 << 63},
		{1<<53 + 1, 1, 1 << 53},
		{1<<53 + 1, 1<<53 + 1, 1},
		{math.MaxInt64, math.MaxInt64, 1},
	} {
		if got := meter.Rate(c.n, c.ticks); !same(got, c.want) {
			t.Errorf("Rate(%d, %d) = %v, want %v", c.n, c.ticks, got, c.want)
		}
	}
}

func TestMean(t *testing.T) {
	for _, c := range []struct {
		l    []float64
		want float64
	}{
		{nil, nan},
		{[]float64{}, nan},
		{[]float64{nan}, nan},
		{[]float64{5}, 5},
		{[]float64{1, 2, 6}, 3},
		{[]float64{nan, 1, nan, 2, nan}, 1.5},
		{[]float64{minus}, minus},
		{[]float64{minus, minus}, minus},
		{[]float64{nan, minus}, minus},
		{[]float64{minus, 0}, 0},
		{[]float64{inf, 7}, inf},
		{[]float64{-inf, 7, -inf}, -inf},
		{[]float64{inf, -inf, 1}, nan},
		{[]float64{1e308, 1e308, -1e308}, inf},
		{[]float64{1, 1e16, -1e16}, 0},
		{[]float64{1e16, -1e16, 1}, 1.0 / 3},
	} {
		before := slices.Clone(c.l)
		if got := meter.Mean(c.l...); !same(got, c.want) {
			t.Errorf("Mean(%v) = %v, want %v", c.l, got, c.want)
		}
		if !slices.EqualFunc(before, c.l, same) {
			t.Errorf("Mean changed its argument %v", before)
		}
	}
}

// ordered holds every kind of number, each less than the next.
var ordered = []float64{nan, -inf, -math.MaxFloat64, -2, -1, -math.SmallestNonzeroFloat64, minus, 0, math.SmallestNonzeroFloat64, 1, 2, math.MaxFloat64, inf}

func TestLess(t *testing.T) {
	for i, a := range ordered {
		for j, b := range ordered {
			if got := meter.Less(a, b); got != (i < j) {
				t.Errorf("Less(%v, %v) = %v", a, b, got)
			}
		}
	}
}

func TestClamp(t *testing.T) {
	for i, x := range ordered {
		for j, lo := range ordered {
			for k, hi := range ordered {
				want := x
				if i < j {
					want = lo
				} else if k < i {
					want = hi
				}
				if got := meter.Clamp(x, lo, hi); !same(got, want) {
					t.Errorf("Clamp(%v, %v, %v) = %v, want %v", x, lo, hi, got, want)
				}
			}
		}
	}
}

func TestTicks(t *testing.T) {
	for _, c := range []struct {
		x    float64
		want int64
	}{
		{nan, 0},
		{-inf, 0},
		{-1e300, 0},
		{-1, 0},
		{-0.5, 0},
		{minus, 0},
		{0, 0},
		{math.SmallestNonzeroFloat64, 1},
		{0.5, 1},
		{1, 1},
		{1.5, 2},
		{2, 2},
		{1e15 + 0.5, 1e15 + 1},
		{1 << 53, 1 << 53},
		{math.Nextafter(1<<62, 0), 1<<62 - 512},
		{1 << 62, 1 << 62},
		{math.Nextafter(1<<62, inf), 1 << 62},
		{1 << 63, 1 << 62},
		{1e300, 1 << 62},
		{inf, 1 << 62},
	} {
		if got := meter.Ticks(c.x); got != c.want {
			t.Errorf("Ticks(%v) = %d, want %d", c.x, got, c.want)
		}
	}
}

func TestShow(t *testing.T) {
	for _, c := range []struct {
		x    float64
		want string
	}{
		{nan, "nan"},
		{math.Float64frombits(0xfff8000000000001), "nan"},
		{inf, "+inf"},
		{-inf, "-inf"},
		{0, "0"},
		{minus, "-0"},
		{1, "1"},
		{-2.5, "-2.5"},
		{0.1, "0.1"},
		{123456, "123456"},
		{1e20, "1e+20"},
		{1e21, "1e+21"},
		{1e-5, "1e-05"},
		{5e-324, "5e-324"},
		{math.MaxFloat64, "1.7976931348623157e+308"},
	} {
		if got := meter.Show(c.x); got != c.want {
			t.Errorf("Show(%v) = %q, want %q", c.x, got, c.want)
		}
	}
	for _, x := range []float64{1.0 / 3, -1e100, 4096.25} {
		if got := meter.Show(x); got != strconv.FormatFloat(x, 'g', -1, 64) {
			t.Errorf("Show(%v) = %q", x, got)
		}
	}
}
