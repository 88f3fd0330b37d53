package pace_test

import (
	"math"
	"testing"

	"courier/pace"
)

func TestDelay(t *testing.T) {
	for tries, want := range map[int]int{
		math.MinInt: 1, math.MinInt + 1: 1, -1 << 32: 1, -1073: 1, -1074: 1, -1: 1, 0: 1, 1: 1, 2: 2, 3: 4, 4: 8, 5: 16, 6: 32, 7: 64, 8: 64, 11: 64,
		1023: 64, 1024: 64, 1025: 64, 1 << 32: 64, math.MaxInt - 1: 64, math.MaxInt: 64,
	} {
		if got := pace.Delay(tries); got != want {
			t.Errorf("Delay(%d) = %d, want %d", tries, got, want)
		}
	}
}

func TestFailAndGood(t *testing.T) {
	var p pace.Pace
	if !p.Ready() {
		t.Error("the zero value waits")
	}
	for k, want := range []int{1, 2, 4, 8, 16, 32, 64, 64, 64, 64, 64, 64} {
		tries := k + 1
		if got := p.Fail(); got != (tries > 10) || p != (pace.Pace{Tries: tries, Wait: want}) {
			t.Error(tries, got, p)
		}
		if p.Ready() {
			t.Error("Ready after a failure")
		}
	}
	p.Good()
	if p != (pace.Pace{}) || !p.Ready() {
		t.Error(p)
	}
	p = pace.Pace{Tries: 9, Wait: 3}
	if p.Fail() || p != (pace.Pace{Tries: 10, Wait: 64}) || !p.Fail() {
		t.Error(p)
	}
	p = pace.Pace{Tries: -5, Wait: 50}
	if p.Fail() || p != (pace.Pace{Tries: -4, Wait: 1}) {
		t.Error(p)
	}
}

func TestTick(t *testing.T) {
	p := pace.Pace{Tries: 3, Wait: 2}
	for _, want := range []int{1, 0, 0, 0} {
		p.Tick()
		if p != (pace.Pace{Tries: 3, Wait: want}) || p.Ready() != (want == 0) {
			t.Error(p, want)
		}
	}
	p = pace.Pace{Wait: -2}
	p.Tick()
	if p.Wait != -2 || p.Ready() {
		t.Error(p)
	}
}

func TestProgress(t *testing.T) {
	inf := math.Inf(1)
	for _, c := range []struct {
		have, all int
		want      float64
	}{{0, 4, 0}, {1, 4, 0.25}, {4, 4, 1}, {1, 3, 1.0 / 3}, {5, 4, 1.25}, {1, 0, inf}, {-1, 0, -inf}, {-1, 2, -0.5}} {
		if got := pace.Progress(c.have, c.all); got != c.want {
			t.Error(c, got)
		}
	}
	if got := pace.Progress(0, 0); !math.IsNaN(got) {
		t.Error(got)
	}
}

func TestLeft(t *testing.T) {
	inf, nan := math.Inf(1), math.NaN()
	const never = 1 << 62
	for _, c := range []struct {
		have, all int
		rate      float64
		want      int64
	}{
		{0, 10, 2, 5}, {0, 10, 3, 4}, {9, 10, 1, 1}, {9, 10, 100, 1}, {0, 10, 0.5, 20}, {3, 10, 7, 1},
		{10, 10, 2, 0}, {11, 10, 2, 0}, {10, 10, nan, 0}, {10, 10, 0, 0}, {10, 10, -1, 0}, {0, 0, inf, 0},
		{0, 10, nan, never}, {0, 10, 0, never}, {0, 10, math.Copysign(0, -1), never}, {0, 10, -1, never}, {0, 10, -inf, never},
		{0, 10, inf, 0}, {0, 1, 5e-324, never}, {0, 1, 1e300, 1}, {0, 1 << 40, 1, 1 << 40},
	} {
		if got := pace.Left(c.have, c.all, c.rate); got != c.want {
			t.Error(c, got)
		}
	}
}
