package bits_test

import (
	"bytes"
	"math"
	"math/rand"
	"testing"

	"courier/api"
	"courier/bits"
)

func of(t *testing.T, n int, l ...int) *bits.Map {
	t.Helper()
	m := bits.New(n)
	for _, i := range l {
		if !m.Set(i) {
			t.Fatal("Set", i)
		}
	}
	return m
}

func TestNew(t *testing.T) {
	for n, want := range map[int]int{0: 0, 1: 1, 9: 9, 1000: 1000, 1001: 1000, math.MaxInt: 1000, -1: 0, math.MinInt: 0} {
		m := bits.New(n)
		if m.Size() != want || m.Count() != 0 || m.Front() != 0 {
			t.Error(n, m.Size(), m.Count(), m.Front())
		}
		for i := range want {
			if m.Has(i) {
				t.Error(n, i)
			}
		}
	}
}

func TestSetAndHas(t *testing.T) {
	m := bits.New(10)
	for k, i := range []int{3, 0, 9, 8} {
		if !m.Set(i) || m.Set(i) || !m.Has(i) || m.Count() != k+1 {
			t.Error(i, m.Has(i), m.Count())
		}
	}
	for _, i := range []int{-1, 10, 11, 1000, math.MinInt, math.MaxInt} {
		if m.Set(i) || m.Has(i) {
			t.Error(i)
		}
	}
	for i := range 10 {
		if m.Has(i) != (i == 0 || i == 3 || i == 8 || i == 9) {
			t.Error(i)
		}
	}
	if m.Count() != 4 || m.Size() != 10 {
		t.Error(m.Count(), m.Size())
	}
	if none := bits.New(0); none.Set(0) || none.Has(0) {
		t.Error("a piece of none")
	}
}

func TestNext(t *testing.T) {
	m := of(t, 6, 0, 2, 3, 5)
	for from, want := range map[int]int{0: 1, 1: 1, 2: 4, 3: 4, 4: 4, 5: 1, 6: 1, 7: 1, 8: 4, 11: 1, 16: 4, -1: 1, math.MinInt: 1, math.MaxInt: 1} {
		if got := m.Next(from); got != want {
			t.Errorf("Next(%d) = %d, want %d", from, got, want)
		}
	}
	full := of(t, 3, 0, 1, 2)
	for _, from := range []int{-1, 0, 2, 3, math.MaxInt} {
		if full.Next(from) != -1 || bits.New(0).Next(from) != -1 {
			t.Error(from)
		}
	}
	for from, want := range map[int]int{-3: 0, 0: 0, 1: 2, 2: 2, 3: 0} {
		if got := of(t, 3, 1).Next(from); got != want {
			t.Errorf("Next(%d) = %d, want %d", from, got, want)
		}
	}
	if got := of(t, 3, 0, 1).Next(0); got != 2 {
		t.Error(got)
	}
}

func TestFront(t *testing.T) {
	for _, c := range []struct {
		l    []int
		want int
	}{{nil, 0}, {[]int{1, 2, 3}, 0}, {[]int{0}, 1}, {[]int{0, 2, 3}, 1}, {[]int{2, 1, 0}, 3}, {[]int{0, 1, 2, 3}, 4}} {
		if got := of(t, 4, c.l...).Front(); got != c.want {
			t.Error(c.l, got)
		}
	}
	if bits.New(0).Front() != 0 {
		t.Error("of none")
	}
}

func TestBytesAndOf(t *testing.T) {
	if got := of(t, 18, 0, 3, 7, 9, 17).Bytes(); !bytes.Equal(got, []byte{0x89, 0x02, 0x02}) {
		t.Error(got)
	}
	random := rand.New(rand.NewSource(22))
	for n := range 40 {
		m := bits.New(n)
		for range n {
			m.Set(random.Intn(n))
		}
		b := m.Bytes()
		if len(b) != (n+7)/8 {
			t.Error(n, len(b))
		}
		got, err := bits.Of(n, b)
		if err != nil || got.Size() != n || got.Count() != m.Count() || got.Front() != m.Front() || !bytes.Equal(got.Bytes(), b) {
			t.Error(n, got, err)
		}
		for i := range n {
			if got.Has(i) != m.Has(i) {
				t.Error(n, i)
			}
		}
	}
	for n, size := range map[int]int{-5: 0, 1000: 125, 1001: 125, math.MaxInt: 125} {
		if m, err := bits.Of(n, make([]byte, size)); err != nil || m.Size() != min(max(n, 0), 1000) {
			t.Error(n, err)
		}
	}
}

func TestOfWrongBytes(t *testing.T) {
	for _, c := range []struct {
		n int
		b []byte
	}{
		{0, []byte{0}}, {1, nil}, {8, nil}, {8, []byte{0, 0}}, {9, []byte{0}}, {16, []byte{0, 0, 0}}, {1000, make([]byte, 124)}, {2000, make([]byte, 250)}, {-1, []byte{0}},
		{1, []byte{2}}, {7, []byte{0x80}}, {9, []byte{0, 2}}, {9, []byte{0xff, 0x81}}, {15, []byte{0, 0x80}},
	} {
		if m, err := bits.Of(c.n, c.b); m != nil || err != api.ErrForm {
			t.Error(c.n, c.b, m, err)
		}
	}
}

func TestMemory(t *testing.T) {
	b := []byte{5, 1}
	m, err := bits.Of(9, b)
	if err != nil {
		t.Fatal(err)
	}
	clear(b)
	out := m.Bytes()
	_ = append(out, 9)
	clear(out)
	if !bytes.Equal(m.Bytes(), []byte{5, 1}) || m.Count() != 3 {
		t.Error(m.Bytes())
	}
}
