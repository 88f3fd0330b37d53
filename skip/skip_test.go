package skip_test

import (
	"slices"
	"testing"

	"courier/api"
	"courier/skip"
)

func key(n int) api.Key { return api.Key{0: byte(n), 31: byte(n >> 8)} }

func entry(dh, n, k int) skip.Entry { return skip.Entry{DH: key(dh), N: uint32(n), Key: key(k)} }

func put(s *skip.Store, l ...skip.Entry) {
	for _, e := range l {
		s.Put(e.DH, e.N, e.Key)
	}
}

func holds(t *testing.T, s *skip.Store, want ...skip.Entry) {
	t.Helper()
	if got := s.All(); !slices.Equal(got, want) {
		t.Errorf("%v, want %v", got, want)
	}
}

func TestZeroValue(t *testing.T) {
	var s skip.Store
	holds(t, &s)
	if k, ok := s.Find(api.Key{}, 0); ok || k != (api.Key{}) {
		t.Error(k, ok)
	}
	if s.Take(api.Key{}, 0) {
		t.Error("Take")
	}
	s.Load()
	holds(t, &s)
}

func TestPutAndFind(t *testing.T) {
	var s skip.Store
	put(&s, entry(1, 5, 10), entry(2, 5, 11), entry(1, 4, 12), entry(0, 0, 0))
	holds(t, &s, entry(1, 5, 10), entry(2, 5, 11), entry(1, 4, 12), entry(0, 0, 0))
	for _, e := range s.All() {
		if k, ok := s.Find(e.DH, e.N); !ok || k != e.Key {
			t.Error(e, k, ok)
		}
	}
	for _, e := range []skip.Entry{entry(2, 4, 0), entry(3, 5, 0), entry(1, 6, 0), entry(1<<8, 5, 0)} {
		if k, ok := s.Find(e.DH, e.N); ok || k != (api.Key{}) {
			t.Error(e, k, ok)
		}
	}
	holds(t, &s, entry(1, 5, 10), entry(2, 5, 11), entry(1, 4, 12), entry(0, 0, 0))
}

func TestPutOfWhatIsThere(t *testing.T) {
	var s skip.Store
	put(&s, entry(1, 5, 10), entry(2, 5, 11), entry(1, 5, 12))
	holds(t, &s, entry(2, 5, 11), entry(1, 5, 12))
	put(&s, entry(1, 5, 12))
	holds(t, &s, entry(2, 5, 11), entry(1, 5, 12))
}

func TestTake(t *testing.T) {
	var s skip.Store
	put(&s, entry(1, 5, 10), entry(2, 5, 11), entry(1, 4, 12))
	if s.Take(key(2), 4) || s.Take(key(3), 5) {
		t.Error("took what is not there")
	}
	holds(t, &s, entry(1, 5, 10), entry(2, 5, 11), entry(1, 4, 12))
	if !s.Take(key(2), 5) || s.Take(key(2), 5) {
		t.Error("Take of one that is there, and again")
	}
	holds(t, &s, entry(1, 5, 10), entry(1, 4, 12))
	if !s.Take(key(1), 5) || !s.Take(key(1), 4) {
		t.Error("Take of the others")
	}
	holds(t, &s)
}

func TestMostEntries(t *testing.T) {
	var s skip.Store
	var want []skip.Entry
	for i := range api.MaxKept {
		want = append(want, entry(1, i, i))
	}
	put(&s, want...)
	holds(t, &s, want...)
	put(&s, entry(1, 7, 7)) // it was there: nothing else goes
	want = append(slices.Delete(want, 7, 8), entry(1, 7, 7))
	holds(t, &s, want...)
	put(&s, entry(2, 0, 100), entry(2, 1, 101))
	want = append(want[2:], entry(2, 0, 100), entry(2, 1, 101))
	holds(t, &s, want...)
}

func TestLoad(t *testing.T) {
	var s skip.Store
	put(&s, entry(9, 9, 9))
	s.Load(entry(1, 1, 1), entry(2, 2, 2), entry(1, 1, 3))
	holds(t, &s, entry(2, 2, 2), entry(1, 1, 3))
	var many []skip.Entry
	for i := range api.MaxKept + 5 {
		many = append(many, entry(4, i, i))
	}
	s.Load(many...)
	holds(t, &s, many[5:]...)
	s.Load()
	holds(t, &s)
}

func TestMemory(t *testing.T) {
	var s skip.Store
	l := []skip.Entry{entry(1, 1, 1), entry(2, 2, 2), entry(3, 3, 3)}
	s.Load(l...)
	l[0] = entry(7, 7, 7)
	all := s.All()
	all = append(all, entry(8, 8, 8))
	all[1] = entry(7, 7, 7)
	holds(t, &s, entry(1, 1, 1), entry(2, 2, 2), entry(3, 3, 3))
	before := s.All()
	s.Take(key(1), 1)
	if before[0] != entry(1, 1, 1) || before[1] != entry(2, 2, 2) {
		t.Error("Take changed what was handed out")
	}
}
