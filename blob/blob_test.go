package blob_test

import (
	"bytes"
	"crypto/sha256"
	"math"
	"slices"
	"testing"

	"courier/api"
	"courier/blob"
)

func ramp(from, n int) []byte {
	b := make([]byte, n)
	for i := range b {
		b[i] = byte(from + i)
	}
	return b
}

func id(n int) api.Hash { return api.Hash{0: byte(n), 31: 7} }

func idOf(b []byte) api.Hash { return sha256.Sum256(b) }

func open(t *testing.T, s *blob.Store, id api.Hash, n int) {
	t.Helper()
	if err := s.Open(id, n); err != nil {
		t.Fatal("Open:", err)
	}
}

func put(t *testing.T, s *blob.Store, id api.Hash, off int, b []byte, want int) {
	t.Helper()
	if n, err := s.Put(id, off, b); err != nil || n != want {
		t.Fatal("Put:", n, err, "want", want)
	}
}

func commit(t *testing.T, s *blob.Store, id api.Hash) {
	t.Helper()
	if err := s.Commit(id); err != nil {
		t.Fatal("Commit:", err)
	}
}

// whole is a store with the committed blob b.
func whole(t *testing.T, b []byte) *blob.Store {
	t.Helper()
	s := blob.New(api.MaxBlob, 100)
	open(t, s, idOf(b), len(b))
	put(t, s, idOf(b), 0, b, len(b))
	commit(t, s, idOf(b))
	return s
}

func stat(t *testing.T, s *blob.Store, id api.Hash, n int, committed bool) {
	t.Helper()
	if got, is, err := s.Stat(id); got != n || is != committed || err != nil {
		t.Error("Stat:", got, is, err, "want", n, committed)
	}
}

func TestOpen(t *testing.T) {
	s := blob.New(100, 10)
	for _, n := range []int{0, -1, api.MaxBlob + 1, math.MinInt, math.MaxInt} {
		if err := s.Open(id(1), n); err != api.ErrRange {
			t.Error(n, err)
		}
	}
	open(t, s, id(1), 60)
	stat(t, s, id(1), 0, false)
	if err := s.Open(id(1), 1000); err != api.ErrOpen {
		t.Error(err)
	}
	if err := s.Open(id(1), 0); err != api.ErrRange {
		t.Error(err)
	}
	if err := s.Open(id(2), 41); err != api.ErrFull {
		t.Error(err)
	}
	open(t, s, id(2), 40)
	if err := s.Open(id(3), 1); err != api.ErrFull || s.Used() != 100 {
		t.Error(err, s.Used())
	}
	open(t, blob.New(api.MaxBlob, 1), id(1), api.MaxBlob)
	for _, quota := range []int{0, -1, math.MinInt} {
		if err := blob.New(quota, 1).Open(id(1), 1); err != api.ErrFull {
			t.Error(quota, err)
		}
	}
	open(t, blob.New(math.MaxInt, 1), id(1), 1)
}

func TestMostBlobs(t *testing.T) {
	s := blob.New(20, 10)
	for i := range api.MaxBlobs {
		open(t, s, id(i), 1)
	}
	if err := s.Open(id(99), 100); err != api.ErrLimit {
		t.Error("the limit comes ahead of the quota:", err)
	}
	if err := s.Open(id(5), 1); err != api.ErrOpen {
		t.Error("what is there comes ahead of the limit:", err)
	}
	if err := s.Delete(id(3)); err != nil {
		t.Error(err)
	}
	open(t, s, id(99), 1)
	want := []api.Hash{}
	for i := range api.MaxBlobs {
		if i != 3 {
			want = append(want, id(i))
		}
	}
	if got := s.All(); !slices.Equal(got, append(want, id(99))) {
		t.Error(got)
	}
}

func TestPut(t *testing.T) {
	s := blob.New(1000, 10)
	open(t, s, id(1), 10)
	put(t, s, id(1), 0, nil, 0)
	put(t, s, id(1), 0, ramp(0, 4), 4)
	put(t, s, id(1), 4, ramp(4, 2), 6)
	put(t, s, id(1), 1, []byte{70}, 6)
	put(t, s, id(1), 6, nil, 6)
	put(t, s, id(1), 5, ramp(80, 3), 8)
	for _, c := range []struct {
		off int
		b   []byte
	}{{-1, nil}, {-1, ramp(0, 1)}, {9, nil}, {9, ramp(0, 1)}, {8, ramp(0, 3)}, {0, ramp(0, 11)}, {math.MaxInt, ramp(0, 1)}, {math.MinInt, nil}, {math.MaxInt, nil}} {
		if n, err := s.Put(id(1), c.off, c.b); n != 0 || err != api.ErrRange {
			t.Error(c.off, len(c.b), n, err)
		}
	}
	stat(t, s, id(1), 8, false)
	put(t, s, id(1), 8, ramp(90, 2), 10)
	want := []byte{0, 70, 2, 3, 4, 80, 81, 82, 90, 91}
	if n, err := s.Put(id(2), -1, nil); n != 0 || err != api.ErrNone {
		t.Error(n, err)
	}
	if err := s.Commit(id(1)); err != api.ErrDigest {
		t.Error(err)
	}
	// The same puts under the right ID are that blob.
	open(t, s, idOf(want), 10)
	put(t, s, idOf(want), 0, []byte{0, 70, 2, 3}, 4)
	put(t, s, idOf(want), 4, []byte{9, 9, 9, 9, 9, 9}, 10)
	put(t, s, idOf(want), 4, want[4:], 10)
	commit(t, s, idOf(want))
	if got, err := s.Get(idOf(want), 0, 10); err != nil || !bytes.Equal(got, want) {
		t.Error(got, err)
	}
	for _, off := range []int{0, -1, 99} {
		if n, err := s.Put(idOf(want), off, want); n != 0 || err != api.ErrState {
			t.Error("Put of a committed blob:", n, err)
		}
	}
}

func TestCommit(t *testing.T) {
	b := ramp(3, 5)
	s := blob.New(1000, 10)
	if err := s.Commit(idOf(b)); err != api.ErrNone {
		t.Error(err)
	}
	open(t, s, idOf(b), 5)
	if err := s.Commit(idOf(b)); err != api.ErrState {
		t.Error(err)
	}
	put(t, s, idOf(b), 0, b[:4], 4)
	if err := s.Commit(idOf(b)); err != api.ErrState {
		t.Error(err)
	}
	put(t, s, idOf(b), 4, []byte{99}, 5)
	if err := s.Commit(idOf(b)); err != api.ErrDigest {
		t.Error(err)
	}
	stat(t, s, idOf(b), 5, false)
	put(t, s, idOf(b), 4, b[4:], 5)
	commit(t, s, idOf(b))
	stat(t, s, idOf(b), 5, true)
	commit(t, s, idOf(b))
	s.Spoil(idOf(b), 0)
	commit(t, s, idOf(b)) // it is committed already
	stat(t, s, idOf(b), 5, true)
}

func TestGet(t *testing.T) {
	b := ramp(1, 300)
	s := whole(t, b)
	for _, c := range [][2]int{{0, 0}, {0, 1}, {0, 200}, {100, 200}, {299, 1}, {300, 0}, {150, 50}} {
		if got, err := s.Get(idOf(b), c[0], c[1]); err != nil || !bytes.Equal(got, b[c[0]:c[0]+c[1]]) {
			t.Error(c, got, err)
		}
	}
	for _, c := range [][2]int{{0, -1}, {0, 201}, {-1, 1}, {101, 200}, {300, 1}, {math.MaxInt, 1}, {math.MinInt, 1}, {0, math.MaxInt}, {0, math.MinInt}, {math.MaxInt, math.MaxInt}} {
		if got, err := s.Get(idOf(b), c[0], c[1]); err != api.ErrRange || len(got) != 0 {
			t.Error(c, got, err)
		}
	}
	if got, err := s.Get(id(5), -1, -1); err != api.ErrNone || len(got) != 0 {
		t.Error(got, err)
	}
	open(t, s, id(5), 3)
	put(t, s, id(5), 0, ramp(0, 3), 3)
	if got, err := s.Get(id(5), -1, -1); err != api.ErrState || len(got) != 0 {
		t.Error(got, err)
	}
	if got, err := blob.New(1, 1).Get(id(1), 0, 0); err != api.ErrNone || len(got) != 0 {
		t.Error("a new store:", got, err)
	}
}

func TestStatAndDelete(t *testing.T) {
	s := whole(t, ramp(0, 9))
	if n, is, err := s.Stat(id(1)); n != 0 || is || err != api.ErrNone {
		t.Error(n, is, err)
	}
	if err := s.Delete(id(1)); err != api.ErrNone {
		t.Error(err)
	}
	stat(t, s, idOf(ramp(0, 9)), 9, true)
	if err := s.Delete(idOf(ramp(0, 9))); err != nil || s.Used() != 0 || len(s.All()) != 0 {
		t.Error(err, s.Used())
	}
	if err := s.Delete(idOf(ramp(0, 9))); err != api.ErrNone {
		t.Error(err)
	}
	open(t, s, idOf(ramp(0, 9)), 5)
	stat(t, s, idOf(ramp(0, 9)), 0, false)
}

func TestMemory(t *testing.T) {
	b := ramp(0, 5)
	s := blob.New(1000, 10)
	open(t, s, idOf(b), 5)
	mine := bytes.Clone(b)
	put(t, s, idOf(b), 0, mine, 5)
	clear(mine)
	commit(t, s, idOf(b))
	got, _ := s.Get(idOf(b), 1, 2)
	got = append(got, 99)
	got[0] = 99
	if again, _ := s.Get(idOf(b), 0, 5); !bytes.Equal(again, b) {
		t.Error(again)
	}
	open(t, s, id(1), 1)
	all := s.All()
	_ = append(all, id(9))
	all[0] = id(9)
	if got := s.All(); !slices.Equal(got, []api.Hash{idOf(b), id(1)}) {
		t.Error(got)
	}
}

func TestTick(t *testing.T) {
	for life, want := range map[int]int{math.MinInt: 1, -1: 1, 0: 1, 1: 1, 2: 2, 5: 5} {
		s := blob.New(1000, life)
		open(t, s, id(1), 10)
		for k := 1; k <= want; k++ {
			gone := s.Tick()
			if last := k == want; last != (gone == 1) || last != (len(s.All()) == 0) {
				t.Error("life", life, "tick", k, gone)
			}
		}
		if s.Used() != 0 || s.Tick() != 0 {
			t.Error("life", life, s.Used())
		}
	}
}

func TestTickRemovesOnlyTheUnused(t *testing.T) {
	s := blob.New(1000, 3)
	for i := range 6 {
		open(t, s, id(i), i+1)
		if i == 2 {
			s.Tick()
		}
	}
	s.Tick()
	s.Stat(id(1))
	if n := s.Tick(); n != 2 {
		t.Error(n)
	}
	if got := s.All(); !slices.Equal(got, []api.Hash{id(1), id(3), id(4), id(5)}) || s.Used() != 2+4+5+6 {
		t.Error(got, s.Used())
	}
	if n := s.Tick(); n != 3 || s.Used() != 2 {
		t.Error(n, s.Used())
	}
}

func TestUses(t *testing.T) {
	b := ramp(0, 4)
	for name, c := range map[string]struct {
		use  func(s *blob.Store)
		want bool
	}{
		"nothing":        {func(s *blob.Store) {}, false},
		"Open":           {func(s *blob.Store) { s.Open(idOf(b), 1) }, true},
		"Put":            {func(s *blob.Store) { s.Put(idOf(b), 0, nil) }, true},
		"a wrong Put":    {func(s *blob.Store) { s.Put(idOf(b), -1, nil) }, true},
		"Commit":         {func(s *blob.Store) { s.Commit(idOf(b)) }, true},
		"Get":            {func(s *blob.Store) { s.Get(idOf(b), 0, 1) }, true},
		"a wrong Get":    {func(s *blob.Store) { s.Get(idOf(b), 0, -1) }, true},
		"Stat":           {func(s *blob.Store) { s.Stat(idOf(b)) }, true},
		"of another one": {func(s *blob.Store) { s.Stat(id(1)) }, false},
		"Spoil":          {func(s *blob.Store) { s.Spoil(idOf(b), 0) }, false},
		"the others":     {func(s *blob.Store) { s.Used(); s.All() }, false},
	} {
		for _, state := range []string{"empty", "full", "committed"} {
			s := blob.New(1000, 2)
			open(t, s, idOf(b), 4)
			if state != "empty" {
				put(t, s, idOf(b), 0, b, 4)
			}
			if state == "committed" {
				commit(t, s, idOf(b))
			}
			s.Tick()
			c.use(s)
			if gone := s.Tick(); gone == 1 == c.want {
				t.Error(name, "of a blob that is", state, "is a use:", gone == 0)
			}
		}
	}
}

func TestSpoil(t *testing.T) {
	b := ramp(10, 5)
	for at, want := range map[int]int{0: 0, 4: 4, 5: 0, 7: 2, -1: 4, -5: 0, -6: 4, math.MaxInt: 2, math.MinInt: 2} {
		s := whole(t, b)
		if !s.Spoil(idOf(b), at) {
			t.Error(at)
		}
		spoiled := bytes.Clone(b)
		spoiled[want] ^= 1
		if got, err := s.Get(idOf(b), 0, 5); err != nil || !bytes.Equal(got, spoiled) {
			t.Error(at, got, err)
		}
		s.Spoil(idOf(b), want)
		if got, _ := s.Get(idOf(b), 0, 5); !bytes.Equal(got, b) {
			t.Error("twice:", got)
		}
	}
	s := blob.New(100, 5)
	if s.Spoil(id(1), 0) {
		t.Error("of none")
	}
	open(t, s, idOf(b), 5)
	if s.Spoil(idOf(b), 0) {
		t.Error("of no bytes")
	}
	put(t, s, idOf(b), 0, b[:2], 2)
	if !s.Spoil(idOf(b), 3) { // of those that it has
		t.Error("of an open one")
	}
	put(t, s, idOf(b), 2, b[2:], 5)
	if err := s.Commit(idOf(b)); err != api.ErrDigest {
		t.Error(err)
	}
	s.Spoil(idOf(b), 1)
	commit(t, s, idOf(b))
}
