package proof_test

import (
	"crypto/sha256"
	"math"
	"slices"
	"testing"

	"courier/api"
	"courier/proof"
	"courier/tree"
)

func leaves(n int) (l []api.Hash) {
	for i := range n {
		l = append(l, sha256.Sum256([]byte{byte(i), byte(i >> 8)}))
	}
	return l
}

// path is the chapter's, word by word.
func path(i int, l []api.Hash) []api.Hash {
	if len(l) == 1 {
		return nil
	}
	half := tree.Split(len(l))
	if i < half {
		return append(path(i, l[:half]), tree.Root(l[half:]...))
	}
	return append(path(i-half, l[half:]), tree.Root(l[:half]...))
}

func TestPath(t *testing.T) {
	l := leaves(7)
	n := tree.Node
	left, right := n(n(l[0], l[1]), n(l[2], l[3])), n(n(l[4], l[5]), l[6])
	for i, want := range map[int][]api.Hash{
		0: {l[1], n(l[2], l[3]), right},
		3: {l[2], n(l[0], l[1]), right},
		5: {l[4], l[6], left},
		6: {n(l[4], l[5]), left},
	} {
		if got, err := proof.Path(i, l...); err != nil || !slices.Equal(got, want) {
			t.Error(i, got, err)
		}
	}
	if got, err := proof.Path(0, l[0]); err != nil || len(got) != 0 {
		t.Error("the only leaf:", got, err)
	}
	for _, i := range []int{-1, 7, 8, math.MinInt, math.MaxInt} {
		if got, err := proof.Path(i, l...); err != api.ErrRange || len(got) != 0 {
			t.Error(i, got, err)
		}
	}
	if _, err := proof.Path(0); err != api.ErrRange {
		t.Error("no leaf:", err)
	}
	if !slices.Equal(l, leaves(7)) {
		t.Error("Path changed its argument")
	}
}

func TestEveryLeaf(t *testing.T) {
	for n := 1; n <= 40; n++ {
		l := leaves(n)
		root := tree.Root(l...)
		for i, leaf := range l {
			p, err := proof.Path(i, l...)
			if err != nil || !slices.Equal(p, path(i, l)) {
				t.Fatal("Path", i, n, p, err)
			}
			if got, err := proof.Up(leaf, i, n, p...); err != nil || got != root {
				t.Error("Up", i, n, got, err)
			}
			if err := proof.Check(root, leaf, i, n, p...); err != nil {
				t.Error("Check", i, n, err)
			}
			if !slices.Equal(p, path(i, l)) {
				t.Fatal("the path was changed")
			}
			refuses(t, root, leaf, i, n, p, l)
		}
	}
}

// refuses wants that no other leaf, place or path leads to the root.
func refuses(t *testing.T, root, leaf api.Hash, i, n int, p, l []api.Hash) {
	t.Helper()
	other := api.Hash{1}
	if proof.Check(other, leaf, i, n, p...) != api.ErrRoot || proof.Check(root, other, i, n, p...) != api.ErrRoot {
		t.Error("another root or leaf", i, n)
	}
	if _, err := proof.Up(leaf, i, n, append(slices.Clone(p), other)...); err != api.ErrTrail {
		t.Error("a longer path", i, n, err)
	}
	if proof.Check(root, leaf, i, n, append(slices.Clone(p), other)...) != api.ErrTrail {
		t.Error("a longer path", i, n)
	}
	for k := range p {
		if got, err := proof.Up(leaf, i, n, p[:k]...); err != api.ErrShort || got != (api.Hash{}) {
			t.Error("a shorter path", i, n, err)
		}
		if proof.Check(root, leaf, i, n, p[:k]...) != api.ErrShort {
			t.Error("a shorter path", i, n)
		}
		bent := slices.Clone(p)
		bent[k][7] ^= 1
		if proof.Check(root, leaf, i, n, bent...) != api.ErrRoot {
			t.Error("a bent path", i, n, k)
		}
	}
	for j := range l {
		if j != i && proof.Check(root, leaf, j, n, p...) == nil {
			t.Error("leaf", i, "is taken for", j, "of", n)
		}
	}
}

func TestRange(t *testing.T) {
	leaf := api.Hash{1}
	for _, c := range [][2]int{{0, 0}, {-1, 3}, {3, 3}, {4, 3}, {0, -1}, {-2, -1}, {0, 1<<20 + 1}, {1 << 20, 1 << 20}, {math.MinInt, 5}, {math.MaxInt, 5}, {5, math.MaxInt}, {0, math.MinInt}} {
		for _, p := range [][]api.Hash{nil, {leaf}, {leaf, leaf, leaf}} {
			if got, err := proof.Up(leaf, c[0], c[1], p...); err != api.ErrRange || got != (api.Hash{}) {
				t.Error("Up", c, len(p), err)
			}
			if err := proof.Check(leaf, leaf, c[0], c[1], p...); err != api.ErrRange {
				t.Error("Check", c, len(p), err)
			}
		}
	}
}

func TestMostLeaves(t *testing.T) {
	leaf := api.Hash{5}
	p := leaves(20)
	want := leaf
	for _, h := range p {
		want = tree.Node(h, want)
	}
	if got, err := proof.Up(leaf, 1<<20-1, 1<<20, p...); err != nil || got != want {
		t.Error(got, err)
	}
	if _, err := proof.Up(leaf, 1<<20-1, 1<<20, p[1:]...); err != api.ErrShort {
		t.Error(err)
	}
}
