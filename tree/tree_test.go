package tree_test

import (
	"crypto/sha256"
	"encoding/hex"
	"math"
	"slices"
	"testing"

	"courier/api"
	"courier/tree"
)

func digest(b ...byte) api.Hash { return sha256.Sum256(b) }

func join(mark byte, l, r api.Hash) api.Hash {
	return digest(slices.Concat([]byte{mark}, l[:], r[:])...)
}

func leaves(n int) (l []api.Hash) {
	for i := range n {
		l = append(l, digest(byte(i), byte(i>>8)))
	}
	return l
}

func TestLeafAndNode(t *testing.T) {
	for _, b := range [][]byte{nil, {0}, {1, 2, 3}, make([]byte, 80)} {
		if got := tree.Leaf(b); got != digest(append([]byte{0}, b...)...) {
			t.Errorf("%v: %x", b, got)
		}
	}
	a, b := digest(1), digest(2)
	if tree.Node(a, b) != join(1, a, b) || tree.Node(b, a) != join(1, b, a) || tree.Node(a, a) != join(1, a, a) {
		t.Error("Node")
	}
}

func TestSplit(t *testing.T) {
	for n, want := range map[int]int{
		math.MinInt: 0, -1: 0, 0: 0, 1: 0, 2: 1, 3: 2, 4: 2, 5: 4, 6: 4, 7: 4, 8: 4, 9: 8, 16: 8, 17: 16, 600: 512, 1024: 512, 1025: 1024,
		1 << 20: 1 << 19, 1<<20 + 1: 1 << 20,
	} {
		if got := tree.Split(n); got != want {
			t.Errorf("Split(%d) = %d, want %d", n, got, want)
		}
	}
}

func TestRoot(t *testing.T) {
	l := leaves(7)
	n := tree.Node
	for i, want := range []api.Hash{
		digest(),
		l[0],
		n(l[0], l[1]),
		n(n(l[0], l[1]), l[2]),
		n(n(l[0], l[1]), n(l[2], l[3])),
		n(n(n(l[0], l[1]), n(l[2], l[3])), l[4]),
		n(n(n(l[0], l[1]), n(l[2], l[3])), n(l[4], l[5])),
		n(n(n(l[0], l[1]), n(l[2], l[3])), n(n(l[4], l[5]), l[6])),
	} {
		if got := tree.Root(l[:i]...); got != want {
			t.Errorf("%d leaves: %x", i, got)
		}
	}
	if !slices.Equal(l, leaves(7)) {
		t.Error("Root changed its argument")
	}
}

func TestRootOfKnownTexts(t *testing.T) { // the tests of Certificate Transparency's reference program
	var l []api.Hash
	for _, s := range []string{"", "00", "10", "2021", "3031", "40414243", "5051525354555657", "606162636465666768696a6b6c6d6e6f"} {
		b, _ := hex.DecodeString(s)
		l = append(l, tree.Leaf(b))
	}
	for n, want := range map[int]string{
		1: "6e340b9cffb37a989ca544e6bb780a2c78901d3fb33738768511a30617afa01d",
		2: "fac54203e7cc696cf0dfcb42c92a1d9dbaf70ad9e621f4bd8d98662f00e3c125",
		3: "aeb6bcfe274b70a14fb067a5e5578264db0fa9b51af5e0ba159158f329e06e77",
		5: "4e3bbb1f7b478dcfe71fb631631519a3bca12c9aefca1612bfce4c13a86264d4",
		8: "5dc9da79a70659a9ad559cb701ded9a2ab9d823aad2f4960cfe370eff4604328",
	} {
		got := tree.Root(l[:n]...)
		if hex.EncodeToString(got[:]) != want {
			t.Errorf("%d leaves: %x", n, got)
		}
	}
}

// grown is the root by adding leaf after leaf: equal subtrees are joined as they come, and what is left from the right.
func grown(l []api.Hash) api.Hash {
	type part struct {
		root api.Hash
		size int
	}
	var parts []part
	for _, h := range l {
		parts = append(parts, part{h, 1})
		for n := len(parts); n > 1 && parts[n-1].size == parts[n-2].size; n-- {
			parts = append(parts[:n-2], part{join(1, parts[n-2].root, parts[n-1].root), 2 * parts[n-1].size})
		}
	}
	root := parts[len(parts)-1].root
	for i := len(parts) - 2; i >= 0; i-- {
		root = join(1, parts[i].root, root)
	}
	return root
}

func TestRootOfManyLeaves(t *testing.T) {
	l := leaves(200)
	for n := 1; n <= len(l); n++ {
		if tree.Root(l[:n]...) != grown(l[:n]) {
			t.Error(n, "leaves")
		}
	}
}
