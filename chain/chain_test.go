package chain_test

import (
	"crypto/hkdf"
	"crypto/hmac"
	"crypto/sha256"
	"testing"

	"courier/api"
	"courier/chain"
)

func keyOf(from byte) (k api.Key) {
	for i := range k {
		k[i] = from + byte(i)
	}
	return k
}

// hash is the HMAC of b.
func hash(key api.Key, b ...byte) api.Key {
	h := hmac.New(sha256.New, key[:])
	h.Write(b)
	return api.Key(h.Sum(nil))
}

func TestRoot(t *testing.T) {
	for _, c := range [][2]api.Key{{keyOf(1), keyOf(70)}, {keyOf(70), keyOf(1)}, {{}, {}}, {{}, keyOf(3)}, {keyOf(3), {}}} {
		want, err := hkdf.Key(sha256.New, c[1][:], c[0][:], "courier root", 64)
		if err != nil {
			t.Fatal(err)
		}
		root, first := chain.Root(c[0], c[1])
		if root != api.Key(want[:32]) || first != api.Key(want[32:]) {
			t.Errorf("%x: %x, %x", c, root, first)
		}
		if root == (api.Key{}) || first == (api.Key{}) {
			t.Error("a key of zeros")
		}
	}
}

func TestStep(t *testing.T) {
	for _, k := range []api.Key{{}, keyOf(0), keyOf(200)} {
		next, message := chain.Step(k)
		if next != hash(k, 2) || message != hash(k, 1) {
			t.Errorf("%x: %x, %x", k, next, message)
		}
	}
}

func TestDraw(t *testing.T) {
	for _, k := range []api.Key{{}, keyOf(9)} {
		for _, n := range []uint32{0, 1, 255, 256, 0x01020304, 1<<32 - 1} {
			if got := chain.Draw(k, n); got != hash(k, byte(n), byte(n>>8), byte(n>>16), byte(n>>24)) {
				t.Errorf("%d: %x", n, got)
			}
		}
	}
}
