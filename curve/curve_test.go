package curve_test

import (
	"crypto/ecdh"
	"encoding/hex"
	"math/big"
	"math/rand"
	"slices"
	"testing"

	"courier/api"
	"courier/curve"
)

func keyOf(t *testing.T, s string) (k api.Key) {
	t.Helper()
	b, err := hex.DecodeString(s)
	if err != nil || len(b) != len(k) {
		t.Fatal(len(b), err)
	}
	copy(k[:], b)
	return k
}

func TestMulOfKnownKeys(t *testing.T) { // RFC 7748, 5.2
	for _, c := range []struct{ k, u, want string }{
		{"a546e36bf0527c9d3b16154b82465edd62144c0ac1fc5a18506a2244ba449ac4", "e6db6867583030db3594c1a424b15f7c726624ec26b3353b10a903a6d0ab1c4c", "c3da55379de9c6908e94ea4df28d084f32eccf03491c71f754b4075577a28552"},
		{"4b66e9d4d1b4673c5ad22691957d6af5c11b6421e0ea01d42ca4169e7918ba0d", "e5210f12786811d3f4b7959d0538ae2c31dbe7106fc03c3efc4cd549c715a493", "95cbde9476e8907d7aade45cb4b873f88b595a68799fa152e6f8f7647aac7957"},
	} {
		if got := curve.Mul(keyOf(t, c.k), keyOf(t, c.u)); got != keyOf(t, c.want) {
			t.Errorf("%x", got)
		}
	}
}

func TestMulAgainAndAgain(t *testing.T) { // RFC 7748, 5.2
	k, u := api.Key{9}, api.Key{9}
	for i := range 1000 {
		k, u = curve.Mul(k, u), k
		if i == 0 && k != keyOf(t, "422c8e7a6227d7bca1350b3e2bb7279f7897b87bb6854b783c60e80311ae3079") {
			t.Errorf("once: %x", k)
		}
	}
	if k != keyOf(t, "684cf59ba83309552800ef566f2f4d3c1c3887c49360e3875f2eb94d99532c51") {
		t.Errorf("1000 times: %x", k)
	}
}

func TestPublicOfKnownKeys(t *testing.T) { // RFC 7748, 6.1
	b := keyOf(t, "5dab087e624a8a4b79e17f8b83800ee66f3bb1292618b6fd1c2f8b27ff88e0eb")
	if got := curve.Public(b); got != keyOf(t, "de9edb7d7b7dc1b4d35b61c2ece435373f8343c85b78674dadfc7e146f882b4f") {
		t.Errorf("%x", got)
	}
	other := keyOf(t, "8520f0098930a754748b7ddcb43ef75a0dbf3a0d26381af4eba4a98eaa9b4e6a")
	if got := curve.Mul(b, other); got != keyOf(t, "4a5d9d5ba4ce2de1728e3bf480350f25e07e21c947d19e3376f09b3c1e161742") {
		t.Errorf("%x", got)
	}
}

func randomKey(random *rand.Rand) (k api.Key) {
	random.Read(k[:])
	return k
}

func TestMulAsTheLibrary(t *testing.T) {
	random := rand.New(rand.NewSource(8))
	for range 200 {
		k, u := randomKey(random), randomKey(random)
		private, err := ecdh.X25519().NewPrivateKey(k[:])
		if err != nil {
			t.Fatal(err)
		}
		public, err := ecdh.X25519().NewPublicKey(u[:])
		if err != nil {
			t.Fatal(err)
		}
		want, err := private.ECDH(public)
		if err != nil {
			t.Fatal(err)
		}
		if got := curve.Mul(k, u); got != api.Key(want) {
			t.Errorf("%x, %x: %x", k, u, got)
		}
		if got := curve.Public(k); got != api.Key(private.PublicKey().Bytes()) {
			t.Errorf("%x: %x", k, got)
		}
	}
}

func TestBothSidesAgree(t *testing.T) {
	random := rand.New(rand.NewSource(82))
	for range 50 {
		a, b := randomKey(random), randomKey(random)
		if curve.Mul(a, curve.Public(b)) != curve.Mul(b, curve.Public(a)) {
			t.Errorf("%x, %x", a, b)
		}
	}
	if a, b := (api.Key{}), (api.Key{31: 255}); curve.Mul(a, curve.Public(b)) != curve.Mul(b, curve.Public(a)) {
		t.Error("keys of zeros")
	}
}

func TestBitsThatDoNotCount(t *testing.T) {
	k, u := keyOf(t, "a546e36bf0527c9d3b16154b82465edd62144c0ac1fc5a18506a2244ba449ac4"), api.Key{9}
	want := curve.Mul(k, u)
	for _, bit := range []int{0, 1, 2, 254, 255} {
		other := k
		other[bit/8] ^= 1 << (bit % 8)
		if curve.Mul(other, u) != want {
			t.Error("bit", bit, "of the scalar counts")
		}
	}
	for _, bit := range []int{3, 253} {
		other := k
		other[bit/8] ^= 1 << (bit % 8)
		if curve.Mul(other, u) == want {
			t.Error("bit", bit, "of the scalar does not count")
		}
	}
	u[31] |= 128
	if curve.Mul(k, u) != want {
		t.Error("the last bit of the coordinate counts")
	}
}

// little is n in 32 bytes, the least significant byte first.
func little(n *big.Int) (k api.Key) {
	n.FillBytes(k[:])
	slices.Reverse(k[:])
	return k
}

func TestCoordinatesBeyondTheModulus(t *testing.T) {
	p := new(big.Int).Sub(new(big.Int).Lsh(big.NewInt(1), 255), big.NewInt(19))
	random := rand.New(rand.NewSource(83))
	for i := range int64(19) {
		k := randomKey(random)
		beyond := little(new(big.Int).Add(p, big.NewInt(i)))
		if got, want := curve.Mul(k, beyond), curve.Mul(k, little(big.NewInt(i))); got != want {
			t.Errorf("p + %d: %x, want %x", i, got, want)
		}
	}
	// -1, 0, 1 and their like have small orders: every scalar leads them to zero.
	for _, u := range []api.Key{{}, {1}, little(new(big.Int).Sub(p, big.NewInt(1))), little(p), little(new(big.Int).Add(p, big.NewInt(1)))} {
		for range 3 {
			if got := curve.Mul(randomKey(random), u); got != (api.Key{}) {
				t.Errorf("%x: %x", u, got)
			}
		}
	}
}

func BenchmarkMul(b *testing.B) {
	k := api.Key{1, 2, 3}
	for b.Loop() {
		k = curve.Mul(k, api.Key{9})
	}
}
