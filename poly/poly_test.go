package poly_test

import (
	"bytes"
	"encoding/hex"
	"math/big"
	"math/rand"
	"slices"
	"testing"

	"courier/api"
	"courier/poly"
)

func keyOf(t *testing.T, s string) (k api.Key) {
	t.Helper()
	b, err := hex.DecodeString(s)
	if err != nil || len(b) != len(k) {
		t.Fatal(len(b), err)
	}
	copy(k[:], b)
	return k
}

func fromHex(t *testing.T, s string) []byte {
	t.Helper()
	b, err := hex.DecodeString(s)
	if err != nil {
		t.Fatal(err)
	}
	return b
}

// number reads the least significant byte first.
func number(b []byte) *big.Int {
	b = slices.Clone(b)
	slices.Reverse(b)
	return new(big.Int).SetBytes(b)
}

// model is the tag by the RFC's words, in numbers of any size.
func model(key api.Key, b []byte) (tag [16]byte) {
	p := new(big.Int).Sub(new(big.Int).Lsh(big.NewInt(1), 130), big.NewInt(5))
	r := new(big.Int).And(number(key[:16]), number([]byte{255, 255, 255, 15, 252, 255, 255, 15, 252, 255, 255, 15, 252, 255, 255, 15}))
	sum := new(big.Int)
	for c := range slices.Chunk(b, 16) {
		sum.Add(sum, number(append(slices.Clone(c), 1)))
		sum.Mul(sum, r)
		sum.Mod(sum, p)
	}
	sum.Add(sum, number(key[16:]))
	sum.And(sum, new(big.Int).Sub(new(big.Int).Lsh(big.NewInt(1), 128), big.NewInt(1)))
	sum.FillBytes(tag[:])
	slices.Reverse(tag[:])
	return tag
}

func TestSumOfKnownTexts(t *testing.T) { // RFC 8439, 2.5.2 and A.3
	const zeros, ones = "00000000000000000000000000000000", "ffffffffffffffffffffffffffffffff"
	const two = "02000000000000000000000000000000"
	for _, c := range []struct{ key, text, want string }{
		{"85d6be7857556d337f4452fe42d506a80103808afb0db2fd4abff6af4149f51b", hex.EncodeToString([]byte("Cryptographic Forum Research Group")), "a8061dc1305136c6c22b8baf0c0127a9"},
		{zeros + zeros, zeros + zeros + zeros + zeros, zeros},
		{two + zeros, ones, "03000000000000000000000000000000"},
		{two + ones, two, "03000000000000000000000000000000"},
		{"01000000000000000000000000000000" + zeros, ones + "f0ffffffffffffffffffffffffffffff" + "11000000000000000000000000000000", "05000000000000000000000000000000"},
		{"01000000000000000000000000000000" + zeros, ones + "fbfefefefefefefefefefefefefefefe" + "01010101010101010101010101010101", zeros},
		{two + zeros, "fdffffffffffffffffffffffffffffff", "faffffffffffffffffffffffffffffff"},
		{"01000000000000000400000000000000" + zeros, "e33594d7505e43b900000000000000003394d7505e4379cd01000000000000000000000000000000000000000000000001000000000000000000000000000000", "14000000000000005500000000000000"},
		{"01000000000000000400000000000000" + zeros, "e33594d7505e43b900000000000000003394d7505e4379cd010000000000000000000000000000000000000000000000", "13000000000000000000000000000000"},
	} {
		key, text := keyOf(t, c.key), fromHex(t, c.text)
		if got := poly.Sum(key, text); hex.EncodeToString(got[:]) != c.want {
			t.Errorf("%s, %s: %x", c.key, c.text, got)
		}
		if got := model(key, text); hex.EncodeToString(got[:]) != c.want {
			t.Errorf("the model of %s, %s: %x", c.key, c.text, got)
		}
	}
}

func TestSumAsTheModel(t *testing.T) {
	random := rand.New(rand.NewSource(1))
	for n := range 400 {
		var key api.Key
		random.Read(key[:])
		text := make([]byte, n%90)
		random.Read(text)
		switch n % 5 {
		case 1: // the greatest limbs
			for i := range text {
				text[i] = 255
			}
			for i := range 16 {
				key[i] = 255
			}
		case 2:
			for i := range key {
				key[i] = 255
			}
		}
		before := bytes.Clone(text)
		if got, want := poly.Sum(key, text), model(key, text); got != want {
			t.Errorf("%x, %x: %x, want %x", key, text, got, want)
		}
		if !bytes.Equal(text, before) {
			t.Fatal("Sum changed its argument")
		}
	}
}

func TestSumNearTheModulus(t *testing.T) {
	// With the factor 1 the sum of the blocks itself is reduced: here it goes from below 2^130 - 5 to above 2^130.
	key := api.Key{0: 1}
	for last := range 256 {
		text := bytes.Repeat([]byte{255}, 32)
		text[16] = byte(last)
		text = append(text, make([]byte, 15)...)
		text = append(text, byte(last))
		if got, want := poly.Sum(key, text), model(key, text); got != want {
			t.Errorf("%d: %x, want %x", last, got, want)
		}
		text = append(bytes.Repeat([]byte{255}, 16), byte(last))
		text = append(text, bytes.Repeat([]byte{255}, 15)...)
		text = append(text, byte(last/4))
		if got, want := poly.Sum(key, text), model(key, text); got != want {
			t.Errorf("%d: %x, want %x", last, got, want)
		}
	}
}

func TestSumOfNothing(t *testing.T) {
	key := keyOf(t, "85d6be7857556d337f4452fe42d506a80103808afb0db2fd4abff6af4149f51b")
	for _, b := range [][]byte{nil, {}} {
		if got := poly.Sum(key, b); !bytes.Equal(got[:], key[16:]) {
			t.Errorf("%x", got)
		}
	}
}
