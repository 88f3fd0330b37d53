package mac_test

import (
	"bytes"
	"crypto/hkdf"
	"crypto/hmac"
	"crypto/sha256"
	"encoding/hex"
	"math"
	"testing"

	"courier/api"
	"courier/mac"
)

func fromHex(t *testing.T, s string) []byte {
	t.Helper()
	b, err := hex.DecodeString(s)
	if err != nil {
		t.Fatal(err)
	}
	return b
}

func ramp(from, n int) []byte {
	b := make([]byte, n)
	for i := range b {
		b[i] = byte(from + i)
	}
	return b
}

func TestSumOfKnownTexts(t *testing.T) { // RFC 4231
	for _, c := range []struct {
		key, text []byte
		want      string
	}{
		{bytes.Repeat([]byte{0x0b}, 20), []byte("Hi There"), "b0344c61d8db38535ca8afceaf0bf12b881dc200c9833da726e9376c2e32cff7"},
		{[]byte("Jefe"), []byte("what do ya want for nothing?"), "5bdcc146bf60754e6a042426089575c75a003f089d2739839dec58b964ec3843"},
		{bytes.Repeat([]byte{0xaa}, 131), []byte("Test Using Larger Than Block-Size Key - Hash Key First"), "60e431591ee0b67f0d8a26aacbf5b77f8e0bc6213728c5140546040f0ee37f54"},
	} {
		got := mac.Sum(c.key, c.text)
		if hex.EncodeToString(got[:]) != c.want {
			t.Errorf("%q: %x", c.text, got)
		}
	}
}

func TestSumOfEachKeyLength(t *testing.T) {
	text := ramp(3, 100)
	for n := range 140 {
		key := ramp(1, n)
		h := hmac.New(sha256.New, key)
		h.Write(text)
		want := h.Sum(nil)
		if got := mac.Sum(key, text[:40], nil, text[40:]); !bytes.Equal(got[:], want) {
			t.Errorf("a key of %d bytes: %x", n, got)
		}
		if !bytes.Equal(key, ramp(1, n)) || !bytes.Equal(text, ramp(3, 100)) {
			t.Fatal("Sum changed an argument")
		}
	}
	if mac.Sum(nil) != mac.Sum([]byte{}, nil) {
		t.Error("nil and empty differ")
	}
}

func TestDeriveOfKnownKeys(t *testing.T) { // RFC 5869, A.1 to A.3
	for _, c := range []struct {
		salt, key, info []byte
		n               int
		want            string
	}{
		{ramp(0, 13), bytes.Repeat([]byte{0x0b}, 22), ramp(0xf0, 10), 42,
			"3cb25f25faacd57a90434f64d0362f2a2d2d0a90cf1a5a4c5db02d56ecc4c5bf34007208d5b887185865"},
		{ramp(0x60, 80), ramp(0, 80), ramp(0xb0, 80), 82,
			"b11e398dc80327a1c8e7f78c596a49344f012eda2d4efad8a050cc4c19afa97c59045a99cac7827271cb41c65e590e09da3275600c2f09b8367793a9aca3db71cc30c58179ec3e87c14c01d5c1f3434f1d87"},
		{nil, bytes.Repeat([]byte{0x0b}, 22), nil, 42,
			"8da4e775a563c18f715f802a063c5a31b8a11f5c5ee1879ec3454e5f3c738d2d9d201395faa4b61a96c8"},
	} {
		got, err := mac.Derive(c.salt, c.key, c.info, c.n)
		if err != nil || !bytes.Equal(got, fromHex(t, c.want)) {
			t.Errorf("%x, %v", got, err)
		}
	}
}

func TestDeriveOfEachLength(t *testing.T) {
	salt, key, info := ramp(9, 32), ramp(50, 32), []byte("info")
	want, err := hkdf.Key(sha256.New, key, salt, string(info), 8160)
	if err != nil {
		t.Fatal(err)
	}
	for _, n := range []int{0, 1, 31, 32, 33, 63, 64, 65, 8159, 8160} {
		got, err := mac.Derive(salt, key, info, n)
		if err != nil || !bytes.Equal(got, want[:n]) {
			t.Errorf("%d bytes: %x, %v", n, got, err)
		}
	}
	for _, n := range []int{-1, 8161, math.MinInt, math.MaxInt} {
		if got, err := mac.Derive(salt, key, info, n); len(got) != 0 || err != api.ErrRange {
			t.Errorf("%d bytes: %d, %v", n, len(got), err)
		}
	}
	zeros, _ := mac.Derive(make([]byte, 32), key, info, 50)
	none, _ := mac.Derive(nil, key, info, 50)
	empty, _ := mac.Derive([]byte{}, key, info, 50)
	if !bytes.Equal(zeros, none) || !bytes.Equal(zeros, empty) {
		t.Error("an empty salt is not 32 zeros")
	}
	if !bytes.Equal(salt, ramp(9, 32)) || !bytes.Equal(key, ramp(50, 32)) || string(info) != "info" {
		t.Error("Derive changed an argument")
	}
}

func TestEqual(t *testing.T) {
	for _, c := range []struct {
		a, b []byte
		want bool
	}{
		{nil, nil, true},
		{nil, []byte{}, true},
		{nil, []byte{0}, false},
		{[]byte{1, 2, 3}, []byte{1, 2, 3}, true},
		{[]byte{1, 2, 3}, []byte{1, 2}, false},
		{[]byte{1, 2}, []byte{1, 2, 3}, false},
		{[]byte{0, 0, 0}, []byte{0, 0, 0, 0}, false},
		{[]byte{1, 3}, []byte{3, 1}, false},
	} {
		if mac.Equal(c.a, c.b) != c.want {
			t.Error(c.a, c.b)
		}
	}
	a := ramp(0, 40)
	for i := range a {
		for bit := range 8 {
			b := bytes.Clone(a)
			b[i] ^= 1 << bit
			if mac.Equal(a, b) {
				t.Error("byte", i, "bit", bit)
			}
		}
	}
}

func TestWipe(t *testing.T) {
	b := ramp(1, 20)
	mac.Wipe(b[5:15])
	for i, x := range b {
		if within := i >= 5 && i < 15; within != (x == 0) {
			t.Error(i, x)
		}
	}
	mac.Wipe(nil)
}
