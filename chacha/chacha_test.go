package chacha_test

import (
	"bytes"
	"encoding/hex"
	"math"
	"testing"

	"courier/api"
	"courier/chacha"
)

func fromHex(t *testing.T, s string) []byte {
	t.Helper()
	b, err := hex.DecodeString(s)
	if err != nil {
		t.Fatal(err)
	}
	return b
}

func rampKey() (k api.Key) {
	for i := range k {
		k[i] = byte(i)
	}
	return k
}

func TestBlockOfKnownKeys(t *testing.T) { // RFC 8439, 2.3.2 and A.1
	var zero, one, ff api.Key
	one[31], ff[1] = 1, 0xff
	for _, c := range []struct {
		key     api.Key
		counter uint32
		nonce   [12]byte
		want    string
	}{
		{rampKey(), 1, [12]byte{3: 9, 7: 0x4a},
			"10f1e7e4d13b5915500fdd1fa32071c4c7d1f4c733c068030422aa9ac3d46c4ed2826446079faa0914c2d705d98b02a2b5129cd1de164eb9cbd083e8a2503c4e"},
		{zero, 0, [12]byte{},
			"76b8e0ada0f13d90405d6ae55386bd28bdd219b8a08ded1aa836efcc8b770dc7da41597c5157488d7724e03fb8d84a376a43b8f41518a11cc387b669b2ee6586"},
		{zero, 1, [12]byte{},
			"9f07e7be5551387a98ba977c732d080dcb0f29a048e3656912c6533e32ee7aed29b721769ce64e43d57133b074d839d531ed1f28510afb45ace10a1f4b794d6f"},
		{one, 1, [12]byte{},
			"3aeb5224ecf849929b9d828db1ced4dd832025e8018b8160b82284f3c949aa5a8eca00bbb4a73bdad192b5c42f73f2fd4e273644c8b36125a64addeb006c13a0"},
		{ff, 2, [12]byte{},
			"72d54dfbf12ec44b362692df94137f328fea8da73990265ec1bbbea1ae9af0ca13b25aa26cb4a648cb9b9d1be65b2c0924a66c54d545ec1b7374f4872e99f096"},
		{zero, 0, [12]byte{11: 2},
			"c2c64d378cd536374ae204b9ef933fcd1a8b2288b3dfa49672ab765b54ee27c78a970e0e955c14f3a88e741b97c286f75f8fc299e8148362fa198a39531bed6d"},
	} {
		if got := chacha.Block(c.key, c.counter, c.nonce); !bytes.Equal(got[:], fromHex(t, c.want)) {
			t.Errorf("counter %d: %x", c.counter, got)
		}
	}
}

func TestXOROfAKnownText(t *testing.T) { // RFC 8439, 2.4.2
	text := []byte("Ladies and Gentlemen of the class of '99: If I could offer you only one tip for the future, sunscreen would be it.")
	before := bytes.Clone(text)
	want := fromHex(t, "6e2e359a2568f98041ba0728dd0d6981e97e7aec1d4360c20a27afccfd9fae0bf91b65c5524733ab8f593dabcd62b3571639d624e65152ab8f530c359f0861d807ca0dbf500d6a6156a38e088a22b65e52bc514d16ccf806818ce91ab77937365af90bbf74a35be6b40b8eedf2785e42874d")
	nonce := [12]byte{7: 0x4a}
	got := chacha.XOR(rampKey(), 1, nonce, text)
	if !bytes.Equal(got, want) {
		t.Errorf("%x", got)
	}
	if !bytes.Equal(chacha.XOR(rampKey(), 1, nonce, got), text) || !bytes.Equal(text, before) {
		t.Error("XOR of the XOR is another text, or the text was changed")
	}
}

func TestXORIsOfTheBlocks(t *testing.T) {
	key, nonce := rampKey(), [12]byte{1, 2, 3, 4, 5, 6, 7, 8, 9, 10, 11, 12}
	for _, counter := range []uint32{0, 1, 77, math.MaxUint32, math.MaxUint32 - 1} {
		var stream []byte
		for i := range uint32(4) {
			block := chacha.Block(key, counter+i, nonce)
			stream = append(stream, block[:]...)
		}
		for n := range stream {
			b := bytes.Repeat([]byte{0xa5}, n)
			got := chacha.XOR(key, counter, nonce, b)
			if len(got) != n {
				t.Fatal(n, len(got))
			}
			for i := range got {
				if got[i] != stream[i]^0xa5 {
					t.Fatal("counter", counter, "byte", i, "of", n)
				}
			}
		}
	}
	if len(chacha.XOR(key, 0, nonce, nil)) != 0 || len(chacha.XOR(key, 0, nonce, []byte{})) != 0 {
		t.Error("XOR of nothing")
	}
}

func TestXORIsNewMemory(t *testing.T) {
	b := make([]byte, 3, 10)
	got := chacha.XOR(rampKey(), 0, [12]byte{}, b)
	got = append(got, 9, 9, 9)
	got[0] ^= 1
	if !bytes.Equal(b[:10], make([]byte, 10)) {
		t.Error("the answer shares memory with the argument")
	}
}
