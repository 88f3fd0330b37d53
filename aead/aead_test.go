package aead_test

import (
	"bytes"
	"encoding/hex"
	"testing"

	"courier/aead"
	"courier/api"
)

func fromHex(t *testing.T, s string) []byte {
	t.Helper()
	b, err := hex.DecodeString(s)
	if err != nil {
		t.Fatal(err)
	}
	return b
}

func ramp(from, n int) []byte {
	b := make([]byte, n)
	for i := range b {
		b[i] = byte(from + i)
	}
	return b
}

func TestSealOfAKnownText(t *testing.T) { // RFC 8439, 2.8.2
	key := api.Key(ramp(0x80, 32))
	nonce := [12]byte(fromHex(t, "070000004041424344454647"))
	ad := fromHex(t, "50515253c0c1c2c3c4c5c6c7")
	text := []byte("Ladies and Gentlemen of the class of '99: If I could offer you only one tip for the future, sunscreen would be it.")
	want := fromHex(t, "d31a8d34648e60db7b86afbc53ef7ec2a4aded51296e08fea9e2b5a736ee62d63dbea45e8ca9671282fafb69da92728b1a71de0a9e060b2905d6a5b67ecd3b3692ddbd7f2d778b8c9803aee328091b58fab324e4fad675945585808b4831d7bc3ff4def08e4b7a9de576d26586cec64b61161ae10b594f09e26a7e902ecbd0600691")
	got := aead.Seal(key, nonce, ad, text)
	if !bytes.Equal(got, want) {
		t.Errorf("%x", got)
	}
	if back, err := aead.Open(key, nonce, ad, got); err != nil || !bytes.Equal(back, text) {
		t.Errorf("%q, %v", back, err)
	}
}

func TestOpenOfAKnownText(t *testing.T) { // RFC 8439, A.5
	key := api.Key(fromHex(t, "1c9240a5eb55d38af333888604f6b5f0473917c1402b80099dca5cbc207075c0"))
	nonce := [12]byte(fromHex(t, "000000000102030405060708"))
	ad := fromHex(t, "f33388860000000000004e91")
	sealed := fromHex(t, "64a0861575861af460f062c79be643bd5e805cfd345cf389f108670ac76c8cb24c6cfc18755d43eea09ee94e382d26b0bdb7b73c321b0100d4f03b7f355894cf332f830e710b97ce98c8a84abd0b948114ad176e008d33bd60f982b1ff37c8559797a06ef4f0ef61c186324e2b3506383606907b6a7c02b0f9f6157b53c867e4b9166c767b804d46a59b5216cde7a4e99040c5a40433225ee282a1b0a06c523eaf4534d7f83fa1155b0047718cbc546a0d072b04b3564eea1b422273f548271a0bb2316053fa76991955ebd63159434ecebb4e466dae5a1073a6727627097a1049e617d91d361094fa68f0ff77987130305beaba2eda04df997b714d6c6f2c29a6ad5cb4022b02709beead9d67890cbb22392336fea1851f38")
	text, err := aead.Open(key, nonce, ad, sealed)
	if err != nil || !bytes.HasPrefix(text, []byte("Internet-Drafts are draft documents valid for a maximum")) || len(text) != 265 {
		t.Errorf("%q, %v", text, err)
	}
}

func TestOpenOfEachLength(t *testing.T) {
	key, nonce := api.Key(ramp(1, 32)), [12]byte(ramp(7, 12))
	for n := range 70 {
		for _, m := range []int{0, 1, 15, 16, 17, 40} {
			text, ad := ramp(n, n), ramp(100, m)
			sealed := aead.Seal(key, nonce, ad, text)
			if len(sealed) != n+16 {
				t.Fatal(n, len(sealed))
			}
			back, err := aead.Open(key, nonce, ad, sealed)
			if err != nil || !bytes.Equal(back, text) {
				t.Errorf("%d bytes with %d: %x, %v", n, m, back, err)
			}
			if !bytes.Equal(text, ramp(n, n)) || !bytes.Equal(ad, ramp(100, m)) {
				t.Fatal("an argument was changed")
			}
		}
	}
}

func TestOpenOfWhatWasBent(t *testing.T) {
	key, nonce, ad, text := api.Key(ramp(1, 32)), [12]byte(ramp(7, 12)), ramp(3, 20), ramp(9, 33)
	sealed := aead.Seal(key, nonce, ad, text)
	refused := func(what string, key api.Key, nonce [12]byte, ad, b []byte) {
		t.Helper()
		if got, err := aead.Open(key, nonce, ad, b); len(got) != 0 || err != api.ErrTag {
			t.Errorf("%s: %x, %v", what, got, err)
		}
	}
	bent := func(b []byte, i int) []byte {
		b = bytes.Clone(b)
		b[i/8] ^= 1 << (i % 8)
		return b
	}
	for i := range 8 * len(sealed) {
		refused("a bit of the text", key, nonce, ad, bent(sealed, i))
	}
	for i := range 8 * len(ad) {
		refused("a bit of the additional data", key, nonce, bent(ad, i), sealed)
	}
	for i := range 8 * len(key) {
		refused("a bit of the key", api.Key(bent(key[:], i)), nonce, ad, sealed)
	}
	for i := range 8 * len(nonce) {
		refused("a bit of the nonce", key, [12]byte(bent(nonce[:], i)), ad, sealed)
	}
	refused("no additional data", key, nonce, nil, sealed)
	refused("a zero behind the additional data", key, nonce, append(ramp(3, 20), 0), sealed)
	refused("a byte behind", key, nonce, ad, append(bytes.Clone(sealed), 0))
	refused("the last byte missing", key, nonce, ad, sealed[:len(sealed)-1])
	refused("the tag alone", key, nonce, ad, sealed[len(sealed)-16:])
}

func TestOpenOfTooFewBytes(t *testing.T) {
	for n := range 16 {
		if got, err := aead.Open(api.Key{}, [12]byte{}, nil, make([]byte, n)); len(got) != 0 || err != api.ErrShort {
			t.Error(n, got, err)
		}
	}
	if _, err := aead.Open(api.Key{}, [12]byte{}, nil, nil); err != api.ErrShort {
		t.Error(err)
	}
	if _, err := aead.Open(api.Key{}, [12]byte{}, nil, make([]byte, 16)); err != api.ErrTag {
		t.Error("16 bytes:", err)
	}
}

func TestAnswersAreNewMemory(t *testing.T) {
	b := make([]byte, 5, 64)
	sealed := aead.Seal(api.Key{}, [12]byte{}, nil, b)
	back, err := aead.Open(api.Key{}, [12]byte{}, nil, sealed)
	if err != nil {
		t.Fatal(err)
	}
	kept := bytes.Clone(sealed)
	back = append(back, 1, 2, 3)
	back[0] = 9
	if !bytes.Equal(b[:64], make([]byte, 64)) || !bytes.Equal(sealed, kept) {
		t.Error("the answer shares memory with an argument")
	}
}
