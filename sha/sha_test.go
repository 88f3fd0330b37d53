package sha_test

import (
	"bytes"
	"crypto/sha256"
	"encoding/hex"
	"testing"

	"courier/api"
	"courier/sha"
)

// bytesUpTo are n bytes that differ from place to place.
func bytesUpTo(n int) []byte {
	b := make([]byte, n)
	for i := range b {
		b[i] = byte(i*7 + i>>8)
	}
	return b
}

func TestSumOfKnownTexts(t *testing.T) {
	for text, want := range map[string]string{
		"":    "e3b0c44298fc1c149afbf4c8996fb92427ae41e4649b934ca495991b7852b855",
		"abc": "ba7816bf8f01cfea414140de5dae2223b00361a396177a9cb410ff61f20015ad",
		"abcdbcdecdefdefgefghfghighijhijkijkljklmklmnlmnomnopnopq":                                                         "248d6a61d20638b8e5c026930c3e6039a33ce45964ff2167f6ecedd419db06c1",
		"abcdefghbcdefghicdefghijdefghijkefghijklfghijklmghijklmnhijklmnoijklmnopjklmnopqklmnopqrlmnopqrsmnopqrstnopqrstu": "cf5b16a778af8380036ce59e7b0492370b249b11e8f07a51afac45037afee9d1",
	} {
		got := sha.Sum([]byte(text))
		if hex.EncodeToString(got[:]) != want {
			t.Errorf("Sum(%q) = %x", text, got)
		}
	}
	million := sha.Sum(bytes.Repeat([]byte("a"), 1000000))
	if hex.EncodeToString(million[:]) != "cdc76e5c9914fb9281a1c7e284d73e67f1809a48a497200e046d39ccc7112cd0" {
		t.Errorf("a million a: %x", million)
	}
}

func TestSumOfEachLength(t *testing.T) {
	all := bytesUpTo(300)
	for n := range all {
		if got := sha.Sum(all[:n]); got != sha256.Sum256(all[:n]) {
			t.Errorf("%d bytes: %x", n, got)
		}
	}
}

func TestSumOfLists(t *testing.T) {
	all := bytesUpTo(200)
	want := api.Hash(sha256.Sum256(all))
	for cut := range all {
		if got := sha.Sum(all[:cut], nil, all[cut:]); got != want {
			t.Errorf("cut at %d: %x", cut, got)
		}
	}
	if sha.Sum() != sha.Sum(nil) || sha.Sum() != sha.Sum([]byte{}, nil) {
		t.Error("the digests of nothing differ")
	}
	if !bytes.Equal(all, bytesUpTo(200)) {
		t.Error("Sum changed its argument")
	}
}

func TestWritingContinuesAfterSum(t *testing.T) {
	all := bytesUpTo(260)
	h := sha.New()
	for n := range all {
		if got := h.Sum(); got != sha256.Sum256(all[:n]) {
			t.Fatalf("after %d bytes: %x", n, got)
		}
		if h.Sum() != h.Sum() {
			t.Fatal("a second Sum differs")
		}
		h.Write(all[n : n+1])
	}
	h = sha.New()
	for n := 0; n < len(all); n += 65 {
		h.Write(all[n : n+65])
		h.Write(nil)
	}
	if h.Sum() != sha256.Sum256(all) {
		t.Error("writes of 65 bytes")
	}
}

func TestWriteKeepsNoArgument(t *testing.T) {
	b := []byte("what was written")
	h := sha.New()
	h.Write(b)
	clear(b)
	if h.Sum() != sha256.Sum256([]byte("what was written")) {
		t.Error("a change of the argument is seen")
	}
	if other := sha.New(); other.Sum() != sha256.Sum256(nil) {
		t.Error("a new Hash is not empty")
	}
}
