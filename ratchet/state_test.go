package ratchet_test

import (
	"bytes"
	"errors"
	"testing"

	"courier/api"
	"courier/chain"
	"courier/curve"
	"courier/ratchet"
)

// Where the parts of the encoding lie.
const (
	offDrawn     = 32
	offOwn       = 36
	offOther     = 68
	offRoot      = 101
	offSending   = 133
	offReceiving = 166 + 1
	offSent      = 199
	offReceived  = 203
	offPrevious  = 207
	offKept      = 211
)

func read(t *testing.T, b []byte) *ratchet.Ratchet {
	t.Helper()
	r, err := ratchet.Read(b)
	if err != nil || r == nil {
		t.Fatal("Read:", err)
	}
	if got := r.Bytes(); !bytes.Equal(got, b) {
		t.Fatalf("what was read is encoded as %x, not as %x", got, b)
	}
	return r
}

func word(n byte) []byte { return []byte{n, 0, 0, 0} }

func join(l ...[]byte) []byte { return bytes.Join(l, nil) }

func TestBytesOfTheFirstSide(t *testing.T) {
	other, zero := public(seedB, 0), api.Key{}
	own := chain.Draw(seedA, 0)
	root, sending := chain.Root(secret, curve.Mul(own, other))
	next, _ := chain.Step(sending)
	a, _ := pair()
	send(t, a, "one")
	want := join(seedA[:], word(1), own[:], []byte{1}, other[:], root[:], []byte{1}, next[:], []byte{0}, zero[:], word(1), word(0), word(0), []byte{0})
	if got := a.Bytes(); !bytes.Equal(got, want) {
		t.Errorf("%x, want %x", got, want)
	}
}

func TestBytesOfTheSecondSide(t *testing.T) {
	zero := make([]byte, 33)
	own := chain.Draw(seedB, 0)
	a, b := pair()
	want := join(seedB[:], word(1), own[:], zero, secret[:], zero, zero, word(0), word(0), word(0), []byte{0})
	if got := b.Bytes(); !bytes.Equal(got, want) {
		t.Errorf("%x, want %x", got, want)
	}
	l := sendAll(t, a, 4)
	opens(t, b, l[2], "m2")
	send(t, b, "one")
	other, second := public(seedA, 0), chain.Draw(seedB, 1)
	root, first := chain.Root(secret, curve.Mul(own, other))
	root, answering := chain.Root(root, curve.Mul(second, other))
	passed := keys(first, 3)
	receiving := first
	for range 3 {
		receiving, _ = chain.Step(receiving)
	}
	next, _ := chain.Step(answering)
	want = join(seedB[:], word(2), second[:], []byte{1}, other[:], root[:], []byte{1}, next[:], []byte{1}, receiving[:], word(1), word(3), word(0),
		[]byte{2}, other[:], word(0), passed[0][:], other[:], word(1), passed[1][:])
	if got := b.Bytes(); !bytes.Equal(got, want) {
		t.Errorf("%x, want %x", got, want)
	}
	// What is read goes on where the other one was.
	again := read(t, want)
	keeps(t, again, 2)
	for _, i := range []int{0, 3, 1} {
		text, err := again.Open(l[i])
		same, sameErr := b.Open(l[i])
		if err != nil || sameErr != nil || !bytes.Equal(text, same) {
			t.Error(i, err, sameErr)
		}
	}
	if !bytes.Equal(again.Bytes(), b.Bytes()) || !bytes.Equal(send(t, again, "x"), send(t, b, "x")) {
		t.Error("what was read goes on otherwise")
	}
}

func TestBytesAreNewMemory(t *testing.T) {
	a, _ := pair()
	b := a.Bytes()
	before := bytes.Clone(b)
	_ = append(b, 1)
	clear(b)
	if !bytes.Equal(a.Bytes(), before) {
		t.Error("the encoding is shared")
	}
	r, _ := ratchet.Read(before)
	kept := bytes.Clone(before)
	clear(before)
	if !bytes.Equal(r.Bytes(), kept) {
		t.Error("the argument is kept")
	}
}

// full is the encoding of a ratchet with that many kept keys.
func full(n int) []byte {
	_, b := pair()
	state := b.Bytes()
	state[offKept] = byte(n)
	for i := range n {
		dh, key := keyOf(byte(i)), keyOf(byte(2*i))
		state = join(state, dh[:], word(byte(i)), key[:])
	}
	return state
}

func readFails(t *testing.T, b []byte, pos int, want error) {
	t.Helper()
	r, err := ratchet.Read(b)
	at, ok := err.(*api.At)
	if r != nil || !ok || at.Pos != pos || at.Err != want {
		t.Errorf("%d bytes: %v, want %v around %d", len(b), err, want, pos)
	}
}

func TestReadOfWrongBytes(t *testing.T) {
	whole := full(2)
	places := []int{0, offDrawn, offOwn, offOther, offOther + 1, offRoot, offSending, offSending + 1, offReceiving - 1, offReceiving, offSent, offReceived, offPrevious, offKept,
		offKept + 1, offKept + 33, offKept + 37, offKept + 69, offKept + 101, offKept + 105, len(whole)}
	for i, from := range places[:len(places)-1] {
		for n := from; n < places[i+1]; n++ {
			readFails(t, whole[:n], from, api.ErrShort)
		}
	}
	readFails(t, append(whole, 0), len(whole), api.ErrTrail)
	for _, at := range []int{offOther, offSending, offReceiving - 1} {
		b := full(0)
		b[at] = 2
		readFails(t, b, at, api.ErrForm)
	}
	for _, n := range []int{api.MaxKept + 1, 255} {
		if r, err := ratchet.Read(full(n)); r != nil || !errors.Is(err, api.ErrRange) {
			t.Error(n, "kept keys:", err)
		}
	}
	keeps(t, read(t, full(api.MaxKept)), api.MaxKept)
}

func TestReadIgnoresAbsentKeys(t *testing.T) {
	plain := full(0)
	for _, at := range []int{offOther, offSending, offReceiving - 1} {
		b := bytes.Clone(plain)
		for i := range 32 {
			b[at+1+i] = 7
		}
		r, err := ratchet.Read(b)
		if err != nil || !bytes.Equal(r.Bytes(), plain) || r.Ready() {
			t.Error(at, err)
		}
		b[at] = 1
		if got := read(t, b).Ready(); got != (at == offSending) {
			t.Error("Ready with a key at", at, got)
		}
	}
}

func TestReadPutsKeptKeysOneByOne(t *testing.T) {
	b := full(3)
	entry := b[offKept+1 : offKept+1+68]
	twice := join(b, entry)
	twice[offKept] = 4
	r, err := ratchet.Read(twice)
	if err != nil {
		t.Fatal(err)
	}
	want := join(b[:offKept+1], b[offKept+1+68:], entry)
	if r.Kept() != 3 || !bytes.Equal(r.Bytes(), want) {
		t.Error("an entry that is there twice:", r.Kept())
	}
}
