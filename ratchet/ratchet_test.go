package ratchet_test

import (
	"bytes"
	"math"
	"math/rand"
	"strconv"
	"testing"

	"courier/aead"
	"courier/api"
	"courier/chain"
	"courier/curve"
	"courier/head"
	"courier/ratchet"
)

func keyOf(from byte) (k api.Key) {
	for i := range k {
		k[i] = from + byte(i)
	}
	return k
}

var (
	secret = keyOf(10)
	seedA  = keyOf(50)
	seedB  = keyOf(90)
)

// public is the public key that a seed draws as its n-th.
func public(seed api.Key, n uint32) api.Key { return curve.Public(chain.Draw(seed, n)) }

// pair are two sides that know each other.
func pair() (*ratchet.Ratchet, *ratchet.Ratchet) {
	return ratchet.First(secret, seedA, public(seedB, 0)), ratchet.Second(secret, seedB)
}

// seal is a packet by the words of the chapter.
func seal(key api.Key, h api.Header, text string) []byte {
	b := head.Bytes(h)
	return append(bytes.Clone(b), aead.Seal(key, [12]byte{}, b, []byte(text))...)
}

// keys are the message keys of a chain, from number 0 on.
func keys(first api.Key, n int) (l []api.Key) {
	for range n {
		var key api.Key
		first, key = chain.Step(first)
		l = append(l, key)
	}
	return l
}

func send(t *testing.T, r *ratchet.Ratchet, text string) []byte {
	t.Helper()
	p, err := r.Seal([]byte(text))
	if err != nil {
		t.Fatal("Seal:", err)
	}
	return p
}

func sendAll(t *testing.T, r *ratchet.Ratchet, n int) (l [][]byte) {
	t.Helper()
	for i := range n {
		l = append(l, send(t, r, "m"+strconv.Itoa(i)))
	}
	return l
}

func opens(t *testing.T, r *ratchet.Ratchet, p []byte, want string) {
	t.Helper()
	before := bytes.Clone(p)
	got, err := r.Open(p)
	if err != nil || string(got) != want {
		t.Errorf("Open: %q, %v, want %q", got, err, want)
	}
	if !bytes.Equal(p, before) {
		t.Error("Open changed the packet")
	}
}

// refuses wants that error, and a ratchet that remains as it was.
func refuses(t *testing.T, r *ratchet.Ratchet, p []byte, want error) {
	t.Helper()
	before := r.Bytes()
	got, err := r.Open(p)
	at, ok := err.(*api.At)
	if err != want && !(ok && at.Err == want) || len(got) != 0 {
		t.Errorf("Open: %q, %v, want %v", got, err, want)
	}
	if !bytes.Equal(r.Bytes(), before) {
		t.Errorf("Open with %v changed the ratchet", err)
	}
}

func keeps(t *testing.T, r *ratchet.Ratchet, want int) {
	t.Helper()
	if r.Kept() != want {
		t.Errorf("%d keys are kept, want %d", r.Kept(), want)
	}
}

func TestMessagesByTheWords(t *testing.T) {
	a, b := pair()
	if !a.Ready() || b.Ready() {
		t.Error("Ready", a.Ready(), b.Ready())
	}
	if p, err := b.Seal(nil); err != api.ErrKey || len(p) != 0 {
		t.Error("Seal of the second side:", p, err)
	}
	// The first side sends by its first own key.
	root, first := chain.Root(secret, curve.Mul(chain.Draw(seedA, 0), public(seedB, 0)))
	sending := keys(first, 3)
	for i := range 2 {
		want := seal(sending[i], api.Header{DH: public(seedA, 0), N: uint32(i)}, "text")
		if got := send(t, a, "text"); !bytes.Equal(got, want) {
			t.Errorf("message %d: %x, want %x", i, got, want)
		}
	}
	opens(t, b, seal(sending[0], api.Header{DH: public(seedA, 0)}, "one"), "one")
	opens(t, b, seal(sending[1], api.Header{DH: public(seedA, 0), N: 1}, ""), "")
	if !b.Ready() {
		t.Error("the second side has received, and is not Ready")
	}
	// The second side answers by its second own key.
	root, first = chain.Root(root, curve.Mul(chain.Draw(seedB, 1), public(seedA, 0)))
	answering := keys(first, 2)
	for i := range 2 {
		want := seal(answering[i], api.Header{DH: public(seedB, 1), N: uint32(i)}, "answer")
		if got := send(t, b, "answer"); !bytes.Equal(got, want) {
			t.Errorf("answer %d: %x, want %x", i, got, want)
		}
		opens(t, a, want, "answer")
	}
	// The first side goes on by its second own key, and tells how many it sent by the first one.
	_, first = chain.Root(root, curve.Mul(chain.Draw(seedA, 1), public(seedB, 1)))
	want := seal(keys(first, 1)[0], api.Header{DH: public(seedA, 1), PN: 2}, "next")
	if got := send(t, a, "next"); !bytes.Equal(got, want) {
		t.Errorf("the next chain: %x, want %x", got, want)
	}
	opens(t, b, want, "next")
	keeps(t, a, 0)
	keeps(t, b, 0)
}

func TestSealLimit(t *testing.T) {
	a, b := pair()
	state := a.Bytes()
	copy(state[offSent:], []byte{254, 255, 255, 255})
	a = read(t, state)
	p := send(t, a, "last")
	if h, err := head.Read(p[:40]); err != nil || h.N != math.MaxUint32-1 {
		t.Error(h, err)
	}
	before := a.Bytes()
	if p, err := a.Seal(nil); err != api.ErrLimit || len(p) != 0 {
		t.Error(p, err)
	}
	if !bytes.Equal(a.Bytes(), before) || !a.Ready() {
		t.Error("a Seal that failed changed the ratchet")
	}
	refuses(t, b, p, api.ErrGap)
	state = b.Bytes() // without a sending chain ErrKey comes first
	copy(state[offSent:], []byte{255, 255, 255, 255})
	if _, err := read(t, state).Seal(nil); err != api.ErrKey {
		t.Error(err)
	}
}

func TestSealSharesNothing(t *testing.T) {
	a, b := pair()
	text := []byte("text")
	p, _ := a.Seal(text)
	text = append(text, 'x')
	if !bytes.Equal(text, []byte("textx")) {
		t.Error("Seal changed its argument")
	}
	got, err := b.Open(append(p, 9, 9)[:len(p)])
	if err != nil || string(got) != "text" {
		t.Error(got, err)
	}
}

func TestMessagesInAnyOrder(t *testing.T) {
	a, b := pair()
	l := sendAll(t, a, 6)
	opens(t, b, l[3], "m3")
	keeps(t, b, 3)
	opens(t, b, l[1], "m1")
	keeps(t, b, 2)
	refuses(t, b, l[1], api.ErrOld)
	refuses(t, b, l[3], api.ErrOld)
	opens(t, b, l[5], "m5")
	keeps(t, b, 3)
	for _, i := range []int{0, 4, 2} {
		opens(t, b, l[i], "m"+strconv.Itoa(i))
	}
	keeps(t, b, 0)
	for _, p := range l {
		refuses(t, b, p, api.ErrOld)
	}
}

func TestGapWithinAChain(t *testing.T) {
	a, b := pair()
	l := sendAll(t, a, 50)
	opens(t, b, l[2], "m2")
	refuses(t, b, l[2+1+api.MaxSkip+1], api.ErrGap)
	opens(t, b, l[2+1+api.MaxSkip], "m23")
	keeps(t, b, 2+api.MaxSkip)
}

func TestGapAtTheBeginningOfAChain(t *testing.T) {
	a, b := pair()
	l := sendAll(t, a, 25)
	refuses(t, b, l[api.MaxSkip+1], api.ErrGap)
	opens(t, b, l[api.MaxSkip], "m20")
	keeps(t, b, api.MaxSkip)
	for i := range api.MaxSkip {
		opens(t, b, l[i], "m"+strconv.Itoa(i))
	}
	keeps(t, b, 0)
}

// turned is a pair whose second side has received one of n messages of the chain that has ended since; the last packet is the first one of the next chain.
func turned(t *testing.T, n int) (b *ratchet.Ratchet, old [][]byte, next [][]byte) {
	t.Helper()
	a, b := pair()
	old = sendAll(t, a, n)
	opens(t, b, old[0], "m0")
	opens(t, a, send(t, b, "answer"), "answer")
	return b, old, sendAll(t, a, 30)
}

func TestGapAtTheEndOfAChain(t *testing.T) {
	b, old, next := turned(t, 1+api.MaxSkip+1)
	refuses(t, b, next[0], api.ErrGap)
	refuses(t, b, next[api.MaxSkip+1], api.ErrGap)
	opens(t, b, old[1], "m1")
	opens(t, b, next[0], "m0")
	keeps(t, b, api.MaxSkip)
	for i := 2; i < len(old); i++ {
		opens(t, b, old[i], "m"+strconv.Itoa(i))
	}
	refuses(t, b, next[0], api.ErrOld)
	opens(t, b, next[1], "m1")

	b, old, next = turned(t, 1+api.MaxSkip)
	refuses(t, b, next[api.MaxSkip+1], api.ErrGap)
	opens(t, b, next[api.MaxSkip], "m20")
	keeps(t, b, 2*api.MaxSkip)
	for i := 1; i < len(old); i++ {
		opens(t, b, old[i], "m"+strconv.Itoa(i))
		opens(t, b, next[i-1], "m"+strconv.Itoa(i-1))
	}
	keeps(t, b, 0)
}

func TestMostKept(t *testing.T) {
	b, old, next := turned(t, 1+api.MaxSkip)
	opens(t, b, next[api.MaxSkip], "m20")
	keeps(t, b, api.MaxKept)
	opens(t, b, next[api.MaxSkip+3], "m23") // two more are kept, and the two oldest go
	keeps(t, b, api.MaxKept)
	// The chain of old has ended for b: without their keys these seem to begin yet another one.
	for _, p := range old[1:3] {
		refuses(t, b, p, api.ErrTag)
	}
	opens(t, b, old[3], "m3")
	opens(t, b, next[0], "m0")
	keeps(t, b, api.MaxKept-2)
}

func TestOpenWithoutAReceivingChain(t *testing.T) {
	a, _ := pair()
	refuses(t, a, seal(api.Key{}, api.Header{DH: public(seedB, 0)}, "text"), api.ErrKey)
	refuses(t, a, seal(api.Key{}, api.Header{DH: public(seedB, 0), N: math.MaxUint32}, "text"), api.ErrKey)
	_, b := pair()
	// No key of the other side is not a key of zeros.
	refuses(t, b, seal(api.Key{}, api.Header{}, "text"), api.ErrTag)
	refuses(t, b, seal(api.Key{}, api.Header{N: api.MaxSkip + 1}, "text"), api.ErrGap)
	refuses(t, b, seal(api.Key{}, api.Header{PN: math.MaxUint32}, "text"), api.ErrTag)
}

func TestWhatIsNoMessage(t *testing.T) {
	a, b := pair()
	l := sendAll(t, a, 3)
	for n := range 56 {
		refuses(t, b, l[0][:n], api.ErrShort)
	}
	refuses(t, b, nil, api.ErrShort)
	opens(t, b, l[2], "m2")
	for n := range 56 {
		refuses(t, b, l[1][:n], api.ErrShort) // with a kept key
	}
	fresh := send(t, a, "fresh")
	for _, p := range [][]byte{l[1], fresh} {
		for i := range p {
			bent := bytes.Clone(p)
			bent[i] ^= 1
			before := b.Bytes()
			if got, err := b.Open(bent); err == nil || len(got) != 0 {
				t.Errorf("byte %d: %q", i, got)
			}
			if !bytes.Equal(b.Bytes(), before) {
				t.Error("byte", i, "changed the ratchet")
			}
		}
		refuses(t, b, append(bytes.Clone(p), 0), api.ErrTag)
	}
	opens(t, b, l[1], "m1")
	opens(t, b, fresh, "fresh")
	refuses(t, b, l[0][:39], api.ErrShort)
	// What is wrong with the number comes ahead of what is wrong with the rest.
	refuses(t, b, l[2][:40], api.ErrOld)
}

func TestPreviousChainShorterThanReceived(t *testing.T) {
	a, b := pair()
	for _, p := range sendAll(t, a, 3) {
		if _, err := b.Open(p); err != nil {
			t.Fatal(err)
		}
	}
	opens(t, a, send(t, b, "answer"), "answer")
	state := a.Bytes()
	copy(state[offPrevious:], []byte{1, 0, 0, 0})
	p := send(t, read(t, state), "text")
	opens(t, b, p, "text")
	keeps(t, b, 0)
}

func TestGreatestNumber(t *testing.T) {
	a, b := pair()
	opens(t, b, send(t, a, "one"), "one")
	state := b.Bytes()
	copy(state[offReceived:], []byte{255, 255, 255, 255})
	b = read(t, state)
	first := api.Key(state[offReceiving : offReceiving+32])
	h := api.Header{DH: public(seedA, 0), N: math.MaxUint32}
	p := seal(keys(first, 1)[0], h, "last")
	opens(t, b, p, "last")
}

// TestConversation lets two sides talk over a net that loses, doubles and bends; each text comes at most once, and as it was sent.
func TestConversation(t *testing.T) {
	random := rand.New(rand.NewSource(15))
	a, b := pair()
	sides := [2]*ratchet.Ratchet{a, b}
	type packet struct {
		bytes []byte
		text  string
	}
	var net [2][]packet
	come := map[string]bool{}
	for n := range 1500 {
		s := random.Intn(2)
		switch k := random.Intn(10); {
		case k < 4:
			if p, err := sides[s].Seal([]byte(strconv.Itoa(n))); err == nil {
				net[1-s] = append(net[1-s], packet{p, strconv.Itoa(n)})
			}
		case k < 9 && len(net[s]) > 0:
			i := random.Intn(min(len(net[s]), 4))
			p := net[s][i]
			if k < 8 {
				net[s] = append(net[s][:i:i], net[s][i+1:]...)
			}
			got, err := sides[s].Open(p.bytes)
			if err == nil && (string(got) != p.text || come[p.text]) {
				t.Fatalf("%q for %q, %v", got, p.text, come[p.text])
			}
			if err != nil && !come[p.text] {
				t.Fatalf("%q was refused: %v", p.text, err)
			}
			come[p.text] = true
		case len(net[s]) > 0:
			bent := bytes.Clone(net[s][0].bytes)
			bent[random.Intn(len(bent))] ^= 1 << random.Intn(8)
			if _, err := sides[s].Open(bent); err == nil {
				t.Fatal("a bent packet was opened")
			}
		}
		if random.Intn(5) == 0 {
			sides[s] = read(t, sides[s].Bytes())
		}
	}
	if len(come) < 200 {
		t.Error("only", len(come), "texts came")
	}
}
