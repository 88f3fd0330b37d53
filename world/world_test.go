package world_test

import (
	"bytes"
	"math"
	"slices"
	"strings"
	"testing"

	"courier/api"
	"courier/chain"
	"courier/client"
	"courier/curve"
	"courier/disk"
	"courier/world"
)

var (
	secret = api.Key{1, 1}
	seedA  = api.Key{2, 2}
	seedB  = api.Key{3, 3}
	fileK  = api.Key{4, 4}
)

const (
	quota = api.MaxBlob
	life  = 1000
)

func ramp(n int) []byte {
	b := make([]byte, n)
	for i := range b {
		b[i] = byte(i%249 + 1)
	}
	return b
}

func create(t *testing.T) *world.World {
	t.Helper()
	w, err := world.New(secret, seedA, seedB, 200, quota, life)
	if err != nil || w == nil {
		t.Fatal(err)
	}
	return w
}

func do(t *testing.T, w *world.World, l ...api.Step) {
	t.Helper()
	for _, s := range l {
		if err := w.Do(s); err != nil {
			t.Fatal(s.Kind, s.S, err)
		}
	}
}

func fails(t *testing.T, w *world.World, want error, l ...api.Step) {
	t.Helper()
	for _, s := range l {
		err := w.Do(s)
		at, ok := err.(*api.At)
		if err != want && !(ok && at.Err == want) {
			t.Error(s.Kind, s.S, err, "want", want)
		}
	}
}

func text(s int, text string) api.Step {
	return api.Step{Kind: api.SendText, S: s, Data: []byte(text)}
}

func step(kind, s, a, n int) api.Step { return api.Step{Kind: kind, S: s, A: a, N: n} }

func hears(t *testing.T, w *world.World, i int, want ...string) {
	t.Helper()
	if got := w.Texts(i); !slices.Equal(got, want) {
		t.Errorf("client %d has the texts %q, want %q", i, got, want)
	}
}

// filled is a world with n packets to client 1 in the network, and the packets.
func filled(t *testing.T, n int) (*world.World, [][]byte) {
	t.Helper()
	w := create(t)
	for i := range n {
		do(t, w, text(0, string(rune('a'+i))), step(api.Carry, 0, 0, 0))
	}
	return w, w.Net(1)
}

func nets(t *testing.T, w *world.World, i int, want ...[]byte) {
	t.Helper()
	if got := w.Net(i); !slices.EqualFunc(got, want, bytes.Equal) {
		t.Error("the network to", i, "has", len(got), "packets:", got, "want", want)
	}
}

func TestNew(t *testing.T) {
	w := create(t)
	a, err := client.Create(disk.New(200), true, secret, seedA, curve.Public(chain.Draw(seedB, 0)))
	if err != nil || !bytes.Equal(a.Bytes(), w.Client(0).Bytes()) {
		t.Error("the first client", err)
	}
	b, err := client.Create(disk.New(200), false, secret, seedB, api.Key{})
	if err != nil || !bytes.Equal(b.Bytes(), w.Client(1).Bytes()) {
		t.Error("the second client", err)
	}
	for i := range 2 {
		if w.Disk(i).Size() != 200 || w.Disk(i).Off() || len(w.Net(i)) != 0 || len(w.Texts(i)) != 0 {
			t.Error(i)
		}
	}
	if w.Disk(0) == w.Disk(1) || len(w.Relay().All()) != 0 {
		t.Error("one disk, or blobs")
	}
	if err := w.Relay().Open(api.Hash{1}, quota+1); err != api.ErrRange {
		t.Error(err)
	}
	for _, i := range []int{-1, 2, math.MinInt, math.MaxInt} {
		if w.Client(i) != nil || w.Disk(i) != nil || len(w.Texts(i)) != 0 || len(w.Net(i)) != 0 {
			t.Error(i)
		}
	}
	for sectors, want := range map[int]error{-1: api.ErrFull, 0: api.ErrFull, 1: api.ErrFull, 3: api.ErrFull, 20: nil, 1000: nil} {
		if w, err := world.New(secret, seedA, seedB, sectors, quota, life); err != want || (w == nil) != (want != nil) {
			t.Error(sectors, w, err)
		}
	}
	w, err = world.New(secret, seedA, seedB, 20, 7, 2)
	if err != nil {
		t.Fatal(err)
	}
	if w.Relay().Open(api.Hash{1}, 8) != api.ErrFull || w.Relay().Open(api.Hash{1}, 7) != nil {
		t.Error("quota")
	}
	if w.Relay().Tick() != 0 || w.Relay().Tick() != 1 {
		t.Error("life")
	}
}

func TestRange(t *testing.T) {
	w := create(t)
	fails(t, w, api.ErrRange, api.Step{})
	for _, s := range []int{-1, 2, math.MinInt, math.MaxInt} {
		for kind := -1; kind <= 18; kind++ {
			fails(t, w, api.ErrRange, step(kind, s, 0, 0))
		}
	}
	for _, kind := range []int{0, -1, 17, 18, math.MinInt, math.MaxInt} {
		fails(t, w, api.ErrRange, step(kind, 0, 0, 0), step(kind, 1, 0, 0))
	}
}

func TestTexts(t *testing.T) {
	w := create(t)
	fails(t, w, api.ErrKey, text(1, "too early"))
	fails(t, w, api.ErrRange, text(0, strings.Repeat("x", 201)))
	fails(t, w, api.ErrNone, step(api.Carry, 0, 0, 0), step(api.Carry, 1, 0, 0), step(api.Deliver, 0, 0, 0), step(api.Deliver, 1, 0, 0))
	do(t, w, text(0, "one"), text(0, "two"), step(api.Carry, 0, 0, 0), step(api.Carry, 0, 0, 0))
	if len(w.Net(1)) != 2 || len(w.Net(0)) != 0 || w.Client(0).Waiting() != 0 {
		t.Error("the packets are not carried to client 1")
	}
	fails(t, w, api.ErrNone, step(api.Deliver, 0, 0, 0))
	do(t, w, step(api.Deliver, 1, 1, 0), step(api.Deliver, 1, 0, 0))
	hears(t, w, 1, "two", "one")
	do(t, w, text(1, "back"), step(api.Carry, 1, 0, 0), step(api.Deliver, 0, 0, 0))
	hears(t, w, 0, "back")
	hears(t, w, 1, "two", "one")
	nets(t, w, 0)
	nets(t, w, 1)
	l := w.Texts(1)
	_ = append(l, "x")
	l[0] = "y"
	hears(t, w, 1, "two", "one")
}

func TestWhichPacket(t *testing.T) {
	for a, want := range map[int]int{0: 0, 1: 1, 2: 2, 3: 0, 7: 1, -1: 0, math.MinInt: 0, math.MaxInt: math.MaxInt % 3} {
		w, l := filled(t, 3)
		do(t, w, step(api.Drop, 1, a, 0))
		nets(t, w, 1, slices.Delete(slices.Clone(l), want, want+1)...)
		w, l = filled(t, 3)
		do(t, w, step(api.Deliver, 1, a, 0))
		nets(t, w, 1, slices.Delete(slices.Clone(l), want, want+1)...)
		hears(t, w, 1, string(rune('a'+want)))
		w, l = filled(t, 3)
		do(t, w, step(api.Twice, 1, a, 0))
		nets(t, w, 1, append(slices.Clone(l), l[want])...)
		w, l = filled(t, 3)
		do(t, w, step(api.Bend, 1, a, 5))
		l[want][5] ^= 1
		nets(t, w, 1, l...)
	}
	w := create(t)
	for s := range 2 {
		for _, kind := range []int{api.Deliver, api.Drop, api.Twice, api.Bend} {
			fails(t, w, api.ErrNone, step(kind, s, 0, 0))
		}
	}
}

func TestBend(t *testing.T) {
	w, l := filled(t, 2)
	n := len(l[0])
	for at, want := range map[int]int{0: 0, 1: 1, n - 1: n - 1, n: 0, n + 3: 3, -1: 0, math.MinInt: 0, math.MaxInt: math.MaxInt % n} {
		do(t, w, step(api.Bend, 1, 0, at))
		l[0][want] ^= 1
		nets(t, w, 1, l...)
	}
	w, l = filled(t, 1)
	do(t, w, step(api.Twice, 1, 0, 0), step(api.Bend, 1, 1, 50))
	bent := bytes.Clone(l[0])
	bent[50] ^= 1
	nets(t, w, 1, l[0], bent)
	fails(t, w, api.ErrTag, step(api.Deliver, 1, 1, 0))
	nets(t, w, 1, l[0]) // it is removed all the same
	do(t, w, step(api.Deliver, 1, 0, 0))
	hears(t, w, 1, "a")
}

func TestTwiceAndOld(t *testing.T) {
	w, l := filled(t, 1)
	do(t, w, step(api.Twice, 1, 0, 0), step(api.Deliver, 1, 0, 0))
	nets(t, w, 1, l[0])
	fails(t, w, api.ErrOld, step(api.Deliver, 1, 0, 0))
	nets(t, w, 1)
	hears(t, w, 1, "a")
}

func TestFullNetwork(t *testing.T) {
	w, l := filled(t, 1)
	for range 99 {
		do(t, w, step(api.Twice, 1, 0, 0))
	}
	fails(t, w, api.ErrLimit, step(api.Twice, 1, 0, 0), step(api.Carry, 0, 0, 0))
	do(t, w, text(0, "b"))
	fails(t, w, api.ErrLimit, step(api.Carry, 0, 0, 0))
	if w.Client(0).Waiting() != 1 || len(w.Net(1)) != 100 {
		t.Error(w.Client(0).Waiting(), len(w.Net(1)))
	}
	do(t, w, step(api.Drop, 1, 0, 0), step(api.Carry, 0, 0, 0))
	if got := w.Net(1); len(got) != 100 || !bytes.Equal(got[0], l[0]) || bytes.Equal(got[99], l[0]) {
		t.Error(len(got))
	}
	do(t, w, step(api.Deliver, 1, 0, 0), text(1, "c"), step(api.Carry, 1, 0, 0)) // the other direction is free
	if len(w.Net(0)) != 1 {
		t.Error(len(w.Net(0)))
	}
}

func TestNetIsNewMemory(t *testing.T) {
	w, l := filled(t, 2)
	got := w.Net(1)
	clear(got[0])
	_ = append(got[1], 9)
	got[1] = nil
	nets(t, w, 1, l...)
}

func TestAFile(t *testing.T) {
	w := create(t)
	file := api.Step{Kind: api.SendFile, Data: ramp(100), N: 30, Key: fileK}
	wrong := file
	wrong.N = 0
	fails(t, w, api.ErrRange, wrong)
	fails(t, w, api.ErrNone, step(api.Ask, 0, 0, 0), step(api.Ask, 1, 0, 0), step(api.Lose, 0, 0, 0))
	do(t, w, file)
	if m := w.Client(0).Moves(); len(m) != 1 || m[0].Size != 100 || m[0].Kind != api.Up {
		t.Error(m)
	}
	do(t, w, step(api.Ask, 0, 0, 0), step(api.Lose, 0, 0, 0))
	if len(w.Relay().All()) != 1 {
		t.Error("the lost request was not served")
	}
	if w.Client(0).Answer(nil) != nil { // the lost request is outstanding still
		t.Error("the request is not outstanding")
	}
	do(t, w, step(api.Tick, 0, 0, 0))
	for w.Client(0).Moves()[0].State == api.Going {
		do(t, w, step(api.Ask, 0, 0, 0))
	}
	do(t, w, step(api.Carry, 0, 0, 0), step(api.Deliver, 1, 0, 0))
	hears(t, w, 1)
	for w.Client(1).Moves()[0].State == api.Going {
		do(t, w, step(api.Ask, 1, 0, 0))
	}
	if got, err := w.Client(1).Read(1); err != nil || !bytes.Equal(got, ramp(100)) {
		t.Error(got, err)
	}
}

func TestMoves(t *testing.T) {
	w := create(t)
	for range 2 {
		do(t, w, api.Step{Kind: api.SendFile, Data: ramp(10), N: 5, Key: fileK})
	}
	state := func(want ...int) {
		t.Helper()
		for i, m := range w.Client(0).Moves() {
			if m.State != want[i] {
				t.Error(w.Client(0).Moves(), want)
			}
		}
	}
	do(t, w, step(api.Pause, 0, 2, 0))
	state(api.Going, api.Paused)
	fails(t, w, api.ErrState, step(api.Pause, 0, 2, 0), step(api.Resume, 0, 1, 0))
	do(t, w, step(api.Resume, 0, 2, 0))
	state(api.Going, api.Going)
	do(t, w, step(api.Cancel, 0, 1, 0))
	state(api.Cancelled, api.Going)
	fails(t, w, api.ErrState, step(api.Cancel, 0, 1, 0))
	for _, kind := range []int{api.Pause, api.Resume, api.Cancel} {
		fails(t, w, api.ErrNone, step(kind, 0, 3, 0), step(kind, 1, 1, 0), step(kind, 0, -1, 0))
	}
}

func TestTick(t *testing.T) {
	w, err := world.New(secret, seedA, seedB, 200, quota, 3)
	if err != nil {
		t.Fatal(err)
	}
	do(t, w, text(0, "x"), step(api.Carry, 0, 0, 0), step(api.Deliver, 1, 0, 0))
	for s := range 2 {
		do(t, w, api.Step{Kind: api.SendFile, S: s, Data: ramp(10), N: 5, Key: fileK})
		if _, err := w.Client(s).Ask(); err != nil {
			t.Fatal(err)
		}
		if err := w.Client(s).Answer(nil); err != nil { // it waits one tick
			t.Fatal(err)
		}
		fails(t, w, api.ErrNone, step(api.Ask, s, 0, 0))
	}
	w.Relay().Open(api.Hash{1}, 5)
	do(t, w, step(api.Tick, 1, 0, 0))
	for s := range 2 {
		if _, err := w.Client(s).Ask(); err != nil {
			t.Error("client", s, "was not ticked")
		}
		w.Client(s).Answer(nil)
		w.Client(s).Answer(nil)
	}
	// A client without power does not stop the time of the others.
	w.Disk(0).Fuse(0)
	fails(t, w, api.ErrOff, step(api.Tick, 0, 0, 0))
	fails(t, w, api.ErrClosed, step(api.Tick, 1, 0, 0))
	if _, err := w.Client(1).Ask(); err != nil {
		t.Error("client 1 was not ticked:", err)
	}
	if len(w.Relay().All()) != 0 {
		t.Error("the relay was not ticked")
	}
	w.Client(1).Answer(nil)
	w.Disk(1).Fuse(0)
	fails(t, w, api.ErrClosed, step(api.Tick, 1, 0, 0)) // the first error
	if !w.Client(1).Closed() {
		t.Error("client 1 was not ticked")
	}
}

func TestSpoil(t *testing.T) {
	w := create(t)
	fails(t, w, api.ErrNone, step(api.Spoil, 0, 0, 0))
	w.Relay().Open(api.Hash{1}, 4)
	do(t, w, step(api.Spoil, 1, 0, 0)) // it has no bytes: that is no error
	for a, want := range map[int]int{0: 0, 1: 1, 2: 2, 3: 0, 7: 1, -1: 0, math.MinInt: 0} {
		w := create(t)
		files := [][]byte{ramp(10), ramp(20), ramp(30)}
		for i, f := range files {
			do(t, w, api.Step{Kind: api.SendFile, Data: f, N: 64, Key: fileK})
			for w.Client(0).Moves()[i].State == api.Going {
				do(t, w, step(api.Ask, 0, 0, 0))
			}
		}
		all := w.Relay().All()
		var before [][]byte
		for _, id := range all {
			b, _ := w.Relay().Get(id, 0, 50)
			before = append(before, b)
		}
		do(t, w, step(api.Spoil, 0, a, 7))
		for i, id := range all {
			if i == want {
				before[i][7] ^= 1
			}
			if got, _ := w.Relay().Get(id, 0, 50); !bytes.Equal(got, before[i]) {
				t.Error(a, "blob", i)
			}
		}
		do(t, w, step(api.Spoil, 0, a, -1)) // as the relay takes it: the last byte
		n, _, _ := w.Relay().Stat(all[want])
		last, _ := w.Relay().Get(all[want], n-1, 1)
		do(t, w, step(api.Spoil, 0, a, -1))
		if other, _ := w.Relay().Get(all[want], n-1, 1); other[0] != last[0]^1 {
			t.Error(a, "the last byte")
		}
	}
}

func TestFuseAndCrash(t *testing.T) {
	w := create(t)
	do(t, w, text(0, "saved"), step(api.Fuse, 0, 0, 2))
	fails(t, w, api.ErrOff, text(0, "lost"))
	if !w.Disk(0).Off() || w.Disk(1).Off() || !w.Client(0).Closed() {
		t.Error("the power of client 0 has not failed")
	}
	fails(t, w, api.ErrClosed, text(0, "x"), step(api.Carry, 0, 0, 0), step(api.Ask, 0, 0, 0), step(api.Lose, 0, 0, 0), step(api.Pause, 0, 1, 0))
	before := w.Client(0)
	do(t, w, step(api.Crash, 0, 0, 0))
	if w.Client(0) == before || w.Client(0).Closed() || w.Client(0).Waiting() != 1 || w.Disk(0).Off() {
		t.Error("client 0 is not opened again")
	}
	do(t, w, step(api.Carry, 0, 0, 0), step(api.Deliver, 1, 0, 0))
	hears(t, w, 1, "saved")
	do(t, w, step(api.Crash, 1, 0, 0)) // without a failure, too
	hears(t, w, 1, "saved")
	do(t, w, step(api.Fuse, 1, 0, 0), step(api.Fuse, 1, 0, -1), text(1, "x"))
}

func TestCrashKeeps(t *testing.T) {
	for _, keep := range []int{0, 1} {
		w := create(t)
		old := w.Client(0).Bytes()
		n := 0 // the sectors of the state, and a Sync: the head is pending
		for probe := create(t); ; n++ {
			probe.Disk(0).Fuse(-1)
			probe = create(t)
			do(t, probe, step(api.Fuse, 0, 0, n))
			if probe.Do(text(0, "x")) == nil {
				t.Fatal("the head was not found")
			}
			do(t, probe, api.Step{Kind: api.Crash, L: slices.Repeat([]int{1}, 200)})
			if probe.Client(0).Waiting() == 1 {
				break
			}
		}
		do(t, w, step(api.Fuse, 0, 0, n))
		fails(t, w, api.ErrOff, text(0, "x"))
		do(t, w, api.Step{Kind: api.Crash, L: []int{keep}})
		if w.Client(0).Waiting() != keep || keep == 0 && !bytes.Equal(w.Client(0).Bytes(), old) {
			t.Error(keep, w.Client(0).Waiting())
		}
	}
}

func TestCrashThatCannotBeOpened(t *testing.T) {
	w := create(t)
	before := w.Client(1)
	w.Disk(1).Write(0, bytes.Repeat([]byte{9}, api.Sector))
	w.Disk(1).Sync()
	fails(t, w, api.ErrStore, step(api.Crash, 1, 0, 0))
	if w.Client(1) != before {
		t.Error("another client")
	}
}
