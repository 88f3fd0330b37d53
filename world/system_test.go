package world_test

import (
	"bytes"
	"math/rand"
	"slices"
	"strconv"
	"testing"

	"courier/api"
	"courier/client"
	"courier/world"
)

// storm lets anything happen to a world, and notes what was sent.
type storm struct {
	t      *testing.T
	random *rand.Rand
	w      *world.World
	texts  [2]map[string]bool // sent by each client
	files  map[string]bool
	heard  [2]int
}

func (s *storm) step() api.Step {
	r := s.random
	kinds := []int{api.SendText, api.SendFile, api.Carry, api.Carry, api.Deliver, api.Deliver, api.Deliver, api.Drop, api.Twice, api.Ask, api.Ask, api.Ask, api.Ask,
		api.Ask, api.Ask, api.Lose, api.Tick, api.Tick, api.Pause, api.Resume, api.Resume, api.Cancel, api.Fuse, api.Crash, api.Bend, api.Spoil}
	x := api.Step{Kind: kinds[r.Intn(len(kinds))], S: r.Intn(2), A: r.Intn(6), N: r.Intn(70)}
	switch x.Kind {
	case api.SendText:
		x.Data = []byte("text " + strconv.Itoa(r.Intn(1<<30)))
	case api.SendFile:
		x.Data, x.N = make([]byte, r.Intn(120)), 5+r.Intn(60)
		r.Read(x.Data)
		r.Read(x.Key[:])
	case api.Cancel, api.Spoil:
		if r.Intn(4) > 0 {
			x.Kind = api.Ask
		}
	case api.Crash:
		for range 60 {
			x.L = append(x.L, r.Intn(4))
		}
	}
	return x
}

// rage performs steps, and holds what came against what was sent after each of them.
func (s *storm) rage(steps int) {
	for range steps {
		x := s.step()
		if x.Kind == api.SendText {
			s.texts[x.S][string(x.Data)] = true
		}
		if x.Kind == api.SendFile {
			s.files[string(x.Data)] = true
		}
		s.w.Do(x)
		s.check()
	}
}

// check is P0.8: each text was sent by the other side, and came once; each file begins one that was sent.
func (s *storm) check() {
	s.t.Helper()
	for i := range 2 {
		l := s.w.Texts(i)
		if len(l) < s.heard[i] {
			s.t.Fatal("texts are gone")
		}
		for _, x := range l[s.heard[i]:] {
			if !s.texts[1-i][x] || slices.Index(l, x) < s.heard[i] {
				s.t.Fatalf("client %d heard %q, which was not sent, or is not new", i, x)
			}
		}
		s.heard[i] = len(l)
		for _, m := range s.w.Client(i).Moves() {
			if b, err := s.w.Client(i).Read(m.ID); err == nil && !s.sent(b, m) {
				s.t.Fatalf("client %d reads what was not sent", i)
			}
		}
	}
}

func (s *storm) sent(b []byte, m api.Move) bool {
	for f := range s.files {
		if len(f) == m.Size && bytes.HasPrefix([]byte(f), b) && (m.State != api.Done || len(b) == m.Size) {
			return true
		}
	}
	return false
}

// calm restores the power, and forgets what has ended.
func (s *storm) calm() {
	for i := range 2 {
		if err := s.w.Do(api.Step{Kind: api.Crash, S: i, L: slices.Repeat([]int{1}, 400)}); err != nil {
			s.t.Fatal("a client cannot be opened:", err)
		}
		c := s.w.Client(i)
		state := c.Bytes()
		again, err := client.Open(s.w.Disk(i))
		if err != nil || !bytes.Equal(again.Bytes(), state) {
			s.t.Fatal("opened twice it is another client:", err)
		}
		for _, m := range c.Moves() {
			c.Resume(m.ID)
		}
	}
}

// settle is P0.11: without losses all transfers end.
func (s *storm) settle() {
	s.t.Helper()
	for range 3000 {
		s.w.Do(api.Step{Kind: api.Tick})
		for i := range 2 {
			s.w.Do(api.Step{Kind: api.Ask, S: i})
			if s.w.Do(api.Step{Kind: api.Carry, S: i}) == nil && len(s.w.Net(1-i)) > 0 {
				s.w.Do(api.Step{Kind: api.Deliver, S: 1 - i, A: len(s.w.Net(1-i)) - 1})
			}
		}
	}
	s.check()
	for i := range 2 {
		for _, m := range s.w.Client(i).Moves() {
			if m.State == api.Going {
				s.t.Errorf("client %d has the transfer %v after all", i, m)
			}
		}
	}
}

func TestStorms(t *testing.T) {
	done := 0
	for seed := range int64(12) {
		w, err := world.New(secret, seedA, seedB, api.MaxSecs, api.MaxBlob, 1<<30)
		if err != nil {
			t.Fatal(err)
		}
		s := &storm{t: t, random: rand.New(rand.NewSource(seed)), w: w, texts: [2]map[string]bool{{}, {}}, files: map[string]bool{}}
		for range 6 {
			s.rage(150)
			s.calm()
			for i := range 2 {
				for _, m := range w.Client(i).Moves() {
					if m.State == api.Done {
						done++
					}
					w.Client(i).Forget(m.ID)
				}
			}
		}
		s.settle()
	}
	if done < 20 {
		t.Error("only", done, "transfers came to their end")
	}
}

// drain lets client i ask until it has nothing to ask, and counts the rounds.
func drain(t *testing.T, w *world.World, i int) (n int) {
	t.Helper()
	for w.Do(step(api.Ask, i, 0, 0)) == nil {
		n++
		if n > 1000 {
			t.Fatal("it does not end")
		}
	}
	return n
}

func TestProgress(t *testing.T) {
	w := create(t)
	do(t, w, api.Step{Kind: api.SendFile, Data: ramp(600), N: 10, Key: fileK})
	if n := drain(t, w, 0); n != 3+(60*48+600+199)/200 {
		t.Error(n, "rounds up")
	}
	do(t, w, step(api.Carry, 0, 0, 0), step(api.Deliver, 1, 0, 0))
	if n := drain(t, w, 1); n != (60*32+199)/200+60 {
		t.Error(n, "rounds down")
	}
	if got, err := w.Client(1).Read(1); err != nil || !bytes.Equal(got, ramp(600)) {
		t.Error(err)
	}
}

// TestForgetting is P0.12, with losses and crashes on the way.
func TestForgetting(t *testing.T) {
	var images [2][2][]byte
	for k := range 2 {
		w := create(t)
		do(t, w, api.Step{Kind: api.SendFile, Data: ramp(90), N: 20, Key: api.Key{byte(k)}})
		for n := 0; w.Client(0).Moves()[0].State == api.Going; n++ {
			if n%3 == 1 {
				do(t, w, step(api.Fuse, 0, 0, 5*n))
			}
			w.Do(step(api.Ask, 0, 0, 0))
			do(t, w, api.Step{Kind: api.Crash, L: slices.Repeat([]int{n % 2}, 200)})
		}
		do(t, w, step(api.Carry, 0, 0, 0), step(api.Deliver, 1, 0, 0))
		for n := 0; w.Client(1).Moves()[0].State == api.Going; n++ {
			if n%3 == 1 {
				do(t, w, step(api.Fuse, 1, 0, 5*n))
			}
			w.Do(step(api.Ask, 1, 0, 0))
			do(t, w, api.Step{Kind: api.Crash, S: 1, L: slices.Repeat([]int{n % 2}, 200)})
		}
		if got, err := w.Client(1).Read(1); err != nil || !bytes.Equal(got, ramp(90)) {
			t.Error(got, err)
		}
		images[k] = [2][]byte{w.Disk(0).Image(), w.Disk(1).Image()}
	}
	for i := range 2 {
		if !bytes.Equal(images[0][i], images[1][i]) {
			t.Error("the disk of client", i, "remembers the key")
		}
	}
}

// TestASpoiledBlob is P0.8: what the relay has spoiled is not accepted.
func TestASpoiledBlob(t *testing.T) {
	for at := 0; at < 294; at += 7 { // the bytes of the leaves, and of the chunks
		w := create(t)
		do(t, w, api.Step{Kind: api.SendFile, Data: ramp(150), N: 50, Key: fileK})
		drain(t, w, 0)
		do(t, w, step(api.Carry, 0, 0, 0), step(api.Deliver, 1, 0, 0), step(api.Spoil, 0, 0, at))
		for n := 0; w.Client(1).Moves()[0].State == api.Going; n++ {
			w.Do(step(api.Ask, 1, 0, 0))
			for range 64 {
				w.Client(1).Tick()
			}
			if got, err := w.Client(1).Read(1); err == nil && !bytes.HasPrefix(ramp(150), got) {
				t.Fatal("byte", at, "spoiled is not seen")
			}
			if n > 50 {
				t.Fatal("it does not end")
			}
		}
		if m := w.Client(1).Moves()[0]; m.State != api.Failed {
			t.Error("byte", at, m)
		}
	}
}
