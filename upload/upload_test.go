package upload_test

import (
	"bytes"
	"math"
	"testing"

	"courier/api"
	"courier/blob"
	"courier/frame"
	"courier/pace"
	"courier/sha"
	"courier/upload"
)

var id = api.Hash{1, 2, 3}

func ramp(n int) []byte {
	b := make([]byte, n)
	for i := range b {
		b[i] = byte(i*3 + i>>8)
	}
	return b
}

func same(a, b api.Request) bool {
	return a.Op == b.Op && a.Blob == b.Blob && a.Off == b.Off && a.N == b.N && bytes.Equal(a.Data, b.Data)
}

func TestPhases(t *testing.T) {
	if upload.Stat != 0 || upload.Open != 1 || upload.Put != 2 || upload.Commit != 3 || upload.Delete != 4 || upload.Done != 5 {
		t.Error("the numbers of the phases")
	}
}

func TestAsk(t *testing.T) {
	b := ramp(450)
	for i, c := range []struct {
		u    upload.Up
		want api.Request
	}{
		{upload.Up{}, api.Request{Op: api.OpStat, Blob: id}},
		{upload.Up{Phase: upload.Stat, At: 7}, api.Request{Op: api.OpStat, Blob: id}},
		{upload.Up{Phase: upload.Open, At: 7}, api.Request{Op: api.OpOpen, Blob: id, N: 450}},
		{upload.Up{Phase: upload.Put}, api.Request{Op: api.OpPut, Blob: id, Data: b[:200]}},
		{upload.Up{Phase: upload.Put, At: 1}, api.Request{Op: api.OpPut, Blob: id, Off: 1, Data: b[1:201]}},
		{upload.Up{Phase: upload.Put, At: 250}, api.Request{Op: api.OpPut, Blob: id, Off: 250, Data: b[250:]}},
		{upload.Up{Phase: upload.Put, At: 251}, api.Request{Op: api.OpPut, Blob: id, Off: 251, Data: b[251:]}},
		{upload.Up{Phase: upload.Put, At: 450}, api.Request{Op: api.OpPut, Blob: id, Off: 450}},
		{upload.Up{Phase: upload.Put, At: 451}, api.Request{Op: api.OpPut, Blob: id, Off: 451}},
		{upload.Up{Phase: upload.Put, At: math.MaxUint32}, api.Request{Op: api.OpPut, Blob: id, Off: math.MaxUint32}},
		{upload.Up{Phase: upload.Commit, At: 7}, api.Request{Op: api.OpCommit, Blob: id}},
		{upload.Up{Phase: upload.Delete, At: 7, Pace: pace.Pace{Tries: 4}}, api.Request{Op: api.OpDelete, Blob: id}},
	} {
		before := c.u
		got, ok := c.u.Ask(id, b)
		if !ok || !same(got, c.want) {
			t.Error(i, got, ok)
		}
		if c.u != before {
			t.Error(i, "Ask changed the upload")
		}
		waiting := c.u
		waiting.Pace.Wait = 1
		if got, ok := waiting.Ask(id, b); ok || !same(got, api.Request{}) {
			t.Error(i, "while it waits:", got)
		}
	}
	for _, phase := range []int{upload.Done, 6, -1, math.MinInt, math.MaxInt} {
		u := upload.Up{Phase: phase}
		if got, ok := u.Ask(id, b); ok || !same(got, api.Request{}) {
			t.Error(phase, got)
		}
	}
	for _, at := range []int{-1, math.MinInt, math.MaxInt} {
		u := upload.Up{Phase: upload.Put, At: at}
		if got, ok := u.Ask(id, b); !ok || len(got.Data) != 0 {
			t.Error(at, got)
		}
	}
}

func TestAskSharesNothing(t *testing.T) {
	b := ramp(300)
	u := upload.Up{Phase: upload.Put, At: 5}
	q, _ := u.Ask(id, b)
	q.Data = append(q.Data, 1, 2, 3)
	clear(q.Data)
	if !bytes.Equal(b, ramp(300)) {
		t.Error("the request shares memory with the blob")
	}
}

// TestAnswer tries every phase with every code; what is not in the table is a failure.
func TestAnswer(t *testing.T) {
	const total = 100
	none, state, digest, open, rang := frame.Code(api.ErrNone), frame.Code(api.ErrState), frame.Code(api.ErrDigest), frame.Code(api.ErrOpen), frame.Code(api.ErrRange)
	type end struct{ phase, at int }
	const at = 33
	leads := map[[2]int]end{ // by phase and code, with an N of 60 and no Data
		{upload.Stat, 0}:        {upload.Put, 60},
		{upload.Stat, none}:     {upload.Open, at},
		{upload.Open, 0}:        {upload.Put, 0},
		{upload.Open, open}:     {upload.Stat, at},
		{upload.Put, 0}:         {upload.Put, 60},
		{upload.Put, none}:      {upload.Open, at},
		{upload.Put, state}:     {upload.Stat, at},
		{upload.Put, rang}:      {upload.Stat, at},
		{upload.Commit, 0}:      {upload.Done, at},
		{upload.Commit, digest}: {upload.Delete, at},
		{upload.Commit, none}:   {upload.Open, at},
		{upload.Commit, state}:  {upload.Stat, at},
		{upload.Delete, 0}:      {upload.Open, at},
		{upload.Delete, none}:   {upload.Open, at},
	}
	for phase := upload.Stat; phase <= upload.Delete; phase++ {
		for code := -1; code <= 260; code++ {
			u := upload.Up{Phase: phase, At: at, Pace: pace.Pace{Tries: 3, Wait: 2}}
			got := u.Answer(total, api.Response{Code: code, N: 60})
			want := upload.Up{Phase: phase, At: at, Pace: pace.Pace{Tries: 4, Wait: 8}}
			if e, ok := leads[[2]int{phase, code}]; ok {
				want = upload.Up{Phase: e.phase, At: e.at}
			}
			if got || u != want {
				t.Error(phase, code, got, u, "want", want)
			}
		}
	}
}

func TestAnswerWithBytes(t *testing.T) {
	for i, c := range []struct {
		phase int
		r     api.Response
		want  upload.Up
	}{
		{upload.Stat, api.Response{N: 100, Data: []byte{1}}, upload.Up{Phase: upload.Done, At: 33}},
		{upload.Stat, api.Response{N: 999, Data: []byte{1}}, upload.Up{Phase: upload.Done, At: 33}},
		{upload.Stat, api.Response{N: 100, Data: []byte{0}}, upload.Up{Phase: upload.Commit, At: 100}},
		{upload.Stat, api.Response{N: 99, Data: []byte{0}}, upload.Up{Phase: upload.Put, At: 99}},
		{upload.Stat, api.Response{N: 50, Data: []byte{1, 1}}, upload.Up{Phase: upload.Put, At: 50}},
		{upload.Stat, api.Response{N: 50, Data: []byte{2}}, upload.Up{Phase: upload.Put, At: 50}},
		{upload.Stat, api.Response{}, upload.Up{Phase: upload.Put, At: 0}},
		{upload.Put, api.Response{N: 100}, upload.Up{Phase: upload.Commit, At: 100}},
		{upload.Put, api.Response{N: 99, Data: []byte{1}}, upload.Up{Phase: upload.Put, At: 99}},
		{upload.Put, api.Response{}, upload.Up{Phase: upload.Put, At: 0}},
	} {
		u := upload.Up{Phase: c.phase, At: 33, Pace: pace.Pace{Tries: 3}}
		if u.Answer(100, c.r) || u != c.want {
			t.Error(i, u)
		}
	}
	for _, phase := range []int{upload.Stat, upload.Put} {
		for _, n := range []uint32{101, math.MaxUint32} {
			u := upload.Up{Phase: phase, At: 33}
			if u.Answer(100, api.Response{N: n, Data: []byte{0}}) || u != (upload.Up{Phase: phase, At: 33, Pace: pace.Pace{Tries: 1, Wait: 1}}) {
				t.Error(phase, n, u)
			}
		}
	}
}

func TestAnswerFailsTooOften(t *testing.T) {
	u := upload.Up{Phase: upload.Open}
	for k := 1; k <= 12; k++ {
		if got := u.Answer(5, api.Response{Code: 7}); got != (k > 10) || u.Pace.Tries != k {
			t.Error(k, got, u)
		}
	}
	if u.Answer(5, api.Response{}) || u.Pace != (pace.Pace{}) {
		t.Error("a good answer after all:", u)
	}
}

func TestAnswerOfNoPhase(t *testing.T) {
	for _, phase := range []int{upload.Done, 6, -1, math.MinInt, math.MaxInt} {
		for _, code := range []int{0, 7, frame.Code(api.ErrNone)} {
			u := upload.Up{Phase: phase, At: 3, Pace: pace.Pace{Tries: 10, Wait: 5}}
			before := u
			if u.Answer(10, api.Response{Code: code}) || u != before {
				t.Error(phase, code, u)
			}
		}
	}
}

// TestAgainstAStore uploads to a real store, from the beginning and on from a part.
func TestAgainstAStore(t *testing.T) {
	b := ramp(930)
	id := sha.Sum(b)
	bad := func(s *blob.Store) {
		s.Open(id, len(b))
		s.Put(id, 0, make([]byte, len(b)))
	}
	for name, c := range map[string]struct {
		begin func(s *blob.Store)
		asks  int
	}{
		"nothing is there": {func(s *blob.Store) {}, 1 + 1 + 5 + 1},
		"it is open":       {func(s *blob.Store) { s.Open(id, len(b)) }, 1 + 5 + 1},
		"a part is there":  {func(s *blob.Store) { s.Open(id, len(b)); s.Put(id, 0, b[:500]) }, 1 + 3 + 1},
		"all is there":     {func(s *blob.Store) { s.Open(id, len(b)); s.Put(id, 0, b) }, 1 + 1},
		"it is committed":  {func(s *blob.Store) { s.Open(id, len(b)); s.Put(id, 0, b); s.Commit(id) }, 1},
		"it is another":    {bad, 1 + 1 + 1 + 1 + 5 + 1},
	} {
		s := blob.New(api.MaxBlob, 100)
		c.begin(s)
		var u upload.Up
		asks := 0
		for u.Phase != upload.Done && asks < 50 {
			q, ok := u.Ask(id, b)
			if !ok {
				t.Fatal(name, u)
			}
			asks++
			r, err := frame.ReadResponse(frame.Serve(s, frame.Request(q)))
			if err != nil || u.Answer(len(b), r) {
				t.Fatal(name, u, err)
			}
		}
		if _, committed, err := s.Stat(id); !committed || err != nil || asks != c.asks {
			t.Error(name, committed, err, asks)
		}
	}
}
