package frame_test

import (
	"bytes"
	"crypto/sha256"
	"errors"
	"math"
	"testing"

	"courier/api"
	"courier/blob"
	"courier/frame"
)

func declared() []error {
	return []error{nil, api.ErrOff, api.ErrRange, api.ErrShort, api.ErrTrail, api.ErrForm, api.ErrPanic, api.ErrFull, api.ErrStore, api.ErrTag, api.ErrGap,
		api.ErrOld, api.ErrKey, api.ErrRoot, api.ErrNone, api.ErrOpen, api.ErrDigest, api.ErrState, api.ErrLimit, api.ErrClosed}
}

// unlike is an error whose values cannot be held against each other.
type unlike []int

func (unlike) Error() string { return "unlike" }

func TestCodeAndErr(t *testing.T) {
	for code, e := range declared() {
		if got := frame.Code(e); got != code {
			t.Error(e, got)
		}
		if got := frame.Err(code); got != e {
			t.Error(code, got)
		}
		if e == nil {
			continue
		}
		if got := frame.Code(&api.At{Pos: 7, Err: e}); got != code {
			t.Error("around", e, got)
		}
	}
	for i, e := range []error{errors.New("own"), errors.New(api.ErrOff.Error()), &api.At{}, &api.At{Err: errors.New("own")}, unlike{1}, &api.At{Err: unlike{1}}} {
		if got := frame.Code(e); got != 6 {
			t.Error(i, got)
		}
	}
	for _, code := range []int{-1, 20, 255, 256, math.MinInt, math.MaxInt} {
		if got := frame.Err(code); got != api.ErrPanic {
			t.Error(code, got)
		}
	}
}

func hashOf(from byte) (h api.Hash) {
	for i := range h {
		h[i] = from + byte(i)
	}
	return h
}

func request(op int) api.Request {
	return api.Request{Op: op, Blob: hashOf(50), Off: 0x04030201, N: 0x08070605, Data: []byte{9, 10, 11}}
}

func sameRequest(a, b api.Request) bool {
	return a.Op == b.Op && a.Blob == b.Blob && a.Off == b.Off && a.N == b.N && bytes.Equal(a.Data, b.Data)
}

func sameResponse(a, b api.Response) bool {
	return a.Code == b.Code && a.N == b.N && bytes.Equal(a.Data, b.Data)
}

func around(err error, pos int, want error) bool {
	at, ok := err.(*api.At)
	return ok && at.Pos == pos && at.Err == want
}

func TestRequest(t *testing.T) {
	blob := hashOf(50)
	for op := 1; op <= 6; op++ {
		want := append(append([]byte{byte(op)}, blob[:]...), 1, 2, 3, 4, 5, 6, 7, 8, 3, 0, 0, 0, 9, 10, 11)
		got := frame.Request(request(op))
		if !bytes.Equal(got, want) {
			t.Error(got)
		}
		if r, err := frame.ReadRequest(got); err != nil || !sameRequest(r, request(op)) {
			t.Error(r, err)
		}
	}
	for _, n := range []int{0, 1, 200} {
		r := api.Request{Op: 1, Off: math.MaxUint32, N: math.MaxUint32, Data: make([]byte, n)}
		if got, err := frame.ReadRequest(frame.Request(r)); err != nil || !sameRequest(got, r) {
			t.Error(got, err)
		}
	}
	if frame.Request(api.Request{Op: 257})[0] != 1 {
		t.Error("Op modulo 256")
	}
}

func TestReadOfWrongRequests(t *testing.T) {
	whole := frame.Request(request(2))
	fails := func(b []byte, pos int, want error) {
		t.Helper()
		if r, err := frame.ReadRequest(b); !around(err, pos, want) || !sameRequest(r, api.Request{}) {
			t.Errorf("%d bytes: %v, %v, want %v around %d", len(b), r, err, want, pos)
		}
	}
	places := []int{0, 1, 33, 37, 41, len(whole)}
	for i, from := range places[:len(places)-1] {
		for n := from; n < places[i+1]; n++ {
			fails(whole[:n], from, api.ErrShort)
		}
	}
	fails(append(bytes.Clone(whole), 0), len(whole), api.ErrTrail)
	for _, op := range []int{0, 7, 8, 255} {
		b := frame.Request(request(op))
		fails(b, 0, api.ErrForm)
		fails(b[:1], 0, api.ErrForm)
		fails(b[:20], 0, api.ErrForm)
	}
	long := request(2)
	long.Data = make([]byte, 201)
	fails(frame.Request(long), 41, api.ErrRange)
}

func TestResponse(t *testing.T) {
	want := []byte{19, 1, 2, 3, 4, 2, 0, 0, 0, 8, 9}
	r := api.Response{Code: 19, N: 0x04030201, Data: []byte{8, 9}}
	if got := frame.Response(r); !bytes.Equal(got, want) {
		t.Error(got)
	}
	for _, r := range []api.Response{r, {}, {Code: 1, N: math.MaxUint32}, {Data: make([]byte, 200)}} {
		if got, err := frame.ReadResponse(frame.Response(r)); err != nil || !sameResponse(got, r) {
			t.Error(got, err)
		}
	}
}

func TestReadOfWrongResponses(t *testing.T) {
	whole := frame.Response(api.Response{Code: 3, N: 5, Data: []byte{1, 2, 3}})
	fails := func(b []byte, pos int, want error) {
		t.Helper()
		if r, err := frame.ReadResponse(b); !around(err, pos, want) || !sameResponse(r, api.Response{}) {
			t.Errorf("%d bytes: %v, %v, want %v around %d", len(b), r, err, want, pos)
		}
	}
	places := []int{0, 1, 5, len(whole)}
	for i, from := range places[:len(places)-1] {
		for n := from; n < places[i+1]; n++ {
			fails(whole[:n], from, api.ErrShort)
		}
	}
	fails(append(bytes.Clone(whole), 0), len(whole), api.ErrTrail)
	for _, code := range []int{20, 21, 255} {
		b := frame.Response(api.Response{Code: code})
		fails(b, 0, api.ErrForm)
		fails(b[:1], 0, api.ErrForm)
	}
	fails(frame.Response(api.Response{Data: make([]byte, 201)}), 5, api.ErrRange)
}

// serves wants that response to that request.
func serves(t *testing.T, s *blob.Store, q api.Request, want api.Response) {
	t.Helper()
	b := frame.Request(q)
	before := bytes.Clone(b)
	got, err := frame.ReadResponse(frame.Serve(s, b))
	if err != nil || !sameResponse(got, want) {
		t.Errorf("op %d: %v, %v, want %v", q.Op, got, err, want)
	}
	if !bytes.Equal(b, before) {
		t.Error("Serve changed the request")
	}
}

func TestServe(t *testing.T) {
	text := []byte("what is stored")
	id, other := api.Hash(sha256.Sum256(text)), hashOf(1)
	n := uint32(len(text))
	s := blob.New(1000, 5)
	fails := func(q api.Request, e error) {
		t.Helper()
		serves(t, s, q, api.Response{Code: frame.Code(e)})
	}
	fails(api.Request{Op: api.OpOpen, Blob: id}, api.ErrRange)
	serves(t, s, api.Request{Op: api.OpOpen, Blob: id, N: n, Off: 99, Data: []byte{1}}, api.Response{})
	fails(api.Request{Op: api.OpOpen, Blob: id, N: n}, api.ErrOpen)
	fails(api.Request{Op: api.OpOpen, Blob: other, N: 1000}, api.ErrFull)
	serves(t, s, api.Request{Op: api.OpStat, Blob: id}, api.Response{Data: []byte{0}})
	serves(t, s, api.Request{Op: api.OpPut, Blob: id, Data: text[:5], N: 77}, api.Response{N: 5})
	serves(t, s, api.Request{Op: api.OpStat, Blob: id}, api.Response{N: 5, Data: []byte{0}})
	fails(api.Request{Op: api.OpPut, Blob: id, Off: 6, Data: text[6:]}, api.ErrRange)
	fails(api.Request{Op: api.OpPut, Blob: id, Off: math.MaxUint32}, api.ErrRange)
	fails(api.Request{Op: api.OpCommit, Blob: id}, api.ErrState)
	fails(api.Request{Op: api.OpGet, Blob: id}, api.ErrState)
	serves(t, s, api.Request{Op: api.OpPut, Blob: id, Off: 5, Data: text[5:]}, api.Response{N: n})
	serves(t, s, api.Request{Op: api.OpCommit, Blob: id, N: 3, Off: 4}, api.Response{})
	serves(t, s, api.Request{Op: api.OpStat, Blob: id}, api.Response{N: n, Data: []byte{1}})
	serves(t, s, api.Request{Op: api.OpGet, Blob: id, Off: 3, N: 6}, api.Response{Data: text[3:9]})
	serves(t, s, api.Request{Op: api.OpGet, Blob: id, Off: n}, api.Response{})
	fails(api.Request{Op: api.OpGet, Blob: id, Off: 3, N: n}, api.ErrRange)
	fails(api.Request{Op: api.OpPut, Blob: id, Data: text}, api.ErrState)
	for _, op := range []int{api.OpPut, api.OpCommit, api.OpGet, api.OpStat, api.OpDelete} {
		fails(api.Request{Op: op, Blob: other}, api.ErrNone)
	}
	serves(t, s, api.Request{Op: api.OpDelete, Blob: id}, api.Response{})
	fails(api.Request{Op: api.OpDelete, Blob: id}, api.ErrNone)
	serves(t, s, api.Request{Op: api.OpOpen, Blob: id, N: n}, api.Response{})
	serves(t, s, api.Request{Op: api.OpPut, Blob: id, Data: make([]byte, n)}, api.Response{N: n})
	fails(api.Request{Op: api.OpCommit, Blob: id}, api.ErrDigest)
}

func TestServeOfWrongRequests(t *testing.T) {
	s := blob.New(1000, 5)
	open := frame.Request(api.Request{Op: api.OpOpen, Blob: hashOf(1), N: 5})
	for name, c := range map[string]struct {
		b    []byte
		want error
	}{
		"nothing":    {nil, api.ErrShort},
		"too little": {open[:len(open)-1], api.ErrShort},
		"too much":   {append(bytes.Clone(open), 1), api.ErrTrail},
		"no op":      {append([]byte{0}, open[1:]...), api.ErrForm},
		"long data":  {frame.Request(api.Request{Op: api.OpPut, Data: make([]byte, 201)}), api.ErrRange},
	} {
		if got := frame.Serve(s, c.b); !bytes.Equal(got, frame.Response(api.Response{Code: frame.Code(c.want)})) {
			t.Error(name, got)
		}
	}
	if len(s.All()) != 0 {
		t.Error("a wrong request was executed")
	}
}
