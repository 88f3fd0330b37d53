package download_test

import (
	"bytes"
	"math"
	"testing"

	"courier/api"
	"courier/code"
	"courier/desc"
	"courier/download"
	"courier/pace"
	"courier/stream"
	"courier/tree"
)

var key = api.Key{4, 5, 6}

func ramp(n int) []byte {
	b := make([]byte, n)
	for i := range b {
		b[i] = byte(i%251 + 1)
	}
	return b
}

// answer is the relay's to a request for a blob.
func answer(blob []byte, q api.Request) api.Response {
	return api.Response{Data: bytes.Clone(blob[q.Off : q.Off+q.N])}
}

func ask(t *testing.T, w *download.Down) api.Request {
	t.Helper()
	q, ok := w.Ask()
	if !ok {
		t.Fatal("nothing is asked")
	}
	return q
}

// fetch lets n requests be answered.
func fetch(t *testing.T, w *download.Down, blob []byte, n int) {
	t.Helper()
	for range n {
		if w.Answer(answer(blob, ask(t, w))) {
			t.Fatal("a right answer failed")
		}
	}
}

// round is what is read of the encoding, which must be encoded alike.
func round(t *testing.T, w *download.Down) *download.Down {
	t.Helper()
	again, err := download.Read(w.Bytes())
	if err != nil || !bytes.Equal(again.Bytes(), w.Bytes()) {
		t.Fatal("Read:", err)
	}
	return again
}

func TestNew(t *testing.T) {
	d, _ := desc.Make(1, ramp(100), 30, key)
	w := download.New(d)
	have, all := w.Have()
	if w.Done() || have != 0 || all != 4 || len(w.Data()) != 0 || !bytes.Equal(w.Whole(), make([]byte, 100)) || *w.Pace() != (pace.Pace{}) {
		t.Error(w.Done(), have, all, w.Data(), w.Whole(), w.Pace())
	}
}

func TestDownloads(t *testing.T) {
	for _, size := range []int{0, 1, 29, 30, 31, 100, 600} {
		for _, chunk := range []int{1, 7, 30, 64} {
			file := ramp(size)
			d, blob := desc.Make(1, file, chunk, key)
			n := stream.Count(size, chunk)
			w := download.New(d)
			for off := 0; off < 32*n; off += 200 {
				want := api.Request{Op: api.OpGet, Blob: d.Blob, Off: uint32(off), N: uint32(min(200, 32*n-off))}
				if q := ask(t, w); q.Op != want.Op || q.Blob != want.Blob || q.Off != want.Off || q.N != want.N || len(q.Data) != 0 {
					t.Fatal(size, chunk, q)
				}
				fetch(t, w, blob, 1)
				w = round(t, w)
			}
			for i := range n {
				off, length := desc.Place(d, i)
				if q := ask(t, w); q.Op != api.OpGet || q.Blob != d.Blob || q.Off != uint32(off) || q.N != uint32(length) || len(q.Data) != 0 {
					t.Fatal(size, chunk, i, q)
				}
				if have, all := w.Have(); have != i || all != n || w.Done() {
					t.Error(size, chunk, i, have, all)
				}
				come := file[:min(i*chunk, size)]
				if !bytes.Equal(w.Data(), come) || !bytes.Equal(w.Whole(), append(bytes.Clone(come), make([]byte, size-len(come))...)) {
					t.Error(size, chunk, i, w.Data(), w.Whole())
				}
				fetch(t, w, blob, 1)
				if n < 50 {
					w = round(t, w)
				}
			}
			if have, all := w.Have(); !w.Done() || have != n || all != n || !bytes.Equal(w.Data(), file) || !bytes.Equal(w.Whole(), file) {
				t.Error(size, chunk, w.Done(), have, all)
			}
			if q, ok := w.Ask(); ok || q.Op != 0 || q.Blob != (api.Hash{}) {
				t.Error("a request when all is there:", q)
			}
			before := w.Bytes()
			if w.Answer(api.Response{Code: 7}) || w.Answer(api.Response{}) || !bytes.Equal(before, w.Bytes()) {
				t.Error("an answer when all is there")
			}
		}
	}
}

func TestAskWaits(t *testing.T) {
	d, blob := desc.Make(1, ramp(10), 5, key)
	w := download.New(d)
	w.Answer(api.Response{Code: 14})
	w.Answer(api.Response{Code: 14})
	for _, wait := range []int{2, 1} {
		if w.Pace().Wait != wait {
			t.Error(w.Pace())
		}
		if q, ok := w.Ask(); ok || q.Op != 0 || q.N != 0 || q.Blob != (api.Hash{}) {
			t.Error("a request while it waits:", q)
		}
		w.Pace().Tick()
	}
	ask(t, w)
	// The answer to what would be asked is taken while it waits.
	w.Answer(api.Response{Code: 14})
	if w.Answer(api.Response{Data: blob[:64]}) || *w.Pace() != (pace.Pace{}) {
		t.Error(w.Pace())
	}
	w.Answer(api.Response{Code: 14})
	off, n := desc.Place(d, 0)
	if w.Answer(api.Response{Data: blob[off : off+n]}) || *w.Pace() != (pace.Pace{}) {
		t.Error(w.Pace())
	}
	if have, _ := w.Have(); have != 1 {
		t.Error(have)
	}
}

// fails wants a failure that leaves all but the pace as it was.
func fails(t *testing.T, w *download.Down, r api.Response) {
	t.Helper()
	before := w.Bytes()
	w.Pace().Good()
	if w.Answer(r) || *w.Pace() != (pace.Pace{Tries: 1, Wait: 1}) {
		t.Error("no failure:", w.Pace())
	}
	w.Pace().Good()
	if !bytes.Equal(w.Bytes(), before) {
		t.Error("a wrong answer changed the download")
	}
}

func TestWrongAnswersForLeaves(t *testing.T) {
	d, blob := desc.Make(1, ramp(100), 10, key) // 320 bytes of leaves
	w := download.New(d)
	for _, n := range []int{0, 1, 199, 201, 320} {
		fails(t, w, api.Response{Data: blob[:n]})
	}
	fails(t, w, api.Response{Code: 1, Data: blob[:200]})
	w.Answer(api.Response{Code: 1})
	if w.Answer(api.Response{Data: blob[:200]}) || w.Pace().Tries != 1 {
		t.Error("leaves that are not complete change the pace:", w.Pace())
	}
	w.Pace().Good()
	fails(t, w, api.Response{Data: blob[200:319]})
	fails(t, w, api.Response{Data: blob[:200]})
	if q := ask(t, w); q.Off != 200 || q.N != 120 {
		t.Error(q)
	}
	wrong := bytes.Clone(blob[200:320])
	wrong[5] ^= 1
	if w.Answer(api.Response{Data: wrong}) || w.Pace().Tries != 1 {
		t.Error("another root:", w.Pace())
	}
	w.Pace().Good()
	if q := ask(t, w); q.Off != 0 || q.N != 200 {
		t.Error("the leaves of another root were not removed:", q)
	}
	if !bytes.Equal(w.Bytes(), download.New(d).Bytes()) {
		t.Error("something else remained")
	}
	fetch(t, w, blob, 2)
	if *w.Pace() != (pace.Pace{}) {
		t.Error(w.Pace())
	}
	if q := ask(t, w); q.Off != 320 || q.N != 26 {
		t.Error(q)
	}
}

func TestWrongAnswersForChunks(t *testing.T) {
	d, blob := desc.Make(1, ramp(25), 10, key)
	w := download.New(d)
	fetch(t, w, blob, 1)
	for i := range 3 {
		off, n := desc.Place(d, i)
		right := blob[off : off+n]
		fails(t, w, api.Response{Code: 5, Data: right})
		fails(t, w, api.Response{Data: right[:n-1]})
		fails(t, w, api.Response{Data: append(bytes.Clone(right), 0)})
		fails(t, w, api.Response{})
		for k := range right {
			bent := bytes.Clone(right)
			bent[k] ^= 1
			fails(t, w, api.Response{Data: bent})
		}
		if i == 0 {
			off, n := desc.Place(d, 1)
			fails(t, w, api.Response{Data: blob[off : off+n]})
		}
		fetch(t, w, blob, 1)
	}
	if !w.Done() {
		t.Error("not done")
	}
}

// described is a description and the blob of chunks that are sealed as one likes.
func described(size, chunk int, sealed ...[]byte) (api.Desc, []byte) {
	var leaves []api.Hash
	var blob []byte
	for _, b := range sealed {
		leaf := tree.Leaf(b)
		leaves = append(leaves, leaf)
		blob = append(blob, leaf[:]...)
	}
	blob = append(blob, bytes.Join(sealed, nil)...)
	return api.Desc{Size: uint32(size), Chunk: uint32(chunk), Key: key, Root: tree.Root(leaves...)}, blob
}

func TestChunksThatAreSealedOtherwise(t *testing.T) {
	a, b := ramp(10), ramp(5)
	for name, sealed := range map[string][][]byte{
		"another key":       {stream.Seal(api.Key{}, 0, false, a), stream.Seal(key, 1, true, b)},
		"another number":    {stream.Seal(key, 1, false, a), stream.Seal(key, 1, true, b)},
		"last too early":    {stream.Seal(key, 0, true, a), stream.Seal(key, 1, true, b)},
		"last not told":     {stream.Seal(key, 0, false, a), stream.Seal(key, 1, false, b)},
		"not sealed at all": {append(bytes.Clone(a), make([]byte, 16)...), stream.Seal(key, 1, true, b)},
	} {
		d, blob := described(15, 10, sealed...)
		w := download.New(d)
		fetch(t, w, blob, 1)
		if name == "last not told" {
			fetch(t, w, blob, 1)
		}
		fails(t, w, answer(blob, ask(t, w)))
	}
	d, blob := described(0, 10, stream.Seal(api.Key{}, 0, true, nil)) // of no bytes, none of which is wrong
	w := download.New(d)
	fetch(t, w, blob, 1)
	fails(t, w, answer(blob, ask(t, w)))
	d, blob = described(15, 10, stream.Seal(key, 0, false, a), stream.Seal(key, 1, true, b))
	w = download.New(d)
	fetch(t, w, blob, 3)
	if !w.Done() || !bytes.Equal(w.Whole(), append(bytes.Clone(a), b...)) {
		t.Error(w.Whole())
	}
}

func TestAnswerFailsTooOften(t *testing.T) {
	d, _ := desc.Make(1, ramp(10), 5, key)
	w := download.New(d)
	for k := 1; k <= 12; k++ {
		if got := w.Answer(api.Response{Code: 14}); got != (k > 10) {
			t.Error(k, got)
		}
	}
	w = download.New(d)
	for k := 1; k <= 11; k++ { // of another root, too
		if got := w.Answer(api.Response{Data: make([]byte, 64)}); got != (k > 10) {
			t.Error(k, got)
		}
	}
}

func TestMemory(t *testing.T) {
	file := ramp(25)
	d, blob := desc.Make(1, file, 10, key)
	w := download.New(d)
	for range 3 {
		r := answer(blob, ask(t, w))
		w.Answer(r)
		clear(r.Data)
	}
	data, whole, state := w.Data(), w.Whole(), w.Bytes()
	for _, b := range [][]byte{data, whole, state} {
		_ = append(b, 99)
		clear(b)
	}
	fetch(t, w, blob, 1)
	if !w.Done() || !bytes.Equal(w.Data(), file) {
		t.Error(w.Data())
	}
	b := w.Bytes()
	again, _ := download.Read(b)
	clear(b)
	if !bytes.Equal(again.Whole(), file) || !bytes.Equal(again.Bytes(), w.Bytes()) {
		t.Error("the argument of Read is kept")
	}
}

// parts are what the encoding consists of.
type parts struct {
	desc        []byte
	verified    int
	leaves      []byte
	present     []byte
	file        []byte
	tries, wait uint32
}

func (p parts) bytes() []byte {
	var w code.Writer
	w.List(p.desc)
	w.U8(p.verified)
	w.List(p.leaves)
	w.List(p.present)
	w.List(p.file)
	w.U32(p.tries)
	w.U32(p.wait)
	return w.Bytes()
}

// sample is a download of 25 bytes in chunks of 10, whose first and last chunks are present.
func sample() parts {
	file := ramp(25)
	d, blob := desc.Make(7, file, 10, key)
	clear(file[10:20])
	return parts{desc: desc.Bytes(d), verified: 1, leaves: blob[:96], present: []byte{5}, file: file, tries: 3, wait: 2}
}

func TestBytes(t *testing.T) {
	d, blob := desc.Make(7, ramp(25), 10, key)
	w := download.New(d)
	if want := (parts{desc: desc.Bytes(d), present: []byte{0}, file: make([]byte, 25)}); !bytes.Equal(w.Bytes(), want.bytes()) {
		t.Error(w.Bytes())
	}
	fetch(t, w, blob, 2)
	*w.Pace() = pace.Pace{Tries: 3, Wait: 2}
	want := parts{desc: desc.Bytes(d), verified: 1, leaves: blob[:96], present: []byte{1}, file: append(ramp(10), make([]byte, 15)...), tries: 3, wait: 2}
	if !bytes.Equal(w.Bytes(), want.bytes()) {
		t.Error(w.Bytes())
	}
}

func TestReadGoesOn(t *testing.T) {
	w, err := download.Read(sample().bytes())
	if err != nil || !bytes.Equal(w.Bytes(), sample().bytes()) {
		t.Fatal(err)
	}
	if have, all := w.Have(); have != 2 || all != 3 || w.Done() || !bytes.Equal(w.Data(), ramp(10)) || *w.Pace() != (pace.Pace{Tries: 3, Wait: 2}) {
		t.Error(have, all, w.Data(), w.Pace())
	}
	w.Pace().Good()
	_, blob := desc.Make(7, ramp(25), 10, key)
	if q := ask(t, w); q.Off != 96+26 || q.N != 26 {
		t.Error(q)
	}
	fetch(t, w, blob, 1)
	if !w.Done() || !bytes.Equal(w.Data(), ramp(25)) {
		t.Error(w.Data())
	}
	p := sample()
	p.tries, p.wait = math.MaxUint32, math.MaxUint32
	if w, err := download.Read(p.bytes()); err != nil || *w.Pace() != (pace.Pace{Tries: math.MaxUint32, Wait: math.MaxUint32}) {
		t.Error(err)
	}
}

func TestReadOfWrongForms(t *testing.T) {
	wrong := map[string]func(p *parts){
		"too few bits":              func(p *parts) { p.present = nil },
		"too many bits":             func(p *parts) { p.present = []byte{5, 0} },
		"a bit behind":              func(p *parts) { p.present = []byte{13} },
		"no leaves":                 func(p *parts) { p.leaves = nil },
		"leaves missing":            func(p *parts) { p.leaves = p.leaves[:95] },
		"leaves over":               func(p *parts) { p.leaves = append(p.leaves, 0) },
		"another leaf more":         func(p *parts) { p.leaves = append(p.leaves, p.leaves[:32]...) },
		"another root":              func(p *parts) { p.leaves[40] ^= 1 },
		"not verified, with chunks": func(p *parts) { p.verified, p.leaves = 0, p.leaves[:64] },
		"not verified, complete": func(p *parts) {
			p.verified, p.present, p.file = 0, []byte{0}, make([]byte, 25)
		},
		"not verified, more": func(p *parts) {
			p.verified, p.present, p.file = 0, []byte{0}, make([]byte, 25)
			p.leaves = append(p.leaves, 1)
		},
		"a file too short":      func(p *parts) { p.file = p.file[:24] },
		"a file too long":       func(p *parts) { p.file = append(p.file, 0) },
		"bytes of no chunk":     func(p *parts) { p.file[10] = 1 },
		"a last byte of none":   func(p *parts) { p.file[19] = 1 },
		"bytes of the last one": func(p *parts) { p.present = []byte{1} },
	}
	for name, spoil := range wrong {
		p := sample()
		spoil(&p)
		if w, err := download.Read(p.bytes()); w != nil || err != api.ErrForm {
			t.Error(name, w, err)
		}
	}
	p := sample()
	p.verified, p.leaves, p.present, p.file = 0, p.leaves[:95], []byte{0}, make([]byte, 25)
	if _, err := download.Read(p.bytes()); err != nil {
		t.Error("leaves in the making:", err)
	}
	p = sample()
	clear(p.file)
	if _, err := download.Read(p.bytes()); err != nil {
		t.Error("a chunk that is present may be zeros:", err)
	}
}

func TestReadOfWrongBytes(t *testing.T) {
	fails := func(name string, b []byte, pos int, want error) {
		t.Helper()
		w, err := download.Read(b)
		at, ok := err.(*api.At)
		if pos < 0 {
			ok, at = err == want, &api.At{Pos: pos, Err: want}
		}
		if w != nil || !ok || at.Pos != pos || at.Err != want {
			t.Error(name, w, err)
		}
	}
	whole := sample().bytes()
	places := []int{0, 112, 113, 213, 218, 247, 251, 255}
	for i, from := range places[:len(places)-1] {
		for n := from; n < places[i+1]; n++ {
			fails("too few bytes", whole[:n], from, api.ErrShort)
		}
	}
	fails("too many bytes", append(bytes.Clone(whole), 0), len(whole), api.ErrTrail)
	marked := bytes.Clone(whole)
	marked[112] = 2
	fails("a mark of 2", marked, 112, api.ErrForm)
	p := sample()
	p.desc = append(p.desc, 0)
	fails("a long description", p.bytes(), 0, api.ErrRange)
	p = sample()
	p.desc = p.desc[:107]
	p.present = nil
	fails("a short description", p.bytes(), 76, api.ErrShort)
	p = sample()
	p.desc[4], p.desc[5] = 0x59, 2
	p.present = nil
	fails("a wrong description", p.bytes(), -1, api.ErrRange)
	p = sample()
	p.leaves = make([]byte, 19201)
	fails("long leaves", p.bytes(), 113, api.ErrRange)
	p = sample()
	p.present = make([]byte, 101)
	fails("long bits", p.bytes(), 213, api.ErrRange)
	p = sample()
	p.file = make([]byte, 601)
	fails("a long file", p.bytes(), 218, api.ErrRange)
	d, blob := desc.Make(1, ramp(600), 1, key)
	p = parts{desc: desc.Bytes(d), verified: 1, leaves: blob[:19200], present: make([]byte, 75), file: make([]byte, 600)}
	if _, err := download.Read(p.bytes()); err != nil {
		t.Error("the greatest lengths:", err)
	}
}
