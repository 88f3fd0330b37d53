package table_test

import (
	"bytes"
	"math"
	"testing"

	"courier/api"
	"courier/code"
	"courier/desc"
	"courier/pace"
	"courier/table"
	"courier/upload"
)

// parts are what a row is encoded as.
type parts struct {
	id              uint32
	kind, state     int
	desc, blob      []byte
	phase           int
	at, tries, wait uint32
	down            []byte
}

func encoded(next uint32, n int, l ...parts) []byte {
	var w code.Writer
	w.U32(next)
	w.U8(n)
	for _, p := range l {
		w.U32(p.id)
		w.U8(p.kind)
		w.U8(p.state)
		w.List(p.desc)
		w.List(p.blob)
		w.U8(p.phase)
		w.U32(p.at)
		w.U32(p.tries)
		w.U32(p.wait)
		w.List(p.down)
	}
	return w.Bytes()
}

func upParts(id uint32, state int) parts {
	d, blob := described(25)
	return parts{id: id, kind: api.Up, state: state, desc: desc.Bytes(d), blob: blob, phase: upload.Put, at: 50, tries: 2, wait: 1}
}

func downParts(t *testing.T, id uint32, state int) parts {
	d, _ := described(25)
	return parts{id: id, kind: api.Down, state: state, desc: desc.Bytes(d), down: downTo(t, 1).Bytes()}
}

func TestBytes(t *testing.T) {
	var b table.Table
	if got := b.Bytes(); !bytes.Equal(got, encoded(1, 0)) {
		t.Error(got)
	}
	add(t, &b, upRow(2, api.Going), downRow(t, 5, api.Paused, 1), table.End(downRow(t, 6, api.Going, 3), api.Done), table.Row{ID: 7})
	b.Drop(7)
	small := desc.Bytes(api.Desc{ID: 7, Size: 25, Chunk: 10})
	want := encoded(8, 3, upParts(2, api.Going), downParts(t, 5, api.Paused), parts{id: 6, kind: api.Down, state: api.Done, desc: small, blob: ramp(25)})
	if got := b.Bytes(); !bytes.Equal(got, want) {
		t.Error(got)
	}
}

func TestRead(t *testing.T) {
	whole := encoded(8, 2, upParts(2, api.Going), downParts(t, 5, api.Paused))
	b, err := table.Read(whole)
	if err != nil {
		t.Fatal(err)
	}
	holds(t, b, 8, 2, 5)
	if r, _ := b.Get(2); !same(r, upRow(2, api.Going)) {
		t.Error(r)
	}
	r, _ := b.Get(5)
	if r.Down == nil || !bytes.Equal(r.Down.Bytes(), downTo(t, 1).Bytes()) || r.Kind != api.Down || r.State != api.Paused {
		t.Error(r)
	}
	if !bytes.Equal(b.Bytes(), whole) {
		t.Error("what was read is encoded otherwise")
	}
	odd := upParts(3, api.Failed)
	odd.phase, odd.at, odd.tries, odd.wait, odd.down = 255, math.MaxUint32, math.MaxUint32, math.MaxUint32, downTo(t, 2).Bytes()
	gone := parts{id: 4, kind: api.Down, state: api.Cancelled, desc: upParts(0, 0).desc}
	whole = encoded(1<<31, 2, odd, gone)
	if b, err = table.Read(whole); err != nil || !bytes.Equal(b.Bytes(), whole) || b.Next() != 1<<31 {
		t.Fatal(err)
	}
	if r, _ := b.Get(3); r.Up != (upload.Up{Phase: 255, At: math.MaxUint32, Pace: pace.Pace{Tries: math.MaxUint32, Wait: math.MaxUint32}}) || r.Down == nil {
		t.Error(r)
	}
	if b, err = table.Read(encoded(1, 0)); err != nil || b.Next() != 1 || len(b.All()) != 0 {
		t.Error(err)
	}
}

func readFails(t *testing.T, name string, b []byte, want error) {
	t.Helper()
	if got, err := table.Read(b); got != nil || err != want {
		t.Error(name, got, err, "want", want)
	}
}

// readFailsAt wants an error around a place.
func readFailsAt(t *testing.T, name string, b []byte, pos int, want error) {
	t.Helper()
	got, err := table.Read(b)
	if at, ok := err.(*api.At); got != nil || !ok || at.Pos != pos || at.Err != want {
		t.Error(name, got, err, "want", want, "around", pos)
	}
}

func TestReadOfWrongForms(t *testing.T) {
	up, down := upParts(2, api.Going), downParts(t, 5, api.Going)
	with := func(p parts, change func(p *parts)) parts {
		change(&p)
		return p
	}
	for name, b := range map[string][]byte{
		"an ID of 0":        encoded(8, 1, with(up, func(p *parts) { p.id = 0 })),
		"the same ID":       encoded(8, 2, up, with(down, func(p *parts) { p.id = 2 })),
		"a smaller ID":      encoded(8, 2, down, up),
		"an ID of Next":     encoded(5, 2, up, down),
		"an ID beyond Next": encoded(2, 1, down),
		"a kind of 0":       encoded(8, 1, with(up, func(p *parts) { p.kind = 0 })),
		"a kind of 3":       encoded(8, 1, with(up, func(p *parts) { p.kind = 3 })),
		"a state of 0":      encoded(8, 1, with(up, func(p *parts) { p.state = 0 })),
		"a state of 6":      encoded(8, 1, with(up, func(p *parts) { p.state = 6 })),
		"no Down, going":    encoded(8, 1, with(down, func(p *parts) { p.down = nil })),
		"no Down, paused":   encoded(8, 1, with(down, func(p *parts) { p.down, p.state = nil, api.Paused })),
		"Next 0":            encoded(0, 0),
		"Next 0 with a row": encoded(0, 1, up),
		"Next beyond 2^31":  encoded(1<<31+1, 0),
		"Next of the most":  encoded(math.MaxUint32, 1, up),
	} {
		readFails(t, name, b, api.ErrForm)
	}
	for name, p := range map[string]parts{
		"Up without a Down":          up,
		"paused Up":                  upParts(2, api.Paused),
		"Down, done, without a Down": with(down, func(p *parts) { p.down, p.state = nil, api.Done }),
		"Down, failed, with a Down":  with(down, func(p *parts) { p.state = api.Failed }),
		"the greatest ID":            with(up, func(p *parts) { p.id = 1<<31 - 1 }),
	} {
		if _, err := table.Read(encoded(1<<31, 1, p)); err != nil {
			t.Error(name, err)
		}
	}
}

func TestReadOfManyRows(t *testing.T) {
	var l []parts
	for i := range 255 {
		l = append(l, parts{id: uint32(i + 1), kind: api.Up, state: api.Done, desc: upParts(0, 0).desc})
	}
	for _, n := range []int{9, 255} {
		readFails(t, "too many rows", encoded(256, n, l[:n]...), api.ErrForm)
	}
	if b, err := table.Read(encoded(256, 8, l[:8]...)); err != nil || len(b.All()) != 8 {
		t.Error(err)
	}
	l[8].desc = l[8].desc[:107]
	readFailsAt(t, "rows come ahead of their number", encoded(256, 9, l[:9]...), 76, api.ErrShort)
}

func TestReadOfWrongParts(t *testing.T) {
	up, down := upParts(2, api.Going), downParts(t, 5, api.Going)
	wrongSize := bytes.Clone(up.desc)
	wrongSize[5] = 9
	wrongDown := bytes.Clone(down.down)
	wrongDown[len(wrongDown)-9] = 1 // a byte where no chunk is present
	for name, c := range map[string]struct {
		change func(up, down *parts)
		want   error
	}{
		"a description":                {func(up, down *parts) { up.desc = wrongSize }, api.ErrRange},
		"a Down":                       {func(up, down *parts) { down.down = wrongDown }, api.ErrForm},
		"a description ahead of Down":  {func(up, down *parts) { down.desc, down.down = wrongSize, wrongDown }, api.ErrRange},
		"a form ahead of all":          {func(up, down *parts) { up.state, up.desc, up.down = 0, wrongSize, wrongDown }, api.ErrForm},
		"the first row ahead":          {func(up, down *parts) { up.desc, down.id = wrongSize, 0 }, api.ErrRange},
		"a Down of Up":                 {func(up, down *parts) { up.down = wrongDown; down.desc = wrongSize }, api.ErrForm},
		"a Down ahead of the next row": {func(up, down *parts) { up.down = wrongDown; down.id = 1 }, api.ErrForm},
	} {
		first, second := up, down
		c.change(&first, &second)
		readFails(t, name, encoded(8, 2, first, second), c.want)
	}
	first := up
	first.down = []byte{1, 2}
	readFailsAt(t, "a Down that ends", encoded(8, 2, first, down), 0, api.ErrShort)
	first.down = []byte{1}
	readFailsAt(t, "a Down of one byte", encoded(8, 2, first, down), 0, api.ErrShort)
	second := down
	second.down = []byte{1}
	readFailsAt(t, "the Down of a Down", encoded(8, 1, second), 0, api.ErrShort)
	first.down, first.desc = nil, bytes.Clone(up.desc[:107])
	readFailsAt(t, "a description that ends", encoded(8, 1, first), 76, api.ErrShort)
}

func TestReadOfWrongBytes(t *testing.T) {
	p := parts{id: 1, kind: api.Up, state: api.Done, desc: upParts(0, 0).desc, blob: []byte{1, 2}}
	whole := encoded(2, 1, p)
	places := []int{0, 4, 5, 9, 10, 11, 123, 129, 130, 134, 138, 142, 146}
	for i, from := range places[:len(places)-1] {
		for n := from; n < places[i+1]; n++ {
			readFailsAt(t, "too few bytes", whole[:n], from, api.ErrShort)
		}
	}
	readFailsAt(t, "too many bytes", append(bytes.Clone(whole), 0), len(whole), api.ErrTrail)
	readFailsAt(t, "bytes ahead of forms", append(encoded(0, 0), 0), 5, api.ErrTrail)
	long := p
	long.desc = append(bytes.Clone(p.desc), 0)
	readFailsAt(t, "a long description", encoded(2, 1, long), 11, api.ErrRange)
	long = p
	long.blob = make([]byte, api.MaxBlob+1)
	readFailsAt(t, "a long blob", encoded(2, 1, long), 123, api.ErrRange)
	long.blob = make([]byte, api.MaxBlob)
	if _, err := table.Read(encoded(2, 1, long)); err != nil {
		t.Error("the longest blob:", err)
	}
	long.blob, long.down = nil, make([]byte, api.MaxBlob+1)
	readFailsAt(t, "a long Down", encoded(2, 1, long), 140, api.ErrRange)
}
