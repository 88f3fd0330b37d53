package table_test

import (
	"bytes"
	"math"
	"testing"

	"courier/api"
	"courier/desc"
	"courier/download"
	"courier/pace"
	"courier/table"
	"courier/upload"
)

var key = api.Key{8, 9}

func ramp(n int) []byte {
	b := make([]byte, n)
	for i := range b {
		b[i] = byte(i%250 + 1)
	}
	return b
}

func described(size int) (api.Desc, []byte) { return desc.Make(7, ramp(size), 10, key) }

// downTo is a download of that many chunks, of three.
func downTo(t *testing.T, chunks int) *download.Down {
	t.Helper()
	d, blob := described(25)
	w := download.New(d)
	for n := 0; n < chunks+1 && chunks >= 0; n++ {
		q, ok := w.Ask()
		if !ok || w.Answer(api.Response{Data: blob[q.Off : q.Off+q.N]}) {
			t.Fatal("the download does not go on")
		}
	}
	return w
}

func upRow(id, state int) table.Row {
	d, blob := described(25)
	return table.Row{ID: id, Kind: api.Up, State: state, Desc: d, Blob: blob, Up: upload.Up{Phase: upload.Put, At: 50, Pace: pace.Pace{Tries: 2, Wait: 1}}}
}

func downRow(t *testing.T, id, state, chunks int) table.Row {
	d, _ := described(25)
	return table.Row{ID: id, Kind: api.Down, State: state, Desc: d, Down: downTo(t, chunks)}
}

func same(a, b table.Row) bool {
	return a.ID == b.ID && a.Kind == b.Kind && a.State == b.State && a.Desc == b.Desc && bytes.Equal(a.Blob, b.Blob) && a.Up == b.Up && (a.Down == nil) == (b.Down == nil) &&
		(a.Down == nil || bytes.Equal(a.Down.Bytes(), b.Down.Bytes()))
}

func zero(r table.Row) bool { return same(r, table.Row{}) }

func add(t *testing.T, b *table.Table, l ...table.Row) {
	t.Helper()
	for _, r := range l {
		if err := b.Add(r); err != nil {
			t.Fatal("Add:", err)
		}
	}
}

func ids(b *table.Table) (l []int) {
	for _, r := range b.All() {
		l = append(l, r.ID)
	}
	return l
}

func holds(t *testing.T, b *table.Table, next int, want ...int) {
	t.Helper()
	got := ids(b)
	ok := len(got) == len(want) && b.Next() == next
	for i := range want {
		ok = ok && got[i] == want[i]
	}
	if !ok {
		t.Errorf("rows %v, next %d, want %v, %d", got, b.Next(), want, next)
	}
}

func TestZeroValue(t *testing.T) {
	var b table.Table
	holds(t, &b, 1)
	if r, ok := b.Get(1); ok || !zero(r) {
		t.Error(r, ok)
	}
	if b.Set(table.Row{ID: 1}) || b.Drop(1) {
		t.Error("Set or Drop of none")
	}
}

func TestAdd(t *testing.T) {
	var b table.Table
	add(t, &b, table.Row{ID: 1}, table.Row{ID: 2}, table.Row{ID: 9})
	holds(t, &b, 10, 1, 2, 9)
	for _, id := range []int{9, 8, 1, 0, -1, math.MinInt, 1 << 31, math.MaxInt} {
		if err := b.Add(table.Row{ID: id}); err != api.ErrOpen {
			t.Error(id, err)
		}
	}
	holds(t, &b, 10, 1, 2, 9)
	for i := range api.MaxMoves - 3 {
		add(t, &b, table.Row{ID: 20 + i})
	}
	for _, id := range []int{100, 1} {
		if err := b.Add(table.Row{ID: id}); err != api.ErrLimit {
			t.Error("one row too many:", id, err)
		}
	}
	b.Drop(9)
	add(t, &b, table.Row{ID: 1<<31 - 1})
	holds(t, &b, 1<<31, 1, 2, 20, 21, 22, 23, 24, 1<<31-1)
	b.Drop(1)
	if err := b.Add(table.Row{ID: b.Next()}); err != api.ErrOpen {
		t.Error("behind the greatest ID:", err)
	}
}

func TestDropLeavesNext(t *testing.T) {
	var b table.Table
	add(t, &b, table.Row{ID: 1}, table.Row{ID: 4})
	if !b.Drop(4) || b.Drop(4) || b.Drop(2) || b.Drop(-1) {
		t.Error("Drop")
	}
	holds(t, &b, 5, 1)
	if err := b.Add(table.Row{ID: 4}); err != api.ErrOpen {
		t.Error(err)
	}
	if !b.Drop(1) {
		t.Error("Drop")
	}
	holds(t, &b, 5)
}

func TestGetAndSet(t *testing.T) {
	var b table.Table
	up, down := upRow(1, api.Going), downRow(t, 3, api.Paused, 1)
	add(t, &b, up, down)
	for _, want := range []table.Row{up, down} {
		if r, ok := b.Get(want.ID); !ok || !same(r, want) {
			t.Error(r, ok)
		}
	}
	for _, id := range []int{0, 2, 4, -1} {
		if r, ok := b.Get(id); ok || !zero(r) || b.Set(table.Row{ID: id}) {
			t.Error(id, r, ok)
		}
	}
	changed := upRow(1, api.Paused)
	changed.Up.At = 77
	changed.Blob = []byte{1}
	if !b.Set(changed) {
		t.Error("Set")
	}
	if r, _ := b.Get(1); !same(r, changed) {
		t.Error(r)
	}
	if r, _ := b.Get(3); !same(r, down) {
		t.Error("Set changed another row:", r)
	}
	holds(t, &b, 4, 1, 3)
	all := b.All()
	if len(all) != 2 || !same(all[0], changed) || !same(all[1], down) {
		t.Error(all)
	}
}

func TestMemory(t *testing.T) {
	var b table.Table
	row := upRow(1, api.Going)
	add(t, &b, row, upRow(2, api.Going))
	spoil := func(blob []byte) {
		_ = append(blob, 99)
		clear(blob)
	}
	spoil(row.Blob)
	got, _ := b.Get(1)
	spoil(got.Blob)
	all := b.All()
	spoil(all[0].Blob)
	_ = append(all, table.Row{ID: 3})
	all[1] = table.Row{ID: 5}
	row = upRow(2, api.Going)
	b.Set(row)
	spoil(row.Blob)
	for id := 1; id <= 2; id++ {
		if r, _ := b.Get(id); !same(r, upRow(id, api.Going)) {
			t.Error(id, r)
		}
	}
	state := b.Bytes()
	kept := bytes.Clone(state)
	again, err := table.Read(state)
	if err != nil {
		t.Fatal(err)
	}
	spoil(state)
	if !bytes.Equal(b.Bytes(), kept) || !bytes.Equal(again.Bytes(), kept) {
		t.Error("the encoding is shared")
	}
}

func TestTold(t *testing.T) {
	n := len(upRow(1, 1).Blob)
	ended := downRow(t, 5, api.Cancelled, 2)
	ended.Down = nil
	odd := upRow(6, api.Done)
	odd.Down = downTo(t, 2)
	noDown := upRow(8, api.Going)
	noDown.Kind = api.Down
	for _, c := range []struct {
		r    table.Row
		want api.Move
	}{
		{upRow(1, api.Going), api.Move{ID: 1, Kind: api.Up, State: api.Going, Size: 25, Have: 50, All: n}},
		{upRow(2, api.Paused), api.Move{ID: 2, Kind: api.Up, State: api.Paused, Size: 25, Have: 50, All: n}},
		{upRow(3, api.Done), api.Move{ID: 3, Kind: api.Up, State: api.Done, Size: 25}},
		{upRow(3, api.Cancelled), api.Move{ID: 3, Kind: api.Up, State: api.Cancelled, Size: 25}},
		{upRow(3, api.Failed), api.Move{ID: 3, Kind: api.Up, State: api.Failed, Size: 25}},
		{downRow(t, 4, api.Going, -1), api.Move{ID: 4, Kind: api.Down, State: api.Going, Size: 25, All: 3}},
		{downRow(t, 4, api.Paused, 2), api.Move{ID: 4, Kind: api.Down, State: api.Paused, Size: 25, Have: 2, All: 3}},
		{downRow(t, 4, api.Failed, 2), api.Move{ID: 4, Kind: api.Down, State: api.Failed, Size: 25, Have: 2, All: 3}},
		{ended, api.Move{ID: 5, Kind: api.Down, State: api.Cancelled, Size: 25}},
		{odd, api.Move{ID: 6, Kind: api.Up, State: api.Done, Size: 25, Have: 2, All: 3}},
		{noDown, api.Move{ID: 8, Kind: api.Down, State: api.Going, Size: 25}},
		{table.Row{}, api.Move{}},
	} {
		if got := table.Told(c.r); got != c.want {
			t.Error(got, "want", c.want)
		}
	}
}

func TestEnd(t *testing.T) {
	for _, state := range []int{api.Done, api.Cancelled, api.Failed, 77} {
		left := api.Desc{ID: 7, Size: 25, Chunk: 10}
		if got := table.End(upRow(3, api.Going), state); !same(got, table.Row{ID: 3, Kind: api.Up, State: state, Desc: left}) {
			t.Error(state, got)
		}
		want := table.Row{ID: 4, Kind: api.Down, State: state, Desc: left}
		row := downRow(t, 4, api.Paused, 2)
		row.Blob = []byte{1, 2}
		if state == api.Done {
			want.Blob = append(ramp(20), 0, 0, 0, 0, 0)
		}
		got := table.End(row, state)
		if !same(got, want) {
			t.Error(state, got)
		}
		clear(got.Blob)
		if !bytes.Equal(row.Down.Data(), ramp(20)) || !bytes.Equal(row.Blob, []byte{1, 2}) {
			t.Error("End changed its argument")
		}
	}
}
