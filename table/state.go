package table

import (
	"courier/api"
	"courier/code"
	"courier/desc"
	"courier/download"
)

const mostDesc = 108

// Bytes is the encoding of the table (P26.3).
func (t *Table) Bytes() []byte {
	var w code.Writer
	w.U32(uint32(t.Next()))
	w.U8(len(t.rows))
	for _, r := range t.rows {
		w.U32(uint32(r.ID))
		w.U8(r.Kind)
		w.U8(r.State)
		w.List(desc.Bytes(r.Desc))
		w.List(r.Blob)
		w.U8(r.Up.Phase)
		w.U32(uint32(r.Up.At))
		w.U32(uint32(r.Up.Pace.Tries))
		w.U32(uint32(r.Up.Pace.Wait))
		var down []byte
		if r.Down != nil {
			down = r.Down.Bytes()
		}
		w.List(down)
	}
	return w.Bytes()
}

// told is a row whose parts have not been looked at.
type told struct {
	row        Row
	desc, down []byte
}

// Read is the table that b encodes (P26.3).
func Read(b []byte) (*Table, error) {
	var next int
	var list []told
	err := code.Read(b, func(r *code.Reader) {
		next = int(r.U32())
		for range r.U8() {
			list = append(list, readRow(r))
		}
	})
	if err != nil {
		return nil, err
	}
	t := &Table{last: next - 1}
	before := 0
	for _, x := range list {
		row, err := x.checked(before, next)
		if err != nil {
			return nil, err
		}
		t.rows = append(t.rows, row)
		before = row.ID
	}
	if len(t.rows) > api.MaxMoves || next < 1 || next > mostID+1 {
		return nil, api.ErrForm
	}
	return t, nil
}

func readRow(r *code.Reader) told {
	var x told
	x.row.ID = int(r.U32())
	x.row.Kind = r.U8()
	x.row.State = r.U8()
	x.desc = r.List(mostDesc)
	x.row.Blob = r.List(api.MaxBlob)
	x.row.Up.Phase = r.U8()
	x.row.Up.At = int(r.U32())
	x.row.Up.Pace.Tries = int(r.U32())
	x.row.Up.Pace.Wait = int(r.U32())
	x.down = r.List(api.MaxBlob)
	return x
}

// checked is the row with its parts, if it may stand behind the one with the ID before.
func (x told) checked(before, next int) (Row, error) {
	if x.row.ID <= before || x.row.ID >= next || !x.isKnown() {
		return Row{}, api.ErrForm
	}
	var err error
	if x.row.Desc, err = desc.Read(x.desc); err != nil {
		return Row{}, err
	}
	if len(x.down) > 0 {
		if x.row.Down, err = download.Read(x.down); err != nil {
			return Row{}, err
		}
	}
	return x.row, nil
}

// isKnown tells whether there are such rows.
func (x told) isKnown() bool {
	kind, state := x.row.Kind, x.row.State
	if kind != api.Up && kind != api.Down || state < api.Going || state > api.Failed {
		return false
	}
	goesOn := state == api.Going || state == api.Paused
	return !goesOn || kind == api.Up || len(x.down) > 0
}
