package client

import (
	"courier/api"
	"courier/code"
	"courier/desc"
	"courier/download"
	"courier/pace"
	"courier/ratchet"
	"courier/table"
	"courier/trap"
	"courier/upload"
)

const (
	mostPacket  = 400
	mostPackets = api.MaxOut + 1 // a file that is up adds one without asking how many wait
)

// state is what is saved of a client.
type state struct {
	ratchet *ratchet.Ratchet
	table   *table.Table
	packets [][]byte
}

func (s *state) bytes() []byte {
	var w code.Writer
	w.List(s.ratchet.Bytes())
	w.List(s.table.Bytes())
	w.U8(len(s.packets))
	for _, p := range s.packets {
		w.List(p)
	}
	return w.Bytes()
}

func readState(b []byte) (*state, error) {
	var s state
	var ratchetBytes, tableBytes []byte
	err := code.Read(b, func(r *code.Reader) {
		ratchetBytes = r.List(api.MaxBlob)
		tableBytes = r.List(api.MaxBlob)
		s.packets = readPackets(r)
	})
	if err != nil {
		return nil, err
	}
	if s.ratchet, err = ratchet.Read(ratchetBytes); err != nil {
		return nil, err
	}
	if s.table, err = table.Read(tableBytes); err != nil {
		return nil, err
	}
	return &s, nil
}

func readPackets(r *code.Reader) [][]byte {
	at := r.At()
	n := r.U8()
	if n > mostPackets {
		trap.Fail(at, api.ErrRange)
	}
	packets := make([][]byte, n)
	for i := range packets {
		packets[i] = r.List(mostPacket)
	}
	return packets
}

// send seals a message of that kind, and lets it wait.
func (s *state) send(kind byte, b []byte) error {
	p, err := s.ratchet.Seal(append([]byte{kind}, b...))
	if err != nil {
		return err
	}
	s.packets = append(s.packets, p)
	return nil
}

func (s *state) receive(p []byte) (api.Got, error) {
	b, err := s.ratchet.Open(p)
	if err != nil {
		return api.Got{}, err
	}
	if len(b) == 0 {
		return api.Got{}, api.ErrForm
	}
	switch kind, rest := b[0], b[1:]; kind {
	case api.Text:
		if len(rest) <= api.MaxText {
			return api.Got{Kind: api.Text, Text: string(rest)}, nil
		}
	case api.File:
		if d, err := desc.Read(rest); err == nil {
			return s.receiveFile(d)
		}
	}
	return api.Got{}, api.ErrForm
}

func (s *state) receiveFile(d api.Desc) (api.Got, error) {
	id := s.table.Next()
	row := table.Row{ID: id, Kind: api.Down, State: api.Going, Desc: d, Down: download.New(d)}
	if err := s.table.Add(row); err != nil {
		return api.Got{}, err
	}
	return api.Got{Kind: api.File, ID: id}, nil
}

// request is what a row asks of the relay now.
func (s *state) request(r table.Row) (api.Request, bool) {
	switch {
	case r.State != api.Going:
		return api.Request{}, false
	case r.Kind == api.Down:
		return r.Down.Ask()
	case len(s.packets) >= api.MaxOut: // there might be no room for the message that describes the file
		return api.Request{}, false
	}
	return r.Up.Ask(r.Desc.Blob, r.Blob)
}

// answer leads a row on that is Going.
func (s *state) answer(id int, p api.Response) error {
	r, err := s.find(id, api.Going)
	if err != nil {
		return err
	}
	if r.Kind == api.Down {
		r = answerDown(r, p)
	} else if r, err = s.answerUp(r, p); err != nil {
		return err
	}
	s.table.Set(r)
	return nil
}

func (s *state) answerUp(r table.Row, p api.Response) (table.Row, error) {
	if r.Up.Answer(len(r.Blob), p) {
		return table.End(r, api.Failed), nil
	}
	if r.Up.Phase != upload.Done {
		return r, nil
	}
	if err := s.send(api.File, desc.Bytes(r.Desc)); err != nil {
		return table.Row{}, err
	}
	return table.End(r, api.Done), nil
}

func answerDown(r table.Row, p api.Response) table.Row {
	if r.Down.Answer(p) {
		return table.End(r, api.Failed)
	}
	if r.Down.Done() {
		return table.End(r, api.Done)
	}
	return r
}

// paceOf is the pace of the side on which the row works.
func paceOf(r *table.Row) *pace.Pace {
	if r.Kind == api.Down {
		return r.Down.Pace()
	}
	return &r.Up.Pace
}

// waits tells whether a tick changes anything.
func (s *state) waits() bool {
	for _, r := range s.table.All() {
		if r.State == api.Going && paceOf(&r).Wait > 0 {
			return true
		}
	}
	return false
}

func (s *state) tick() {
	for _, r := range s.table.All() {
		if r.State == api.Going {
			paceOf(&r).Tick()
			s.table.Set(r)
		}
	}
}
