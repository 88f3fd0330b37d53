package world

import (
	"bytes"
	"slices"

	"courier/api"
	"courier/client"
	"courier/frame"
)

const mostPackets = 100 // to one client, in the network

// perform performs a step of a kind that there is.
func (w *World) perform(s api.Step) error {
	me := &w.sides[s.S]
	switch s.Kind {
	case api.SendText:
		return me.client.SendText(string(s.Data))
	case api.SendFile:
		_, err := me.client.SendFile(s.Data, s.N, s.Key)
		return err
	case api.Carry:
		return me.carry(&w.sides[1-s.S])
	case api.Deliver, api.Drop, api.Twice, api.Bend:
		return me.onPacket(s)
	case api.Ask:
		return w.ask(me)
	case api.Lose:
		_, err := w.serve(me)
		return err
	case api.Tick:
		return w.tick()
	case api.Spoil:
		return w.spoil(s)
	case api.Fuse:
		me.disk.Fuse(s.N)
		return nil
	case api.Crash:
		return me.crash(s.L)
	}
	return me.onTransfer(s)
}

func (me *side) onTransfer(s api.Step) error {
	switch s.Kind {
	case api.Pause:
		return me.client.Pause(s.A)
	case api.Resume:
		return me.client.Resume(s.A)
	}
	return me.client.Cancel(s.A)
}

// carry brings a packet into the network.
func (me *side) carry(other *side) error {
	if len(other.net) >= mostPackets {
		return api.ErrLimit
	}
	p, err := me.client.Out()
	if err != nil {
		return err
	}
	other.net = append(other.net, p)
	return nil
}

// onPacket does to packet A of the network what the step says.
func (me *side) onPacket(s api.Step) error {
	if len(me.net) == 0 {
		return api.ErrNone
	}
	i := around(s.A, len(me.net))
	p := me.net[i]
	switch s.Kind {
	case api.Twice:
		if len(me.net) >= mostPackets {
			return api.ErrLimit
		}
		me.net = append(me.net, bytes.Clone(p))
		return nil
	case api.Bend:
		if len(p) > 0 {
			p[around(s.N, len(p))] ^= 1
		}
		return nil
	}
	me.net = slices.Delete(me.net, i, i+1)
	if s.Kind == api.Drop {
		return nil
	}
	return me.receive(p)
}

// around is an index of a list of n, whatever i is.
func around(i, n int) int { return max(i, 0) % n }

func (me *side) receive(p []byte) error {
	got, err := me.client.Recv(p)
	if err != nil {
		return err
	}
	if got.Kind == api.Text {
		me.texts = append(me.texts, got.Text)
	}
	return nil
}

// serve lets the relay serve what the client asks.
func (w *World) serve(me *side) ([]byte, error) {
	q, err := me.client.Ask()
	if err != nil {
		return nil, err
	}
	return frame.Serve(w.relay, q), nil
}

func (w *World) ask(me *side) error {
	p, err := w.serve(me)
	if err != nil {
		return err
	}
	return me.client.Answer(p)
}

// tick lets time pass for all, whatever happens to one of them.
func (w *World) tick() error {
	var first error
	for i := range w.sides {
		if err := w.sides[i].client.Tick(); first == nil {
			first = err
		}
	}
	w.relay.Tick()
	return first
}

func (w *World) spoil(s api.Step) error {
	ids := w.relay.All()
	if len(ids) == 0 {
		return api.ErrNone
	}
	w.relay.Spoil(ids[around(s.A, len(ids))], s.N)
	return nil
}

// crash restarts the disk, and opens the client anew if it can be.
func (me *side) crash(keep []int) error {
	me.disk.Crash(keep...)
	c, err := client.Open(me.disk)
	if err != nil {
		return err
	}
	me.client = c
	return nil
}
