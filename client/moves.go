package client

import (
	"slices"

	"courier/api"
	"courier/frame"
	"courier/table"
)

// Ask is the next request for the relay (P27.3).
func (c *Client) Ask() ([]byte, error) {
	if c.closed {
		return nil, api.ErrClosed
	}
	c.asked = 0
	for _, r := range c.state.table.All() {
		if q, ok := c.state.request(r); ok {
			c.asked = r.ID
			return frame.Request(q), nil
		}
	}
	return nil, api.ErrNone
}

// Answer processes the response to the outstanding request (P27.3).
func (c *Client) Answer(b []byte) error {
	if c.closed {
		return api.ErrClosed
	}
	id := c.asked
	c.asked = 0
	if id == 0 {
		return api.ErrState
	}
	if r, ok := c.state.table.Get(id); !ok || r.State != api.Going {
		return nil
	}
	p, err := frame.ReadResponse(b)
	if err != nil {
		p = api.Response{Code: frame.Code(api.ErrPanic)}
	}
	return c.change(func(s *state) error { return s.answer(id, p) })
}

// Tick lets a unit of time pass for the transfers (P27.4).
func (c *Client) Tick() error {
	if c.closed {
		return api.ErrClosed
	}
	if !c.state.waits() {
		return nil
	}
	return c.change(func(s *state) error {
		s.tick()
		return nil
	})
}

// find is the row with that ID, if its State is one of those.
func (s *state) find(id int, states ...int) (table.Row, error) {
	r, ok := s.table.Get(id)
	if !ok {
		return table.Row{}, api.ErrNone
	}
	if !slices.Contains(states, r.State) {
		return table.Row{}, api.ErrState
	}
	return r, nil
}

// turn changes the State of a row.
func (c *Client) turn(id, from, to int) error {
	return c.change(func(s *state) error {
		r, err := s.find(id, from)
		if err != nil {
			return err
		}
		r.State = to
		s.table.Set(r)
		return nil
	})
}

// Pause lets a transfer rest (P27.4).
func (c *Client) Pause(id int) error { return c.turn(id, api.Going, api.Paused) }

// Resume lets a transfer go on (P27.4).
func (c *Client) Resume(id int) error { return c.turn(id, api.Paused, api.Going) }

// Cancel ends a transfer (P27.4).
func (c *Client) Cancel(id int) error {
	return c.change(func(s *state) error {
		r, err := s.find(id, api.Going, api.Paused)
		if err != nil {
			return err
		}
		s.table.Set(table.End(r, api.Cancelled))
		return nil
	})
}

// Forget removes a transfer that has ended (P27.4).
func (c *Client) Forget(id int) error {
	return c.change(func(s *state) error {
		if _, err := s.find(id, api.Done, api.Cancelled, api.Failed); err != nil {
			return err
		}
		s.table.Drop(id)
		return nil
	})
}
