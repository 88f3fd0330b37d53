package head_test

import (
	"bytes"
	"math"
	"testing"

	"courier/api"
	"courier/head"
)

func header() (h api.Header) {
	for i := range h.DH {
		h.DH[i] = byte(100 + i)
	}
	h.PN, h.N = 0x04030201, 0x08070605
	return h
}

func encoded() []byte {
	h := header()
	return append(h.DH[:], 1, 2, 3, 4, 5, 6, 7, 8)
}

func around(err error, pos int, want error) bool {
	at, ok := err.(*api.At)
	return ok && at.Pos == pos && at.Err == want
}

func TestBytesAndRead(t *testing.T) {
	if got := head.Bytes(header()); !bytes.Equal(got, encoded()) {
		t.Error(got)
	}
	for _, h := range []api.Header{{}, header(), {PN: math.MaxUint32, N: 1}, {PN: 1, N: math.MaxUint32}} {
		b := head.Bytes(h)
		if len(b) != 40 {
			t.Error(len(b))
		}
		if got, err := head.Read(b); err != nil || got != h {
			t.Error(got, err)
		}
	}
}

func TestReadOfOtherLengths(t *testing.T) {
	for n := range 40 {
		pos := 0
		if n >= 36 {
			pos = 36
		} else if n >= 32 {
			pos = 32
		}
		if h, err := head.Read(encoded()[:n]); !around(err, pos, api.ErrShort) || h != (api.Header{}) {
			t.Error(n, h, err)
		}
		if h, rest, err := head.Cut(encoded()[:n]); !around(err, pos, api.ErrShort) || h != (api.Header{}) || len(rest) != 0 {
			t.Error(n, h, rest, err)
		}
	}
	if h, err := head.Read(append(encoded(), 0)); !around(err, 40, api.ErrTrail) || h != (api.Header{}) {
		t.Error(h, err)
	}
	if _, err := head.Read(nil); !around(err, 0, api.ErrShort) {
		t.Error(err)
	}
}

func TestCut(t *testing.T) {
	for n := range 5 {
		p := append(encoded(), []byte{9, 8, 7, 6, 5}[:n]...)
		before := bytes.Clone(p)
		h, rest, err := head.Cut(p)
		if err != nil || h != header() || !bytes.Equal(rest, p[40:]) {
			t.Error(h, rest, err)
		}
		rest = append(rest, 1, 2, 3)
		clear(rest)
		if !bytes.Equal(p, before) {
			t.Error("the rest shares memory with the packet")
		}
	}
}
