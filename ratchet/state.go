package ratchet

import (
	"courier/api"
	"courier/code"
	"courier/skip"
	"courier/trap"
)

const keySize = 32

// Bytes is the encoding of the ratchet (P15.3).
func (r *Ratchet) Bytes() []byte {
	var w code.Writer
	w.Raw(r.seed[:])
	w.U32(r.drawn)
	w.Raw(r.own[:])
	writeMaybe(&w, r.other)
	w.Raw(r.root[:])
	writeMaybe(&w, r.sending)
	writeMaybe(&w, r.receiving)
	w.U32(r.sent)
	w.U32(uint32(r.received))
	w.U32(r.previous)
	entries := r.kept.All()
	w.U8(len(entries))
	for _, e := range entries {
		w.Raw(e.DH[:])
		w.U32(e.N)
		w.Raw(e.Key[:])
	}
	return w.Bytes()
}

func writeMaybe(w *code.Writer, m maybe) {
	there := 0
	if m.there {
		there = 1
	}
	w.U8(there)
	w.Raw(m.key[:])
}

// Read is the ratchet that b encodes (P15.3).
func Read(b []byte) (*Ratchet, error) {
	var n Ratchet
	err := code.Read(b, func(r *code.Reader) {
		n.seed = readKey(r)
		n.drawn = r.U32()
		n.own = readKey(r)
		n.other = readMaybe(r)
		n.root = readKey(r)
		n.sending = readMaybe(r)
		n.receiving = readMaybe(r)
		n.sent = r.U32()
		n.received = uint64(r.U32())
		n.previous = r.U32()
		n.kept.Load(readEntries(r)...)
	})
	if err != nil {
		return nil, err
	}
	return &n, nil
}

func readKey(r *code.Reader) api.Key { return api.Key(r.Raw(keySize)) }

func readMaybe(r *code.Reader) maybe {
	there := r.Bool()
	key := readKey(r)
	if !there {
		return maybe{}
	}
	return some(key)
}

func readEntries(r *code.Reader) []skip.Entry {
	at := r.At()
	n := r.U8()
	if n > api.MaxKept {
		trap.Fail(at, api.ErrRange)
	}
	entries := make([]skip.Entry, n)
	for i := range entries {
		entries[i].DH = readKey(r)
		entries[i].N = r.U32()
		entries[i].Key = readKey(r)
	}
	return entries
}
