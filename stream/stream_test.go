package stream_test

import (
	"bytes"
	"math"
	"testing"

	"courier/aead"
	"courier/api"
	"courier/stream"
)

var key = api.Key{1, 2, 3, 31: 9}

func ramp(n int) []byte {
	b := make([]byte, n)
	for i := range b {
		b[i] = byte(i*5 + i>>8 + 1)
	}
	return b
}

func TestCount(t *testing.T) {
	for _, c := range []struct{ size, chunk, want int }{
		{0, 5, 1}, {0, 1, 1}, {0, 0, 1}, {0, -3, 1},
		{1, 5, 1}, {4, 5, 1}, {5, 5, 1}, {6, 5, 2}, {10, 5, 2}, {11, 5, 3},
		{600, 64, 10}, {600, 1, 600}, {600, 0, 600}, {600, -1, 600}, {600, math.MinInt, 600}, {600, 599, 2}, {600, 600, 1}, {600, 601, 1},
	} {
		if got := stream.Count(c.size, c.chunk); got != c.want {
			t.Errorf("Count(%d, %d) = %d, want %d", c.size, c.chunk, got, c.want)
		}
	}
}

func TestPiece(t *testing.T) {
	file := ramp(23)
	for _, chunk := range []int{-2, 0, 1, 2, 5, 22, 23, 24, 64} {
		var all []byte
		n := stream.Count(len(file), chunk)
		for i := range n {
			p := stream.Piece(file, chunk, i)
			if want := max(chunk, 1); len(p) != want && i < n-1 || len(p) > want || len(p) == 0 {
				t.Error(chunk, i, len(p))
			}
			all = append(all, p...)
		}
		if !bytes.Equal(all, file) {
			t.Error("the pieces of", chunk, "are", all)
		}
		for _, i := range []int{-1, math.MinInt, n, n + 1, math.MaxInt, math.MaxInt/2 + 1, math.MaxInt/5 + 1} {
			if p := stream.Piece(file, chunk, i); len(p) != 0 {
				t.Error(chunk, i, p)
			}
		}
	}
	for _, i := range []int{-1, 0, 1} {
		if p := stream.Piece(nil, 5, i); len(p) != 0 {
			t.Error("of no file:", p)
		}
	}
}

func TestPieceIsNewMemory(t *testing.T) {
	file := ramp(20)
	p := stream.Piece(file, 5, 1)
	p = append(p, 99)
	p[0] = 99
	if !bytes.Equal(file, ramp(20)) {
		t.Error(file)
	}
}

func TestSealAndOpen(t *testing.T) {
	for _, i := range []uint32{0, 1, 255, 256, 0x01020304, math.MaxUint32} {
		for _, last := range []bool{false, true} {
			nonce := [12]byte{7: byte(i >> 24), 8: byte(i >> 16), 9: byte(i >> 8), 10: byte(i)}
			if last {
				nonce[11] = 1
			}
			text := ramp(int(i % 70))
			sealed := stream.Seal(key, i, last, text)
			if !bytes.Equal(sealed, aead.Seal(key, nonce, nil, text)) {
				t.Errorf("chunk %d, %v: %x", i, last, sealed)
			}
			if got, err := stream.Open(key, i, last, sealed); err != nil || !bytes.Equal(got, text) {
				t.Error(i, last, got, err)
			}
			for name, open := range map[string]func() ([]byte, error){
				"last":   func() ([]byte, error) { return stream.Open(key, i, !last, sealed) },
				"number": func() ([]byte, error) { return stream.Open(key, i+1, last, sealed) },
				"key":    func() ([]byte, error) { return stream.Open(api.Key{}, i, last, sealed) },
				"tag":    func() ([]byte, error) { return stream.Open(key, i, last, append(bytes.Clone(sealed), 1)) },
			} {
				if got, err := open(); err != api.ErrTag || len(got) != 0 {
					t.Error("another", name, got, err)
				}
			}
		}
	}
	if got, err := stream.Open(key, 0, true, make([]byte, 15)); err != api.ErrShort || len(got) != 0 {
		t.Error(got, err)
	}
}

func TestAll(t *testing.T) {
	for _, size := range []int{0, 1, 4, 5, 6, 10, 23, 300} {
		for _, chunk := range []int{-1, 1, 5, 64, 400} {
			file := ramp(size)
			l := stream.All(key, file, chunk)
			if len(l) != stream.Count(size, chunk) {
				t.Fatal(size, chunk, len(l))
			}
			var all []byte
			for i, sealed := range l {
				p, err := stream.Open(key, uint32(i), i == len(l)-1, sealed)
				if err != nil {
					t.Error(size, chunk, i, err)
				}
				all = append(all, p...)
			}
			if !bytes.Equal(all, file) || !bytes.Equal(file, ramp(size)) {
				t.Error(size, chunk, all)
			}
		}
	}
	l := stream.All(key, ramp(10), 5)
	second := bytes.Clone(l[1])
	_ = append(l[0], 1, 2, 3)
	clear(l[0])
	if !bytes.Equal(l[1], second) {
		t.Error("the chunks share memory")
	}
}
