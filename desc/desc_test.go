package desc_test

import (
	"bytes"
	"crypto/sha256"
	"math"
	"testing"

	"courier/api"
	"courier/desc"
	"courier/stream"
	"courier/tree"
)

func ramp(from, n int) []byte {
	b := make([]byte, n)
	for i := range b {
		b[i] = byte(from + i)
	}
	return b
}

func sample() api.Desc {
	return api.Desc{ID: 0x04030201, Size: 0x0102, Chunk: 0x20, Key: api.Key(ramp(10, 32)), Root: api.Hash(ramp(60, 32)), Blob: api.Hash(ramp(110, 32))}
}

func TestCheck(t *testing.T) {
	for _, c := range []struct {
		size, chunk uint32
		want        error
	}{
		{0, 1, nil}, {0, 64, nil}, {600, 1, nil}, {600, 64, nil}, {17, 30, nil},
		{601, 1, api.ErrRange}, {math.MaxUint32, 5, api.ErrRange},
		{0, 0, api.ErrRange}, {0, 65, api.ErrRange}, {600, math.MaxUint32, api.ErrRange}, {601, 0, api.ErrRange},
	} {
		if got := desc.Check(api.Desc{ID: math.MaxUint32, Size: c.size, Chunk: c.chunk}); got != c.want {
			t.Error(c, got)
		}
	}
}

func TestBytesAndRead(t *testing.T) {
	want := append([]byte{1, 2, 3, 4, 2, 1, 0, 0, 0x20, 0, 0, 0}, bytes.Join([][]byte{ramp(10, 32), ramp(60, 32), ramp(110, 32)}, nil)...)
	got := desc.Bytes(sample())
	if !bytes.Equal(got, want) || len(got) != 108 {
		t.Error(got)
	}
	for _, d := range []api.Desc{sample(), {Chunk: 1}, {ID: math.MaxUint32, Size: 600, Chunk: 64}} {
		if back, err := desc.Read(desc.Bytes(d)); err != nil || back != d {
			t.Error(back, err)
		}
	}
}

func TestReadOfWrongBytes(t *testing.T) {
	whole := desc.Bytes(sample())
	places := []int{0, 4, 8, 12, 44, 76, 108}
	for i, from := range places[:len(places)-1] {
		for n := from; n < places[i+1]; n++ {
			d, err := desc.Read(whole[:n])
			at, ok := err.(*api.At)
			if !ok || at.Pos != from || at.Err != api.ErrShort || d != (api.Desc{}) {
				t.Error(n, d, err)
			}
		}
	}
	wrong := sample()
	wrong.Size = 601
	for _, b := range [][]byte{append(whole, 0), append(desc.Bytes(wrong), 0)} {
		d, err := desc.Read(b)
		if at, ok := err.(*api.At); !ok || at.Pos != 108 || at.Err != api.ErrTrail || d != (api.Desc{}) {
			t.Error(d, err)
		}
	}
	for _, d := range []api.Desc{wrong, {Size: 5}, {Chunk: 65}, {Size: math.MaxUint32, Chunk: math.MaxUint32}} {
		if got, err := desc.Read(desc.Bytes(d)); err != api.ErrRange || got != (api.Desc{}) {
			t.Error(d, got, err)
		}
	}
}

func TestTotalAndPlace(t *testing.T) {
	if got := desc.Total(api.Desc{Chunk: 7}); got != 48 {
		t.Error("an empty file:", got)
	}
	for _, size := range []int{0, 1, 4, 5, 6, 10, 11, 63, 64, 65, 599, 600} {
		for _, chunk := range []int{1, 2, 5, 63, 64} {
			d := api.Desc{Size: uint32(size), Chunk: uint32(chunk)}
			n := max(1, (size+chunk-1)/chunk)
			at := 32 * n
			for i := range n {
				want := 16 + min(chunk, size-i*chunk)
				if off, length := desc.Place(d, i); off != at || length != want {
					t.Error(size, chunk, i, off, length)
				}
				at += want
			}
			if got := desc.Total(d); got != at {
				t.Error(size, chunk, got)
			}
			for _, i := range []int{-1, math.MinInt, n, n + 1, math.MaxInt} {
				if off, length := desc.Place(d, i); off != 0 || length != 0 {
					t.Error(size, chunk, i, off, length)
				}
			}
		}
	}
	odd := api.Desc{Size: math.MaxUint32} // Check refuses it; it must not stop anyone
	desc.Total(odd)
	desc.Place(odd, 5)
}

func TestMake(t *testing.T) {
	key := api.Key(ramp(77, 32))
	for _, size := range []int{0, 1, 5, 6, 64, 200, 600} {
		for _, chunk := range []int{1, 5, 64} {
			file := ramp(size, size)
			d, blob := desc.Make(9, file, chunk, key)
			var leaves []api.Hash
			var head, body []byte
			for i, sealed := range stream.All(key, file, chunk) {
				leaf := tree.Leaf(sealed)
				leaves = append(leaves, leaf)
				head = append(head, leaf[:]...)
				body = append(body, sealed...)
				off, n := desc.Place(d, i)
				if off+n > len(blob) || !bytes.Equal(blob[off:off+n], sealed) {
					t.Error(size, chunk, "chunk", i, "is not at its place")
				}
			}
			want := append(head, body...)
			if !bytes.Equal(blob, want) || len(blob) != desc.Total(d) {
				t.Error(size, chunk, len(blob))
			}
			if d != (api.Desc{ID: 9, Size: uint32(size), Chunk: uint32(chunk), Key: key, Root: tree.Root(leaves...), Blob: sha256.Sum256(want)}) {
				t.Error(size, chunk, d)
			}
			if desc.Check(d) != nil || !bytes.Equal(file, ramp(size, size)) {
				t.Error(size, chunk, "Check, or a changed file")
			}
		}
	}
}

func TestMakeOfWrongSizes(t *testing.T) {
	for _, c := range [][2]int{{601, 5}, {5, 0}, {5, -1}, {5, 65}, {5, 1 << 32}, {5, 1<<32 + 5}, {5, math.MinInt}, {5, math.MaxInt}, {1000, 0}} {
		d, blob := desc.Make(1, make([]byte, c[0]), c[1], api.Key{1})
		if d != (api.Desc{}) || len(blob) != 0 {
			t.Error(c, d, len(blob))
		}
	}
}
