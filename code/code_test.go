package code_test

import (
	"bytes"
	"errors"
	"math"
	"testing"

	"courier/api"
	"courier/code"
	"courier/trap"
)

// around tells whether err is want around that place.
func around(err error, pos int, want error) bool {
	at, ok := err.(*api.At)
	return ok && at.Pos == pos && at.Err == want
}

func TestWriter(t *testing.T) {
	var w code.Writer
	if len(w.Bytes()) != 0 {
		t.Error("the zero value has bytes")
	}
	w.U8(7)
	w.U8(256 + 9)
	w.U8(-1)
	w.U8(math.MinInt)
	w.U32(0x04030201)
	w.U32(math.MaxUint32)
	w.Raw([]byte{5, 6})
	w.Raw(nil)
	w.List([]byte{8, 9, 10})
	w.List(nil)
	w.List(make([]byte, 0x102))
	want := []byte{7, 9, 255, 0, 1, 2, 3, 4, 255, 255, 255, 255, 5, 6, 3, 0, 0, 0, 8, 9, 10, 0, 0, 0, 0, 2, 1, 0, 0}
	want = append(want, make([]byte, 0x102)...)
	if got := w.Bytes(); !bytes.Equal(got, want) {
		t.Error(got)
	}
}

func TestWriterSharesNothing(t *testing.T) {
	var w code.Writer
	b := []byte{1, 2, 3}
	w.Raw(b)
	w.List(b)
	clear(b)
	first := w.Bytes()
	first = append(first, 66, 77)
	first[0] = 99
	w.U8(4)
	second := w.Bytes()
	if want := []byte{1, 2, 3, 3, 0, 0, 0, 1, 2, 3, 4}; !bytes.Equal(second, want) {
		t.Error(second)
	}
	if first[10] != 66 {
		t.Error("writing went on in what was handed out")
	}
}

func TestReadOfWhatWasWritten(t *testing.T) {
	var w code.Writer
	w.U8(200)
	w.U32(4000000000)
	w.Raw([]byte{1, 2, 3})
	w.List([]byte{4, 5})
	w.List(nil)
	w.U8(0)
	w.U8(1)
	var places []int
	err := code.Read(w.Bytes(), func(r *code.Reader) {
		place := func() { places = append(places, r.At()) }
		place()
		if n := r.U8(); n != 200 {
			t.Error("U8", n)
		}
		place()
		if n := r.U32(); n != 4000000000 {
			t.Error("U32", n)
		}
		place()
		if b := r.Raw(3); !bytes.Equal(b, []byte{1, 2, 3}) {
			t.Error("Raw", b)
		}
		if b := r.Raw(0); len(b) != 0 {
			t.Error("Raw(0)", b)
		}
		place()
		if b := r.List(2); !bytes.Equal(b, []byte{4, 5}) {
			t.Error("List", b)
		}
		place()
		if b := r.List(0); len(b) != 0 {
			t.Error("List(0)", b)
		}
		place()
		if r.Bool() || !r.Bool() {
			t.Error("Bool")
		}
		place()
	})
	if err != nil {
		t.Error(err)
	}
	for i, want := range []int{0, 1, 5, 8, 14, 18, 20} {
		if places[i] != want {
			t.Error("At", places)
		}
	}
}

func TestReadOfNothing(t *testing.T) {
	for _, b := range [][]byte{nil, {}} {
		if err := code.Read(b, func(r *code.Reader) {}); err != nil {
			t.Error(err)
		}
	}
}

func TestReadLeavesNothing(t *testing.T) {
	if err := code.Read([]byte{1}, func(r *code.Reader) {}); !around(err, 0, api.ErrTrail) {
		t.Error(err)
	}
	if err := code.Read([]byte{1, 2, 3}, func(r *code.Reader) { r.Raw(2) }); !around(err, 2, api.ErrTrail) {
		t.Error(err)
	}
	err := code.Read([]byte{1, 2, 3}, func(r *code.Reader) { trap.Must(api.ErrGap) })
	if err != api.ErrGap {
		t.Error("what f answers comes ahead of the bytes that are left:", err)
	}
}

func TestWhatCannotBeRead(t *testing.T) {
	list := []byte{9, 4, 0, 0, 0, 1, 2, 3, 4}
	for name, c := range map[string]struct {
		b    []byte
		f    func(r *code.Reader)
		pos  int
		want error
	}{
		"U8":                {nil, func(r *code.Reader) { r.U8() }, 0, api.ErrShort},
		"U8 behind one":     {[]byte{1}, func(r *code.Reader) { r.U8(); r.U8() }, 1, api.ErrShort},
		"U32":               {[]byte{1, 2, 3, 4, 5}, func(r *code.Reader) { r.Raw(2); r.U32() }, 2, api.ErrShort},
		"U32 of nothing":    {nil, func(r *code.Reader) { r.U32() }, 0, api.ErrShort},
		"Raw":               {[]byte{1, 2, 3}, func(r *code.Reader) { r.U8(); r.Raw(3) }, 1, api.ErrShort},
		"Raw of most":       {[]byte{1, 2, 3}, func(r *code.Reader) { r.U8(); r.Raw(math.MaxInt) }, 1, api.ErrShort},
		"Raw below 0":       {[]byte{1, 2, 3}, func(r *code.Reader) { r.U8(); r.Raw(-1) }, 1, api.ErrRange},
		"Raw of least":      {nil, func(r *code.Reader) { r.Raw(math.MinInt) }, 0, api.ErrRange},
		"List, no length":   {list[:4], func(r *code.Reader) { r.U8(); r.List(100) }, 1, api.ErrShort},
		"List, short of 0":  {list[:4], func(r *code.Reader) { r.U8(); r.List(-1) }, 1, api.ErrShort},
		"List, too long":    {list, func(r *code.Reader) { r.U8(); r.List(3) }, 1, api.ErrRange},
		"List, both":        {list[:8], func(r *code.Reader) { r.U8(); r.List(3) }, 1, api.ErrRange},
		"List, ends":        {list[:8], func(r *code.Reader) { r.U8(); r.List(4) }, 1, api.ErrShort},
		"List, at once":     {list[:5], func(r *code.Reader) { r.U8(); r.List(math.MaxInt) }, 1, api.ErrShort},
		"List, below 0":     {make([]byte, 4), func(r *code.Reader) { r.List(-1) }, 0, api.ErrRange},
		"List, the longest": {[]byte{255, 255, 255, 255}, func(r *code.Reader) { r.List(math.MaxInt) }, 0, api.ErrShort},
		"Bool":              {[]byte{1}, func(r *code.Reader) { r.Bool(); r.Bool() }, 1, api.ErrShort},
		"Bool of 2":         {[]byte{1, 2}, func(r *code.Reader) { r.Bool(); r.Bool() }, 1, api.ErrForm},
		"Bool of 255":       {[]byte{255}, func(r *code.Reader) { r.Bool() }, 0, api.ErrForm},
	} {
		if err := code.Read(c.b, c.f); !around(err, c.pos, c.want) {
			t.Error(name, err)
		}
	}
	read := func(r *code.Reader) {
		r.U8()
		if b := r.List(4); !bytes.Equal(b, list[5:]) {
			t.Error(b)
		}
	}
	if err := code.Read(list, read); err != nil {
		t.Error("the greatest length itself:", err)
	}
}

func TestReadCatchesPanics(t *testing.T) {
	own := errors.New("own")
	var none []int
	for name, c := range map[string]struct {
		f    func(r *code.Reader)
		want error
	}{
		"nil":      {nil, api.ErrPanic},
		"a text":   {func(r *code.Reader) { panic("text") }, api.ErrPanic},
		"an index": {func(r *code.Reader) { _ = none[r.U8()] }, api.ErrPanic},
		"Must":     {func(r *code.Reader) { r.U8(); trap.Must(own) }, own},
	} {
		if err := code.Read([]byte{1}, c.f); err != c.want {
			t.Error(name, err)
		}
	}
	if err := code.Read([]byte{1}, func(r *code.Reader) { trap.Fail(77, own) }); !around(err, 77, own) {
		t.Error(err)
	}
}

func TestReaderSharesNothing(t *testing.T) {
	b := []byte{1, 2, 3, 4, 2, 0, 0, 0, 5, 6, 7}
	before := bytes.Clone(b)
	err := code.Read(b, func(r *code.Reader) {
		raw := r.Raw(4)
		raw = append(raw, 99)
		raw[0] = 99
		list := r.List(2)
		list = append(list, 99)
		list[0] = 99
		if n := r.U8(); n != 7 {
			t.Error(n)
		}
	})
	if err != nil || !bytes.Equal(b, before) {
		t.Error(err, b)
	}
}
