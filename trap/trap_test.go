package trap_test

import (
	"errors"
	"math"
	"testing"

	"courier/api"
	"courier/trap"
)

// unlike is an error whose values cannot be held against each other.
type unlike []int

func (unlike) Error() string { return "unlike" }

func TestTryOfWhatReturns(t *testing.T) {
	n := 0
	if err := trap.Try(func() { n++ }); err != nil || n != 1 {
		t.Error(err, n)
	}
	if err := trap.Try(func() { trap.Must(nil) }); err != nil {
		t.Error("Must(nil):", err)
	}
}

func TestFail(t *testing.T) {
	own := errors.New("own")
	for _, c := range []struct {
		at   int
		e    error
		want error
	}{
		{0, api.ErrShort, api.ErrShort},
		{7, own, own},
		{-3, api.ErrForm, api.ErrForm},
		{math.MaxInt, nil, api.ErrPanic},
	} {
		err := trap.Try(func() { trap.Fail(c.at, c.e) })
		at, ok := err.(*api.At)
		if !ok || at.Pos != c.at || at.Err != c.want {
			t.Errorf("Fail(%d, %v): %v", c.at, c.e, err)
		}
	}
	inner := &api.At{Pos: 1, Err: api.ErrTrail}
	err := trap.Try(func() { trap.Fail(2, inner) })
	if at, ok := err.(*api.At); !ok || at.Pos != 2 || at.Err != error(inner) {
		t.Error("an At around an At:", err)
	}
}

func TestMust(t *testing.T) {
	at := &api.At{Pos: 4, Err: api.ErrOld}
	for _, e := range []error{api.ErrOff, errors.New("own"), at} {
		if err := trap.Try(func() { trap.Must(e) }); err != e {
			t.Errorf("Must(%T): %T", e, err)
		}
	}
	if err, ok := trap.Try(func() { trap.Must(unlike{1}) }).(unlike); !ok || len(err) != 1 {
		t.Error("Must of an error that cannot be compared:", err)
	}
}

func TestOtherPanics(t *testing.T) {
	var none []int
	var nowhere *api.At
	var missing map[string]int
	zero := 0
	for name, f := range map[string]func(){
		"a text":       func() { panic("text") },
		"a number":     func() { panic(5) },
		"nil":          func() { panic(nil) },
		"an error":     func() { panic(api.ErrOff) },
		"an At":        func() { panic(&api.At{Pos: 1, Err: api.ErrOff}) },
		"a slice":      func() { panic([]int{1}) },
		"a struct":     func() { panic(struct{ err error }{api.ErrOff}) },
		"an index":     func() { _ = none[zero] },
		"a nil object": func() { nowhere.Pos = 1 },
		"a nil map":    func() { missing["x"] = 1 },
		"a division":   func() { _ = 1 / zero },
	} {
		if err := trap.Try(f); err != api.ErrPanic {
			t.Error(name, err)
		}
	}
	if err := trap.Try(nil); err != api.ErrPanic {
		t.Error("Try(nil):", err)
	}
}

func TestWhatWasDoneRemains(t *testing.T) {
	var l []int
	err := trap.Try(func() {
		defer func() { l = append(l, 3) }()
		l = append(l, 1, 2)
		trap.Fail(0, api.ErrForm)
		l = append(l, 4)
	})
	if !errors.Is(err, api.ErrForm) || len(l) != 3 || l[2] != 3 {
		t.Error(err, l)
	}
}

func TestTryWithinTry(t *testing.T) {
	var inner error
	outer := trap.Try(func() {
		inner = trap.Try(func() { trap.Fail(1, api.ErrShort) })
		trap.Must(api.ErrGap)
	})
	if at, ok := inner.(*api.At); !ok || at.Pos != 1 || at.Err != api.ErrShort || outer != api.ErrGap {
		t.Error(inner, outer)
	}
	outer = trap.Try(func() { inner = trap.Try(func() { panic("inner") }) })
	if inner != api.ErrPanic || outer != nil {
		t.Error("a caught panic went on:", inner, outer)
	}
	outer = trap.Try(func() { trap.Must(trap.Try(func() { trap.Must(api.ErrOld) })) })
	if outer != api.ErrOld {
		t.Error(outer)
	}
}

func TestThrowingAlonePanics(t *testing.T) {
	for name, f := range map[string]func(){
		"Fail": func() { trap.Fail(0, nil) },
		"Must": func() { trap.Must(api.ErrOff) },
	} {
		fell := true
		func() {
			defer func() { recover() }()
			f()
			fell = false
		}()
		if !fell {
			t.Error(name, "did not panic")
		}
	}
	trap.Must(nil)
}
