package frame

import (
	"courier/api"
)

const (
	panicCode = 6
	deepest   = 1 << 16 // levels of errors around errors: an error may be around itself
)

// errorList are the errors of package api in the order of their numbers, from 1 on.
func errorList() []error {
	return []error{
		api.ErrOff, api.ErrRange, api.ErrShort, api.ErrTrail, api.ErrForm, api.ErrPanic, api.ErrFull,
		api.ErrStore, api.ErrTag, api.ErrGap, api.ErrOld, api.ErrKey, api.ErrRoot, api.ErrNone,
		api.ErrOpen, api.ErrDigest, api.ErrState, api.ErrLimit, api.ErrClosed,
	}
}

// Code is the number of an error (P21.1).
func Code(e error) int {
	if e == nil {
		return 0
	}
	e = bare(e)
	for i, known := range errorList() {
		if e != nil && e == known {
			return i + 1
		}
	}
	return panicCode
}

// bare is the error within the *api.At around it, if there is one.
func bare(e error) error {
	for range deepest {
		at, ok := e.(*api.At)
		if !ok || at == nil {
			return e
		}
		e = at.Err
	}
	return nil
}

// Err is the error of a number (P21.1).
func Err(code int) error {
	list := errorList()
	switch {
	case code == 0:
		return nil
	case code < 0 || code > len(list):
		return api.ErrPanic
	}
	return list[code-1]
}
