// Package fault is layer 1: errors, one around the other: see shared/doc/01-fault.md.
package fault

import (
	"errors"
	"slices"
	"strings"

	"gudgeon/api"
)

// fault is used by its pointer alone, so that it can be held against any error, whatever its inner one is.
type fault struct {
	op    string
	code  api.Errno
	inner error
	known bool // of the inner error, so that a long chain need not be walked to tell it
}

// New is a fault.
func New(op string, code api.Errno, inner error) error {
	return &fault{op: op, code: code, inner: inner, known: known(inner)}
}

// Chain is causes, one around the other.
func Chain(l []api.Cause) error {
	var e error
	for _, c := range slices.Backward(l) {
		e = New(c.Op, c.Code, e)
	}
	return e
}

// Text is an error's text.
func Text(e error) string {
	var b strings.Builder
	e = trim(e)
	for f := outermost(e); f != nil; f = outermost(f.inner) {
		if b.Len() > 0 {
			b.WriteString(": ")
		}
		b.WriteString(f.op)
		b.WriteString(" (")
		b.WriteString(f.code.Error())
		b.WriteString(")")
	}
	if n, ok := innermost(e); ok {
		if b.Len() > 0 {
			b.WriteString(": ")
		}
		b.WriteString(n.Error())
	}
	return b.String()
}

// Has tells whether a code is within.
func Has(e error, code api.Errno) bool {
	return errors.Is(trim(e), code)
}

// First is the outermost code that is not OK.
func First(e error) api.Errno {
	e = trim(e)
	for f := outermost(e); f != nil; f = outermost(f.inner) {
		if f.code != api.OK {
			return f.code
		}
	}
	n, _ := innermost(e)
	return n
}

// Ops is what all were about.
func Ops(e error) []string {
	var l []string
	for f := outermost(trim(e)); f != nil; f = outermost(f.inner) {
		l = append(l, f.op)
	}
	return l
}

// Depth is how many there are.
func Depth(e error) int {
	n := 0
	for f := outermost(trim(e)); f != nil; f = outermost(f.inner) {
		n++
	}
	return n
}

// React is what one does about a code.
func React(code api.Errno) (refresh, again, forget bool) {
	switch code {
	case api.ErrRange, api.ErrOld:
		refresh = true
		fallthrough
	case api.ErrWait:
		again = true
	case api.ErrBusy, api.ErrNone, api.ErrSame, api.ErrExhausted:
		forget = true
	}
	return refresh, again, forget
}

// Error is the text of a fault with all that is within. It is made in one go: fault by fault would take
// time by the square of a chain's length.
func (f *fault) Error() string { return Text(f) }

// Unwrap is the inner error, as it was handed in.
func (f *fault) Unwrap() error {
	if f == nil {
		return nil
	}
	return f.inner
}

// Is lets errors.Is find the Code, which is no error within.
func (f *fault) Is(target error) bool {
	return f != nil && target == error(f.code)
}

// known tells whether an error is made of faults and Errnos alone.
func known(e error) bool {
	switch x := e.(type) {
	case nil, api.Errno:
		return true
	case *fault:
		return x != nil && x.known
	}
	return false
}

// trim is the outer part of an error that is made of faults and Errnos alone. Only that is walked:
// methods of errors that others made may panic or never end, so none of them is called.
func trim(e error) error {
	if known(e) {
		return e
	}
	var l []api.Cause
	for f := asFault(e); f != nil; f = asFault(f.inner) {
		l = append(l, api.Cause{Op: f.op, Code: f.code})
	}
	return Chain(l)
}

// asFault is the fault that an error itself is; nil: it is none. It looks no further, as errors.As would.
func asFault(e error) *fault {
	if f, ok := e.(*fault); ok {
		return f
	}
	return nil
}

// outermost is the outermost fault of a trimmed error; nil: there is none.
func outermost(e error) *fault {
	var f *fault
	if errors.As(e, &f) {
		return f
	}
	return nil
}

// innermost is the Errno that all faults of a trimmed error stand around; false: there is none.
func innermost(e error) (api.Errno, bool) {
	var n api.Errno
	ok := errors.As(e, &n)
	return n, ok
}
