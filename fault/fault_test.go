package fault

import (
	"errors"
	"math"
	"slices"
	"strings"
	"testing"

	"gudgeon/api"
)

// seen is what all calls tell of one error.
type seen struct {
	text  string
	first api.Errno
	ops   []string
	has   []api.Errno // all codes from -1 to 13 that are within
}

func look(e error) seen {
	s := seen{text: Text(e), first: First(e), ops: Ops(e)}
	for c := api.Errno(-1); c <= 13; c++ {
		if Has(e, c) {
			s.has = append(s.has, c)
		}
	}
	return s
}

func (s seen) same(o seen) bool {
	return s.text == o.text && s.first == o.first && slices.Equal(s.ops, o.ops) && slices.Equal(s.has, o.has)
}

func causes(n int, code api.Errno) []api.Cause {
	return slices.Repeat([]api.Cause{{Op: "x", Code: code}}, n)
}

// Fa1, Fa2: what is told of faults and of Errnos, alone and one around the other.
func TestWhatIsTold(t *testing.T) {
	chain := func(l ...api.Cause) error { return Chain(l) }
	tests := []struct {
		name string
		e    error
		want seen
	}{
		{"nothing", nil, seen{}},
		{"an empty chain", chain(), seen{}},
		{"an Errno", api.ErrBusy, seen{"error 8", 8, nil, []api.Errno{8}}},
		{"the Errno OK", api.OK, seen{"error 0", 0, nil, []api.Errno{0}}},
		{"an Errno of no name", api.Errno(13), seen{"error 13", 13, nil, []api.Errno{13}}},
		{"an Errno below zero", api.Errno(-1), seen{"error 0", -1, nil, []api.Errno{-1}}},
		{"one fault", New("read", api.ErrText, nil), seen{"read (error 5)", 5, []string{"read"}, []api.Errno{5}}},
		{"one cause", chain(api.Cause{Op: "read", Code: 5}), seen{"read (error 5)", 5, []string{"read"}, []api.Errno{5}}},
		{"an empty Op", New("", 12, nil), seen{" (error 12)", 12, []string{""}, []api.Errno{12}}},
		{"an Op like a text", New("a (error 1): b", 2, nil), seen{"a (error 1): b (error 2)", 2, []string{"a (error 1): b"}, []api.Errno{2}}},
		{"an Op that is no UTF-8", New("\xff\x00", 2, nil), seen{"\xff\x00 (error 2)", 2, []string{"\xff\x00"}, []api.Errno{2}}},
		{"a Code below zero", New("a", -1, nil), seen{"a (error 0)", -1, []string{"a"}, []api.Errno{-1}}},
		{"the zero fault", New("", api.OK, nil), seen{" (error 0)", 0, []string{""}, []api.Errno{0}}},
		{"the document's example", chain(api.Cause{Op: "a", Code: 4}, api.Cause{Op: "b", Code: 9}),
			seen{"a (error 4): b (error 9)", 4, []string{"a", "b"}, []api.Errno{4, 9}}},
		{"a fault around an Errno", New("a", 4, api.ErrWait), seen{"a (error 4): error 9", 4, []string{"a"}, []api.Errno{4, 9}}},
		{"OK around an Errno", New("a", api.OK, api.ErrWait), seen{"a (error 0): error 9", 9, []string{"a"}, []api.Errno{0, 9}}},
		{"OK around OK", New("a", api.OK, api.OK), seen{"a (error 0): error 0", 0, []string{"a"}, []api.Errno{0}}},
		{"OK around a fault", New("c", api.OK, New("b", 9, nil)), seen{"c (error 0): b (error 9)", 9, []string{"c", "b"}, []api.Errno{0, 9}}},
		{"the outer code goes first", New("c", api.OK, New("b", 9, New("a", 4, api.ErrFull))),
			seen{"c (error 0): b (error 9): a (error 4): error 2", 9, []string{"c", "b", "a"}, []api.Errno{0, 2, 4, 9}}},
		{"a fault's code goes ahead of an Errno", New("b", api.OK, New("a", 4, api.ErrFull)),
			seen{"b (error 0): a (error 4): error 2", 4, []string{"b", "a"}, []api.Errno{0, 2, 4}}},
		{"nothing but OK", chain(causes(3, api.OK)...),
			seen{"x (error 0): x (error 0): x (error 0)", 0, []string{"x", "x", "x"}, []api.Errno{0}}},
	}
	for _, x := range tests {
		if got := look(x.e); !got.same(x.want) {
			t.Errorf("%s: got %+v, want %+v", x.name, got, x.want)
		}
		if got := Depth(x.e); got != len(x.want.ops) {
			t.Errorf("%s: Depth = %d, want %d", x.name, got, len(x.want.ops))
		}
		if x.e != nil && x.e.Error() != x.want.text {
			t.Errorf("%s: Error = %q, want %q", x.name, x.e.Error(), x.want.text)
		}
		for c := api.Errno(-1); c <= 13; c++ {
			if got := errors.Is(x.e, c); got != slices.Contains(x.want.has, c) {
				t.Errorf("%s: errors.Is of %d = %v", x.name, c, got)
			}
		}
	}
}

// Fa1: an error that is a fault, as Go's library sees it.
func TestFaultForLibrary(t *testing.T) {
	inner := New("b", 9, nil)
	outer := New("a", 4, inner)
	if errors.Unwrap(outer) != inner || errors.Unwrap(inner) != nil {
		t.Error("Unwrap is not the inner error")
	}
	if errors.Unwrap(New("a", 4, api.ErrWait)) != error(api.ErrWait) {
		t.Error("Unwrap is not the inner Errno")
	}
	if !errors.Is(outer, outer) || !errors.Is(outer, inner) || errors.Is(inner, outer) {
		t.Error("errors.Is of faults")
	}
	if errors.Is(outer, nil) || errors.Is(outer, errors.New("a (error 4)")) {
		t.Error("errors.Is of others")
	}
	var n api.Errno
	if !errors.As(New("a", 4, api.ErrWait), &n) || n != api.ErrWait {
		t.Error("errors.As of the inner Errno")
	}
	link := errors.Unwrap(Chain([]api.Cause{{Op: "a", Code: 4}, {Op: "b", Code: 9}, {Op: "c", Code: 1}}))
	if link == nil || link.Error() != "b (error 9): c (error 1)" {
		t.Errorf("the inner error of a chain = %v", link)
	}
}

// Fa1: codes may be any numbers.
func TestGreatestCodes(t *testing.T) {
	for _, c := range []api.Errno{math.MaxInt32, math.MaxInt, math.MinInt32, math.MinInt} {
		e := New("a", api.OK, New("b", c, nil))
		if First(e) != c || !Has(e, c) || Has(e, c^1) || Text(e) != "a (error 0): b ("+c.Error()+")" {
			t.Errorf("of %d: %s", int(c), Text(e))
		}
	}
}

// R3: a list is not kept, and an answer is new.
func TestMemory(t *testing.T) {
	l := []api.Cause{{Op: "a", Code: 4}, {Op: "b", Code: 9}}
	e := Chain(l[:1])
	if l[1] != (api.Cause{Op: "b", Code: 9}) || l[0] != (api.Cause{Op: "a", Code: 4}) {
		t.Error("the list, or the room behind it, was changed")
	}
	l[0] = api.Cause{Op: "z", Code: 1}
	if Text(e) != "a (error 4)" {
		t.Errorf("the list was kept: %s", Text(e))
	}
	Ops(e)[0] = "z"
	if l := Ops(e); l[0] != "a" {
		t.Errorf("the answer was kept: %v", l)
	}
}

// R1: long chains end, and in time by their length alone.
func TestLongChain(t *testing.T) {
	const n = 300000
	e := New("out", api.OK, Chain(causes(n, api.OK)))
	if Depth(e) != n+1 || len(Ops(e)) != n+1 || First(e) != api.OK || Has(e, 1) || !Has(e, 0) {
		t.Error("what is told of a long chain")
	}
	if s := e.Error(); s != "out (error 0)"+strings.Repeat(": x (error 0)", n) {
		t.Errorf("the text of a long chain has %d bytes", len(s))
	}
	e = Chain(append(causes(n, api.OK), api.Cause{Op: "in", Code: 7}))
	if First(e) != 7 || !Has(e, 7) {
		t.Error("the innermost code of a long chain")
	}
}

// rude may not be asked anything: the first of the errors here that others made.
type rude struct{}

func (rude) Error() string { panic("Error") }
func (rude) Unwrap() error { panic("Unwrap") }
func (rude) Is(error) bool { panic("Is") }
func (rude) As(any) bool   { panic("As") }

// ring is within itself.
type ring struct{ inner error }

func (r *ring) Error() string { return r.inner.Error() }
func (r *ring) Unwrap() error { return r.inner }

// tree is many times within itself.
type tree struct{ inner []error }

func (x *tree) Error() string   { return x.inner[0].Error() }
func (x *tree) Unwrap() []error { return x.inner }

// list can't be held against another one.
type list []int

func (list) Error() string { return "list" }

func strangers() []error {
	self := &ring{}
	self.inner = self
	around := &ring{}
	around.inner = New("in", 3, around)
	many := &tree{}
	many.inner = []error{many, New("in", 3, many)}
	return []error{errors.New("x"), rude{}, (*ring)(nil), (*fault)(nil), self, around, many, list{1}, errors.Join(rude{}, self)}
}

// R1: whatever the inner error is, all calls end; the faults around it are told nonetheless.
func TestStrangers(t *testing.T) {
	for i, x := range strangers() {
		if got := look(x); Depth(x) != len(got.ops) {
			t.Errorf("stranger %d: %+v", i, got)
		}
		e := New("out", api.OK, New("a", 4, x))
		got := look(e)
		if !strings.HasPrefix(got.text, "out (error 0): a (error 4)") || got.text != e.Error() {
			t.Errorf("around stranger %d: %q", i, got.text)
		}
		if got.first != 4 || len(got.ops) < 2 || got.ops[0] != "out" || got.ops[1] != "a" || !Has(e, 4) {
			t.Errorf("around stranger %d: %+v", i, got)
		}
		if !errors.Is(e, e) || !errors.Is(e, api.Errno(4)) {
			t.Errorf("errors.Is around stranger %d", i)
		}
	}
}

// R3: errors of this layer keep their inner ones, whoever made them.
func TestStrangerIsKept(t *testing.T) {
	x := errors.New("x")
	e := New("a", 4, x)
	if errors.Unwrap(e) != x || !errors.Is(e, x) {
		t.Error("the inner error is another one")
	}
}

// R1: methods of a fault that no call made.
func TestNoFault(t *testing.T) {
	var none *fault
	if none.Error() != "" || none.Unwrap() != nil || none.Is(api.OK) {
		t.Error("of nil")
	}
	zero := &fault{}
	if zero.Error() != " (error 0)" || zero.Unwrap() != nil || !zero.Is(api.OK) || zero.Is(nil) {
		t.Error("of the zero one")
	}
}

// Fa3: what one does, of all codes and of some that have no name.
func TestReact(t *testing.T) {
	type does struct{ refresh, again, forget bool }
	want := map[api.Errno]does{
		api.ErrRange:     {refresh: true, again: true},
		api.ErrOld:       {refresh: true, again: true},
		api.ErrWait:      {again: true},
		api.ErrBusy:      {forget: true},
		api.ErrNone:      {forget: true},
		api.ErrSame:      {forget: true},
		api.ErrExhausted: {forget: true},
	}
	codes := []api.Errno{math.MinInt, math.MaxInt, -10}
	for c := api.Errno(-3); c < 300; c++ {
		codes = append(codes, c)
	}
	for _, c := range codes {
		refresh, again, forget := React(c)
		if got := (does{refresh, again, forget}); got != want[c] {
			t.Errorf("React(%d) = %+v, want %+v", int(c), got, want[c])
		}
	}
}
