package span

import (
	"fmt"
	"slices"
	"strings"
	"testing"

	"gudgeon/api"
)

// of is a span.
func of(from, to string) api.Span {
	return api.Span{From: from, To: to}
}

// list is spans, by their ends: two texts each.
func list(ends ...string) []api.Span {
	var l []api.Span
	for i := 0; i+1 < len(ends); i += 2 {
		l = append(l, of(ends[i], ends[i+1]))
	}
	return l
}

// key is the i-th of many keys, which rise.
func key(i int) string {
	return fmt.Sprintf("k%06d", i)
}

// many is n spans: of ten numbers each the ones from 2 to 7.
func many(n int) []api.Span {
	var l []api.Span
	for i := range n {
		l = append(l, of(key(10*i+2), key(10*i+8)))
	}
	return l
}

// The longest keys, and what is too long to be one.
var (
	longest = strings.Repeat("k", 64)
	tooLong = strings.Repeat("k", 65)
	highest = strings.Repeat("\xff", 64)
)

// maybe is spans that may be.
func maybe() []api.Span {
	return list(
		"", "", "", "a", "a", "", "a", "b", "a", "aa", "a", "a\x00", "", "\x00", "\x00", "\x00\x00", "B", "a",
		"\x7f", "\x80", "\xfe", "\xff", "\xff", "", "z", "é", longest, "", "", longest, "a", longest, longest, "kl",
		strings.Repeat("k", 63), longest, longest, strings.Repeat("k", 63)+"l", highest, "", "", highest,
		strings.Repeat("\xff", 63), highest, highest[:63]+"\xfe", highest)
}

// never is spans that may not be.
func never() []api.Span {
	return list(
		"a", "a", "b", "a", "aa", "a", "a\x00", "a", "\x00", "\x00", "\x80", "\x7f", "\xff", "\x01", "a", "B",
		longest, longest, highest, highest, highest, "a", longest, strings.Repeat("k", 63),
		tooLong, "", "", tooLong, "a", tooLong, tooLong, "z", tooLong, tooLong, strings.Repeat("z", 200), "",
		"", strings.Repeat("z", 1<<16), highest, highest+"\xff", highest+"\x00", "")
}

// is tells whether a call told that error.
func is(t *testing.T, what string, e, want api.Errno) {
	t.Helper()
	if e != want {
		t.Errorf("%s: error %d, not %d", what, e, want)
	}
}

// says tells whether a call told that.
func says(t *testing.T, what string, got, want bool) {
	t.Helper()
	if got != want {
		t.Errorf("%s: %t, not %t", what, got, want)
	}
}

// adds tells whether Add tells that; none beside an error.
func adds(t *testing.T, l []api.Span, s api.Span, want []api.Span, code api.Errno) {
	t.Helper()
	got, e := Add(l, s)
	if e != code || !slices.Equal(got, want) {
		t.Errorf("Add(%q, %q): %q, error %d, not %q, error %d", l, s, got, e, want, code)
	}
}

// lessens tells whether Less tells that; none beside an error.
func lessens(t *testing.T, l []api.Span, s api.Span, want []api.Span, code api.Errno) {
	t.Helper()
	got, e := Less(l, s)
	if e != code || !slices.Equal(got, want) {
		t.Errorf("Less(%q, %q): %q, error %d, not %q, error %d", l, s, got, e, want, code)
	}
}

// Sp1: a span may be if both ends are keys, and To is empty or above From.
func TestCheck(t *testing.T) {
	for _, s := range maybe() {
		is(t, fmt.Sprintf("Check(%q)", s), Check(s), api.OK)
	}
	for _, s := range never() {
		is(t, fmt.Sprintf("Check(%q)", s), Check(s), api.ErrArg)
	}
	for n := range 130 {
		want := api.OK
		if n > 64 {
			want = api.ErrArg
		}
		text := strings.Repeat("m", n)
		is(t, fmt.Sprintf("Check from %d bytes on", n), Check(of(text, "")), want)
		is(t, fmt.Sprintf("Check below %d bytes", n), Check(of("", text)), want)
	}
}

// Sp1: a span has the keys from From on, below To, if it may be.
func TestHas(t *testing.T) {
	for _, c := range []struct {
		s    api.Span
		key  string
		want bool
	}{
		{of("", ""), "", true}, {of("", ""), "a", true}, {of("", ""), highest, true}, {of("", ""), tooLong, false},
		{of("b", "d"), "", false}, {of("b", "d"), "a", false}, {of("b", "d"), "azzz", false}, {of("b", "d"), "b", true},
		{of("b", "d"), "b\x00", true}, {of("b", "d"), "c", true}, {of("b", "d"), "c\xff\xff", true}, {of("b", "d"), "d", false},
		{of("b", "d"), "d\x00", false}, {of("b", "d"), "e", false}, {of("b", "d"), "c" + longest, false},
		{of("b", ""), "a", false}, {of("b", ""), "b", true}, {of("b", ""), highest, true}, {of("b", ""), tooLong, false},
		{of("", "b"), "", true}, {of("", "b"), "a", true}, {of("", "b"), "b", false}, {of("", "\x00"), "", true},
		{of("", "\x00"), "\x00", false}, {of("aa", ""), "a", false}, {of("a", "aa"), "a", true}, {of("a", "aa"), "a\xff", false},
		{of("a", "aa"), "a@", true}, {of("\x7f", "\xff"), "\x80", true}, {of("", longest), longest, false},
		{of("", longest), longest[:63], true}, {of(longest, ""), longest, true}, {of(highest, ""), highest, true},
		{of("", highest), highest, false}, {of("", highest), highest[:63], true}, {of("a", ""), "a" + longest, false},
	} {
		says(t, fmt.Sprintf("Has(%q, %q)", c.s, c.key), Has(c.s, c.key), c.want)
	}
	for _, s := range never() {
		for _, k := range []string{"", "a", "b", s.From, s.To, "k", longest, tooLong, highest} {
			says(t, fmt.Sprintf("Has(%q, %q)", s, k), Has(s, k), false)
		}
	}
}

// Sp1: what two have; whichever is named first.
func TestMeet(t *testing.T) {
	for _, c := range []struct {
		a, b, want api.Span
		ok         bool
	}{
		{of("", ""), of("", ""), of("", ""), true},
		{of("", ""), of("b", "d"), of("b", "d"), true},
		{of("", "c"), of("b", ""), of("b", "c"), true},
		{of("", "b"), of("b", ""), api.Span{}, false},
		{of("", "b"), of("c", ""), api.Span{}, false},
		{of("", "b"), of("", "c"), of("", "b"), true},
		{of("b", ""), of("c", ""), of("c", ""), true},
		{of("a", "d"), of("b", "c"), of("b", "c"), true},
		{of("a", "c"), of("b", "d"), of("b", "c"), true},
		{of("a", "c"), of("a", "c"), of("a", "c"), true},
		{of("a", "c"), of("c", "d"), api.Span{}, false},
		{of("a", "b"), of("c", "d"), api.Span{}, false},
		{of("a", "c\x00"), of("c", "d"), of("c", "c\x00"), true},
		{of("", "\x00"), of("", ""), of("", "\x00"), true},
		{of(highest, ""), of("", ""), of(highest, ""), true},
		{of(highest, ""), of("", highest), api.Span{}, false},
	} {
		for range 2 {
			if got, ok := Meet(c.a, c.b); got != c.want || ok != c.ok {
				t.Errorf("Meet(%q, %q): %q, %t, not %q, %t", c.a, c.b, got, ok, c.want, c.ok)
			}
			c.a, c.b = c.b, c.a
		}
	}
	for _, s := range never() {
		for _, x := range append(maybe(), s) {
			for range 2 {
				if got, ok := Meet(s, x); ok || got != (api.Span{}) {
					t.Errorf("Meet(%q, %q): %q, %t, but one may not be", s, x, got, ok)
				}
				s, x = x, s
			}
		}
	}
}

// Sp1: a span's parts below a key, and from it on.
func TestSplit(t *testing.T) {
	for _, c := range []struct {
		s    api.Span
		key  string
		low  api.Span
		high api.Span
		e    api.Errno
	}{
		{of("", ""), "m", of("", "m"), of("m", ""), api.OK},
		{of("a", "z"), "m", of("a", "m"), of("m", "z"), api.OK},
		{of("a", ""), "a\x00", of("a", "a\x00"), of("a\x00", ""), api.OK},
		{of("", "b"), "\x00", of("", "\x00"), of("\x00", "b"), api.OK},
		{of("", ""), highest, of("", highest), of(highest, ""), api.OK},
		{of("a", "z"), longest, of("a", longest), of(longest, "z"), api.OK},
		{of("", ""), "", api.Span{}, api.Span{}, api.ErrRange},
		{of("", "b"), "", api.Span{}, api.Span{}, api.ErrRange},
		{of("a", "z"), "", api.Span{}, api.Span{}, api.ErrRange},
		{of("a", "z"), "a", api.Span{}, api.Span{}, api.ErrRange},
		{of("a", "z"), "Z", api.Span{}, api.Span{}, api.ErrRange},
		{of("a", "z"), "z", api.Span{}, api.Span{}, api.ErrRange},
		{of("a", "z"), "zz", api.Span{}, api.Span{}, api.ErrRange},
		{of("b", ""), "a", api.Span{}, api.Span{}, api.ErrRange},
		{of(highest, ""), highest, api.Span{}, api.Span{}, api.ErrRange},
		{of("", ""), tooLong, api.Span{}, api.Span{}, api.ErrArg},
		{of("a", "z"), tooLong, api.Span{}, api.Span{}, api.ErrArg},
		{of("x", "z"), tooLong, api.Span{}, api.Span{}, api.ErrArg},
	} {
		low, high, e := Split(c.s, c.key)
		if low != c.low || high != c.high || e != c.e {
			t.Errorf("Split(%q, %q): %q, %q, error %d, not %q, %q, error %d", c.s, c.key, low, high, e, c.low, c.high, c.e)
		}
	}
	for _, s := range never() {
		for _, k := range []string{"", "a", "b", s.From, s.To, longest, tooLong, highest} {
			if low, high, e := Split(s, k); low != (api.Span{}) || high != (api.Span{}) || e != api.ErrArg {
				t.Errorf("Split(%q, %q): %q, %q, error %d, not error 1", s, k, low, high, e)
			}
		}
	}
}

// Sp1: two, one behind the other, as one; not the other way round, and not where there is no end.
func TestJoin(t *testing.T) {
	for _, c := range []struct {
		a, b, want api.Span
		e          api.Errno
	}{
		{of("", "m"), of("m", ""), of("", ""), api.OK},
		{of("a", "m"), of("m", "z"), of("a", "z"), api.OK},
		{of("a", "m"), of("m", ""), of("a", ""), api.OK},
		{of("", "m"), of("m", "z"), of("", "z"), api.OK},
		{of("", "\x00"), of("\x00", "\x00\x00"), of("", "\x00\x00"), api.OK},
		{of("a", highest), of(highest, ""), of("a", ""), api.OK},
		{of("m", "z"), of("a", "m"), api.Span{}, api.ErrRange},
		{of("m", ""), of("", "m"), api.Span{}, api.ErrRange},
		{of("", ""), of("", ""), api.Span{}, api.ErrRange},
		{of("a", ""), of("", ""), api.Span{}, api.ErrRange},
		{of("a", ""), of("b", "c"), api.Span{}, api.ErrRange},
		{of("a", "m"), of("n", "z"), api.Span{}, api.ErrRange},
		{of("a", "m"), of("m\x00", "z"), api.Span{}, api.ErrRange},
		{of("a", "m"), of("l", "z"), api.Span{}, api.ErrRange},
		{of("a", "m"), of("a", "m"), api.Span{}, api.ErrRange},
		{of("a", "m"), of("", "m"), api.Span{}, api.ErrRange},
	} {
		if got, e := Join(c.a, c.b); got != c.want || e != c.e {
			t.Errorf("Join(%q, %q): %q, error %d, not %q, error %d", c.a, c.b, got, e, c.want, c.e)
		}
	}
	for _, s := range never() {
		for _, x := range append(maybe(), s, of(s.To, ""), of("", s.From)) {
			for range 2 {
				if got, e := Join(s, x); got != (api.Span{}) || e != api.ErrArg {
					t.Errorf("Join(%q, %q): %q, error %d, not error 1", s, x, got, e)
				}
				s, x = x, s
			}
		}
	}
}

// wrong is lists that are not in form.
func wrong() [][]api.Span {
	l := [][]api.Span{
		list("", "b", "b", ""),
		list("a", "b", "b", "c"),
		list("a", "c", "b", "d"),
		list("a", "b", "a", "b"),
		list("a", "d", "b", "c"),
		list("c", "d", "a", "b"),
		list("a", "b", "e", "f", "c", "d"),
		list("a", "b", "c", "", "d", "e"),
		list("", "", "", ""),
		list("", "", "a", "b"),
		list("a", "", "b", ""),
		list("a", "", "", "a"),
		list("a", "b", "", ""),
		list("a", "b", "c", "d", "d", "e"),
		many(65), many(66), many(1000),
		append(many(64), of("z", "")),
	}
	for _, s := range never() {
		l = append(l, []api.Span{s}, append(list("", "\x00"), s), append([]api.Span{s}, of(highest, "")))
	}
	return l
}

// Sp2: spans that may be, rise, and are apart; 64 of them at most.
func TestForm(t *testing.T) {
	for _, l := range [][]api.Span{
		nil, {}, list("", ""), list("a", "b"), list("", "b", "c", ""), list("a", "b", "c", "d", "e", "f"),
		list("a", "b", "b\x00", "c"), list("", "\x00", "\x00\x00", ""), list("a", longest, longest[:63]+"l", ""),
		list("", "a", highest, ""), list("", highest), many(1), many(63), many(64), append(many(63), of("z", "")),
	} {
		says(t, fmt.Sprintf("Form(%q)", l), Form(l), true)
	}
	for _, s := range maybe() {
		says(t, fmt.Sprintf("Form of %q alone", s), Form([]api.Span{s}), true)
	}
	for _, l := range wrong() {
		says(t, fmt.Sprintf("Form(%q)", l), Form(l), false)
	}
}

// Sp2: a span more, and what it meets or touches becomes one with it.
func TestAdd(t *testing.T) {
	l := list("c", "e", "g", "i", "m", "p")
	for _, c := range []struct {
		s    api.Span
		want []api.Span
	}{
		{of("a", "b"), list("a", "b", "c", "e", "g", "i", "m", "p")},
		{of("a", "c"), list("a", "e", "g", "i", "m", "p")},
		{of("a", "d"), list("a", "e", "g", "i", "m", "p")},
		{of("", "b\xff"), list("", "b\xff", "c", "e", "g", "i", "m", "p")},
		{of("c", "e"), l}, {of("d", "d\x00"), l}, {of("m", "n"), l}, {of("o", "p"), l},
		{of("e", "f"), list("c", "f", "g", "i", "m", "p")},
		{of("e\x00", "f"), list("c", "e", "e\x00", "f", "g", "i", "m", "p")},
		{of("f", "g"), list("c", "e", "f", "i", "m", "p")},
		{of("e", "g"), list("c", "i", "m", "p")},
		{of("d", "h"), list("c", "i", "m", "p")},
		{of("d", "m"), list("c", "p")},
		{of("e", "k"), list("c", "k", "m", "p")},
		{of("f", "l"), list("c", "e", "f", "l", "m", "p")},
		{of("j", "k"), list("c", "e", "g", "i", "j", "k", "m", "p")},
		{of("a", "z"), list("a", "z")},
		{of("", ""), list("", "")},
		{of("h", ""), list("c", "e", "g", "")},
		{of("i", ""), list("c", "e", "g", "")},
		{of("p", ""), list("c", "e", "g", "i", "m", "")},
		{of("p\x00", ""), append(slices.Clone(l), of("p\x00", ""))},
		{of("q", "r"), append(slices.Clone(l), of("q", "r"))},
		{of(highest, ""), append(slices.Clone(l), of(highest, ""))},
	} {
		adds(t, l, c.s, c.want, api.OK)
	}
	for _, s := range maybe() {
		adds(t, nil, s, []api.Span{s}, api.OK)
		adds(t, []api.Span{}, s, []api.Span{s}, api.OK)
		adds(t, []api.Span{s}, s, []api.Span{s}, api.OK)
		adds(t, list("", ""), s, list("", ""), api.OK)
	}
	adds(t, list("a", "b", "c", ""), of("b", "c"), list("a", ""), api.OK)
	adds(t, list("c", ""), of("a", "b"), list("a", "b", "c", ""), api.OK)
	adds(t, list("c", ""), of("x", "y"), list("c", ""), api.OK)
	adds(t, list("", highest), of(highest, ""), list("", ""), api.OK)
}

// Sp2: what a list has and a span does not.
func TestLess(t *testing.T) {
	l := list("c", "e", "g", "i", "m", "p")
	for _, c := range []struct {
		s    api.Span
		want []api.Span
	}{
		{of("a", "b"), l}, {of("a", "c"), l}, {of("e", "g"), l}, {of("j", "k"), l}, {of("p", ""), l}, {of("", "c"), l},
		{of("a", "c\x00"), list("c\x00", "e", "g", "i", "m", "p")},
		{of("c", "e"), list("g", "i", "m", "p")},
		{of("b", "f"), list("g", "i", "m", "p")},
		{of("c", "d"), list("d", "e", "g", "i", "m", "p")},
		{of("d", "e"), list("c", "d", "g", "i", "m", "p")},
		{of("d", "f"), list("c", "d", "g", "i", "m", "p")},
		{of("g", "i"), list("c", "e", "m", "p")},
		{of("h", "h\x00"), list("c", "e", "g", "h", "h\x00", "i", "m", "p")},
		{of("d", "h"), list("c", "d", "h", "i", "m", "p")},
		{of("d", "n"), list("c", "d", "n", "p")},
		{of("f", "l"), list("c", "e", "m", "p")},
		{of("h", ""), list("c", "e", "g", "h")},
		{of("", "h"), list("h", "i", "m", "p")},
		{of("c", "p"), nil}, {of("", ""), nil}, {of("c", ""), nil}, {of("", "p"), nil},
		{of("", "o"), list("o", "p")},
	} {
		lessens(t, l, c.s, c.want, api.OK)
	}
	for _, s := range maybe() {
		lessens(t, nil, s, nil, api.OK)
		lessens(t, []api.Span{}, s, nil, api.OK)
		lessens(t, []api.Span{s}, s, nil, api.OK)
		lessens(t, []api.Span{s}, of("", ""), nil, api.OK)
	}
	lessens(t, list("", ""), of("b", "c"), list("", "b", "c", ""), api.OK)
	lessens(t, list("", ""), of("", "c"), list("c", ""), api.OK)
	lessens(t, list("", ""), of("c", ""), list("", "c"), api.OK)
	lessens(t, list("", ""), of("", "\x00"), list("\x00", ""), api.OK)
	lessens(t, list("", ""), of(highest, ""), list("", highest), api.OK)
	lessens(t, list("", highest), of(highest, ""), list("", highest), api.OK)
}

// The chapter's example.
func TestExample(t *testing.T) {
	adds(t, list("a", "c"), of("c", "e"), list("a", "e"), api.OK)
	lessens(t, list("a", "e"), of("b", "d"), list("a", "b", "d", "e"), api.OK)
}

// Sp2: 64 spans there may be; one more is refused, whichever place it would have; but not one that takes others up.
func TestFull(t *testing.T) {
	l := many(64)
	for i := range 65 {
		adds(t, l, of(key(10*i), key(10*i+1)), nil, api.ErrFull)
	}
	adds(t, l, of("z", ""), nil, api.ErrFull)
	adds(t, l, of("", "a"), nil, api.ErrFull)
	for i, x := range l {
		rest := slices.Concat(l[:i], l[i+1:])
		adds(t, rest, x, l, api.OK)
		adds(t, l, x, l, api.OK)
		adds(t, l, of(key(10*i+1), x.From), slices.Concat(l[:i], []api.Span{of(key(10*i+1), x.To)}, l[i+1:]), api.OK)
		lessens(t, l, x, rest, api.OK)
		lessens(t, l, of(key(10*i+4), key(10*i+5)), nil, api.ErrFull)
		lessens(t, l, of(x.From, key(10*i+5)), slices.Concat(l[:i], []api.Span{of(key(10*i+5), x.To)}, l[i+1:]), api.OK)
		lessens(t, l, of(x.To, key(10*i+9)), l, api.OK)
		if i == 0 {
			continue
		}
		was := l[i-1]
		adds(t, l, of(was.To, x.From), slices.Concat(l[:i-1], []api.Span{of(was.From, x.To)}, l[i+1:]), api.OK)
		two := list(was.From, key(10*i-5), key(10*i+5), x.To)
		lessens(t, l, of(key(10*i-5), key(10*i+5)), slices.Concat(l[:i-1], two, l[i+1:]), api.OK)
		half := list(x.From, key(10*i+4), key(10*i+5), x.To)
		lessens(t, slices.Concat(l[:i-1], l[i:]), of(key(10*i+4), key(10*i+5)), slices.Concat(l[:i-1], half, l[i+1:]), api.OK)
	}
	adds(t, l, of("", ""), list("", ""), api.OK)
	lessens(t, l, of("", ""), nil, api.OK)
}

// Sp2: a list that is not in form, or a span that may not be, is refused, ahead of all else.
func TestWrong(t *testing.T) {
	for _, l := range wrong() {
		for _, s := range append(append(maybe(), never()...), l[0], l[len(l)-1]) {
			adds(t, l, s, nil, api.ErrArg)
			lessens(t, l, s, nil, api.ErrArg)
			says(t, fmt.Sprintf("Covers(%q, %q)", l, s), Covers(l, s), false)
		}
		for _, k := range []string{"", "a", "b", l[0].From, l[len(l)-1].From, "z", longest, tooLong, highest} {
			says(t, fmt.Sprintf("In(%q, %q)", l, k), In(l, k), false)
		}
	}
	for _, l := range [][]api.Span{nil, list("", ""), list("a", "b", "k", ""), many(64)} {
		for _, s := range never() {
			adds(t, l, s, nil, api.ErrArg)
			lessens(t, l, s, nil, api.ErrArg)
			says(t, fmt.Sprintf("Covers(%q, %q)", l, s), Covers(l, s), false)
		}
	}
}

// Sp2: whether a list has all keys of a span.
func TestCovers(t *testing.T) {
	l := list("c", "e", "e\x00", "i", "m", "")
	for _, s := range list("c", "e", "c", "d", "d", "e", "c\x00", "d", "e\x00", "i", "f", "g", "m", "", "m", "n", "z", "", highest, "") {
		says(t, fmt.Sprintf("Covers(%q, %q)", l, s), Covers(l, s), true)
	}
	for _, s := range list("", "", "", "c", "b", "c", "b", "d", "c", "e\x00", "c", "f", "d", "g", "e", "e\x00", "e", "g", "h", "j", "i", "m",
		"c", "i", "j", "k", "l", "", "l\xff", "n", "", "z", "", "\x00") {
		says(t, fmt.Sprintf("Covers(%q, %q)", l, s), Covers(l, s), false)
	}
	for _, s := range maybe() {
		says(t, fmt.Sprintf("Covers of all keys and %q", s), Covers(list("", ""), s), true)
		says(t, fmt.Sprintf("Covers of %q and it", s), Covers([]api.Span{s}, s), true)
		says(t, fmt.Sprintf("Covers of none and %q", s), Covers(nil, s), false)
	}
	says(t, "the highest key is missing", Covers(list("", highest), of("", "")), false)
	says(t, "the lowest key is missing", Covers(list("\x00", ""), of("", "")), false)
	says(t, "a key is missing", Covers(list("", "a", "a\x00", ""), of("", "")), false)
}

// Sp2: whether a list has a key.
func TestIn(t *testing.T) {
	l := list("c", "e", "e\x00", "i", "m", "")
	for _, k := range []string{"c", "c\x00", "d", "d\xff", "e\x00", "h", "m", "z", highest, "n" + longest[1:]} {
		says(t, fmt.Sprintf("In(%q, %q)", l, k), In(l, k), true)
	}
	for _, k := range []string{"", "b", "b\xff", "e", "i", "j", "l\xff", tooLong, "n" + longest, highest + "\x00"} {
		says(t, fmt.Sprintf("In(%q, %q)", l, k), In(l, k), false)
	}
	says(t, "none", In(nil, ""), false)
	says(t, "all", In(list("", ""), ""), true)
	says(t, "all, and too long", In(list("", ""), tooLong), false)
	for i, x := range many(64) {
		says(t, "ahead", In(many(64), key(10*i+1)), false)
		says(t, "first", In(many(64), x.From), true)
		says(t, "last", In(many(64), key(10*i+7)), true)
		says(t, "behind", In(many(64), x.To), false)
	}
}

// R3: what is handed in is not changed, nor what lies behind it, and no answer shares its memory, nor another answer's.
func TestMemory(t *testing.T) {
	mark := of("?", "??")
	for _, s := range list("a", "b", "d", "f", "c", "c\x00", "j", "k", "z", "", "", "", "", "a") {
		room := append(list("c", "e", "g", "i", "m", "p"), mark, mark, mark, mark)
		was := slices.Clone(room)
		l := room[:3]
		more, _ := Add(l, s)
		again, _ := Add(l, s)
		less, _ := Less(l, s)
		lessAgain, _ := Less(l, s)
		Form(l)
		Covers(l, s)
		In(l, s.From)
		if !slices.Equal(room, was) {
			t.Fatalf("changed by %q: %q", s, room)
		}
		wantMore, wantLess := slices.Clone(again), slices.Clone(lessAgain)
		spoil(more)
		spoil(less)
		if !slices.Equal(room, was) || !slices.Equal(again, wantMore) || !slices.Equal(lessAgain, wantLess) {
			t.Errorf("answers of %q share their memory", s)
		}
		spoil(room)
		if !slices.Equal(again, wantMore) || !slices.Equal(lessAgain, wantLess) {
			t.Errorf("answers of %q share the argument's memory", s)
		}
	}
}

// spoil changes spans, and the room behind them.
func spoil(l []api.Span) {
	l = l[:cap(l)]
	for i := range l {
		l[i] = of("!", "!!")
	}
}
