package chart

import (
	"fmt"
	"math"
	"slices"
	"strings"
	"testing"

	"gudgeon/api"
	"gudgeon/wire"
)

// The greatest epoch that may be.
const top = uint64(1) << 62

// The longest keys, and what is too long to be one.
var (
	longest = strings.Repeat("k", 64)
	highest = strings.Repeat("\xff", 64)
	tooLong = strings.Repeat("k", 65)
)

// of is a range.
func of(from, to string, group int, epoch uint64) api.Range {
	return api.Range{Span: api.Span{From: from, To: to}, Group: group, Epoch: epoch}
}

// list is ranges.
func list(l ...api.Range) []api.Range {
	return l
}

// spans is spans, by their ends: two texts each.
func spans(ends ...string) []api.Span {
	var l []api.Span
	for i := 0; i+1 < len(ends); i += 2 {
		l = append(l, api.Span{From: ends[i], To: ends[i+1]})
	}
	return l
}

// letters is a chart of four ranges.
func letters() []api.Range {
	return list(of("", "b", 1, 5), of("b", "h", 1, 3), of("h", "q", 16, 9), of("q", "", 1, 1))
}

// key is the i-th of many keys, which rise.
func key(i int) string {
	return fmt.Sprintf("k%06d", i)
}

// many is n ranges: the i-th one begins with the key 10 i, the first one with the empty key.
func many(n int, group func(i int) int) []api.Range {
	var l []api.Range
	for i := range n {
		l = append(l, of(key(10*i), key(10*i+10), group(i), uint64(i+1)))
	}
	l[0].Span.From, l[n-1].Span.To = "", ""
	return l
}

// one is group 1, for all ranges of many.
func one(int) int { return 1 }

// right is charts.
func right() [][]api.Range {
	l := [][]api.Range{
		list(of("", "", 1, 1)),
		list(of("", "", 16, 1)),
		list(of("", "", 7, top)),
		list(of("", "", 7, top-1)),
		list(of("", "m", 1, 1), of("m", "", 1, 1)),
		list(of("", "m", 1, top), of("m", "", 16, top)),
		list(of("", "m", 2, 1), of("m", "", 1, top)),
		list(of("", "\x00", 3, 2), of("\x00", "\x00\x00", 2, 3), of("\x00\x00", "", 3, 1)),
		list(of("", longest, 1, 300), of(longest, "", 2, 1)),
		list(of("", longest[:63], 1, 300), of(longest[:63], longest, 4, 2), of(longest, highest, 2, 1), of(highest, "", 9, 8)),
		list(of("", "\x7f", 1, 1), of("\x7f", "\x80", 2, 1), of("\x80", "", 3, 1)),
		letters(),
		many(63, one), many(64, one),
		many(64, func(i int) int { return i%16 + 1 }),
	}
	for group := 1; group <= 16; group++ {
		l = append(l, list(of("", "", group, uint64(group))))
	}
	return l
}

// wrong is what is no chart.
func wrong() [][]api.Range {
	l := [][]api.Range{
		nil, {},
		many(65, one), many(66, one), many(1000, one),
		list(of("a", "", 1, 1)), list(of("", "a", 1, 1)), list(of("a", "b", 1, 1)), list(of("\x00", "", 1, 1)), list(of("", highest, 1, 1)),
		list(of("a", "b", 1, 1), of("b", "", 1, 1)),
		list(of("", "b", 1, 1), of("b", "c", 1, 1)),
		list(of("", "b", 1, 1), of("c", "", 1, 1)),
		list(of("", "b", 1, 1), of("b\x00", "", 1, 1)),
		list(of("", "b", 1, 1), of("a", "", 1, 1)),
		list(of("", "b", 1, 1), of("", "", 1, 1)),
		list(of("b", "", 1, 1), of("", "b", 1, 1)),
		list(of("", "a", 1, 1), of("b", "", 1, 1), of("a", "b", 1, 1)),
		list(of("", "a", 1, 1), of("a", "a", 1, 1), of("a", "", 1, 1)),
		list(of("", "b", 1, 1), of("b", "a", 1, 1), of("a", "", 1, 1)),
		// The ends meet, but the range ahead has all keys from there on.
		list(of("", "", 1, 1), of("", "", 1, 1)),
		list(of("", "", 1, 1), of("", "", 2, 2), of("", "", 3, 3)),
		list(of("", "b", 1, 1), of("b", "", 1, 1), of("", "", 1, 1)),
		list(of("", "", 1, 1), of("", "b", 1, 1), of("b", "", 1, 1)),
		list(of("", tooLong, 1, 1), of(tooLong, "", 1, 1)),
		list(of("", "a", 1, 1), of("a", tooLong, 1, 1), of(tooLong, "", 1, 1)),
		list(of("", highest+"\x00", 1, 1), of(highest+"\x00", "", 1, 1)),
	}
	for _, group := range badGroups() {
		l = append(l, list(of("", "", group, 1)), list(of("", "m", 1, 1), of("m", "", group, 1)), list(of("", "m", group, 1), of("m", "", 1, 1)))
	}
	for _, epoch := range []uint64{0, top + 1, 1 << 63, math.MaxUint64} {
		l = append(l, list(of("", "", 1, epoch)), list(of("", "m", 1, 1), of("m", "", 1, epoch)), list(of("", "m", 1, epoch), of("m", "", 1, 1)))
	}
	return l
}

// badGroups is groups that may not be.
func badGroups() []int {
	return []int{0, -1, 17, 18, -16, 255, 257, 1 << 32, 1<<32 + 1, math.MaxInt, math.MinInt}
}

// badKeys is texts that are no keys.
func badKeys() []string {
	return []string{tooLong, highest + "\x00", strings.Repeat("\x00", 65), strings.Repeat("b", 1<<16)}
}

// is tells whether a call told that error.
func is(t *testing.T, what string, e, want api.Errno) {
	t.Helper()
	if e != want {
		t.Errorf("%s: error %d, not %d", what, e, want)
	}
}

// tells tells whether a call told that chart; beside an error none.
func tells(t *testing.T, what string, got []api.Range, e api.Errno, want []api.Range, code api.Errno) {
	t.Helper()
	if e != code || !slices.Equal(got, want) {
		t.Errorf("%s: %#v, error %d, not %#v, error %d", what, got, e, want, code)
	}
}

// splits tells whether Split tells that.
func splits(t *testing.T, l []api.Range, key string, want []api.Range, code api.Errno) {
	t.Helper()
	got, e := Split(l, key)
	tells(t, fmt.Sprintf("Split(%#v, %q)", l, key), got, e, want, code)
}

// merges tells whether Merge tells that.
func merges(t *testing.T, l []api.Range, key string, want []api.Range, code api.Errno) {
	t.Helper()
	got, e := Merge(l, key)
	tells(t, fmt.Sprintf("Merge(%#v, %q)", l, key), got, e, want, code)
}

// moves tells whether Move tells that.
func moves(t *testing.T, l []api.Range, key string, group int, want []api.Range, code api.Errno) {
	t.Helper()
	got, e := Move(l, key, group)
	tells(t, fmt.Sprintf("Move(%#v, %q, %d)", l, key, group), got, e, want, code)
}

// finds tells whether Find tells that.
func finds(t *testing.T, l []api.Range, key string, want int, code api.Errno) {
	t.Helper()
	if got, e := Find(l, key); got != want || e != code {
		t.Errorf("Find(%#v, %q): %d, error %d, not %d, error %d", l, key, got, e, want, code)
	}
}

// groups tells whether Groups tells that.
func groups(t *testing.T, l []api.Range, keys []string, want []int, code api.Errno) {
	t.Helper()
	if got, e := Groups(l, keys); !slices.Equal(got, want) || e != code {
		t.Errorf("Groups(%#v, %q): %d, error %d, not %d, error %d", l, keys, got, e, want, code)
	}
}

// owns tells whether Owned tells that.
func owns(t *testing.T, l []api.Range, group int, want []api.Span) {
	t.Helper()
	if got := Owned(l, group); !slices.Equal(got, want) {
		t.Errorf("Owned(%#v, %d): %q, not %q", l, group, got, want)
	}
}

// Ch1: what is a chart, and what is none.
func TestCheck(t *testing.T) {
	for _, l := range right() {
		is(t, fmt.Sprintf("Check(%#v)", l), Check(l), api.OK)
	}
	for _, l := range wrong() {
		is(t, fmt.Sprintf("Check(%#v)", l), Check(l), api.ErrArg)
	}
	for n := 1; n < 130; n++ {
		want := api.OK
		if n > 64 {
			want = api.ErrArg
		}
		is(t, fmt.Sprintf("%d ranges", n), Check(many(n, one)), want)
		text := strings.Repeat("m", n)
		is(t, fmt.Sprintf("a key of %d bytes", n), Check(list(of("", text, 1, 1), of(text, "", 1, 1))), want)
	}
}

// Ch1: whichever range of a full chart is turned so that it may not be, it is none.
func TestCheckEachRange(t *testing.T) {
	for i := range 64 {
		for name, turn := range map[string]func(r *api.Range){
			"group 0":        func(r *api.Range) { r.Group = 0 },
			"group 17":       func(r *api.Range) { r.Group = 17 },
			"epoch 0":        func(r *api.Range) { r.Epoch = 0 },
			"epoch above":    func(r *api.Range) { r.Epoch = top + 1 },
			"another From":   func(r *api.Range) { r.Span.From += "\x00" },
			"another To":     func(r *api.Range) { r.Span.To += "\x00" },
			"a longer From":  func(r *api.Range) { r.Span.From = tooLong },
			"a longer To":    func(r *api.Range) { r.Span.To = tooLong },
			"To is From":     func(r *api.Range) { r.Span.From, r.Span.To = "k1", "k1" },
			"the other way":  func(r *api.Range) { r.Span.From, r.Span.To = "z", "a" },
			"without an end": func(r *api.Range) { r.Span.From, r.Span.To = "x", "" },
		} {
			l := many(64, one)
			turn(&l[i])
			is(t, fmt.Sprintf("range %d, %s", i, name), Check(l), api.ErrArg)
		}
		l := many(63, one)
		i = min(i, 62)
		is(t, fmt.Sprintf("without range %d", i), Check(slices.Concat(l[:i], l[i+1:])), api.ErrArg)
		is(t, fmt.Sprintf("range %d twice", i), Check(slices.Concat(l[:i+1], l[i:])), api.ErrArg)
	}
}

// Ch1: one range of all keys, for a group that may be.
func TestNew(t *testing.T) {
	for group := 1; group <= 16; group++ {
		got, e := New(group)
		tells(t, fmt.Sprintf("New(%d)", group), got, e, list(of("", "", group, 1)), api.OK)
	}
	for _, group := range badGroups() {
		got, e := New(group)
		tells(t, fmt.Sprintf("New(%d)", group), got, e, nil, api.ErrArg)
	}
}

// Ch1: which range has a key.
func TestFind(t *testing.T) {
	for i, keys := range [][]string{
		{"", "\x00", "a", "a\xff", "B", "a" + longest[1:]},
		{"b", "b\x00", "g", "g\xff\xff"},
		{"h", "k", longest, "p", "p\xff"},
		{"q", "q\x00", "z", "\x80", "\xff", highest},
	} {
		for _, k := range keys {
			finds(t, letters(), k, i, api.OK)
		}
	}
	for i := range 64 {
		finds(t, many(64, one), key(10*i), i, api.OK)
		finds(t, many(64, one), key(10*i)+"\x00", i, api.OK)
		finds(t, many(64, one), key(10*i+9), i, api.OK)
		finds(t, many(64, one), key(10*i+9)+"\xff", i, api.OK)
	}
	for _, l := range right() {
		finds(t, l, "", 0, api.OK)
		finds(t, l, highest, len(l)-1, api.OK)
		for i, r := range l {
			finds(t, l, r.Span.From, i, api.OK)
		}
	}
}

// Ch1: the range that has a key as two, of a new epoch both, of the group that it was; the others stay.
func TestSplit(t *testing.T) {
	a, b, c, d := letters()[0], letters()[1], letters()[2], letters()[3]
	splits(t, list(of("", "", 4, 1)), "m", list(of("", "m", 4, 2), of("m", "", 4, 2)), api.OK)
	splits(t, list(of("", "", 4, 1)), "\x00", list(of("", "\x00", 4, 2), of("\x00", "", 4, 2)), api.OK)
	splits(t, list(of("", "", 4, 1)), highest, list(of("", highest, 4, 2), of(highest, "", 4, 2)), api.OK)
	splits(t, letters(), "a", list(of("", "a", 1, 10), of("a", "b", 1, 10), b, c, d), api.OK)
	splits(t, letters(), "b\x00", list(a, of("b", "b\x00", 1, 10), of("b\x00", "h", 1, 10), c, d), api.OK)
	splits(t, letters(), "g\xff", list(a, of("b", "g\xff", 1, 10), of("g\xff", "h", 1, 10), c, d), api.OK)
	splits(t, letters(), longest, list(a, b, of("h", longest, 16, 10), of(longest, "q", 16, 10), d), api.OK)
	splits(t, letters(), "z", list(a, b, c, of("q", "z", 1, 10), of("z", "", 1, 10)), api.OK)
	for _, l := range right() {
		for _, r := range l {
			splits(t, l, r.Span.From, nil, api.ErrSame)
		}
	}
}

// Ch1: 64 ranges there may be, one more not; a range that is there already is told ahead of it.
func TestSplitFull(t *testing.T) {
	for i := range 63 {
		l := many(63, one)
		r := l[i]
		k := key(10*i + 5)
		want := slices.Concat(l[:i], list(of(r.Span.From, k, 1, 64), of(k, r.Span.To, 1, 64)), l[i+1:])
		splits(t, l, k, want, api.OK)
	}
	for i := range 64 {
		splits(t, many(64, one), key(10*i+5), nil, api.ErrFull)
	}
	for _, r := range many(64, one) {
		splits(t, many(64, one), r.Span.From, nil, api.ErrSame)
	}
}

// Ch1: a range and the one ahead as one, of a new epoch; the others stay.
func TestMerge(t *testing.T) {
	l := list(of("", "b", 1, 5), of("b", "h", 1, 3), of("h", "q", 16, 9), of("q", "t", 2, 1), of("t", "x", 2, 7), of("x", "", 2, 2))
	merges(t, list(of("", "m", 4, 2), of("m", "", 4, 2)), "m", list(of("", "", 4, 3)), api.OK)
	merges(t, l, "b", slices.Concat(list(of("", "h", 1, 10)), l[2:]), api.OK)
	merges(t, l, "t", slices.Concat(l[:3], list(of("q", "x", 2, 10)), l[5:]), api.OK)
	merges(t, l, "x", slices.Concat(l[:4], list(of("t", "", 2, 10))), api.OK)
	merges(t, l, "h", nil, api.ErrRange)
	merges(t, l, "q", nil, api.ErrRange)
	for _, k := range []string{"", "\x00", "a", "b\x00", "c", "g\xff", "h\x00", "p", "s", "y", longest, highest} {
		merges(t, l, k, nil, api.ErrNone)
	}
	for _, l := range right() {
		merges(t, l, "", nil, api.ErrNone)
		merges(t, l, "nobody's first", nil, api.ErrNone)
	}
	full := many(64, one)
	for i := 1; i < 64; i++ {
		both := of(full[i-1].Span.From, full[i].Span.To, 1, 65)
		merges(t, full, full[i].Span.From, slices.Concat(full[:i-1], list(both), full[i+1:]), api.OK)
	}
}

// Ch1: the range that has a key, whole, is another group's, of a new epoch; the others stay.
func TestMove(t *testing.T) {
	l := letters()
	for group := 1; group <= 16; group++ {
		for i, keys := range [][]string{{"", "a"}, {"b", "b\x00", "g\xff"}, {"h", "k", longest, "p"}, {"q", "z", highest}} {
			for _, k := range keys {
				if group == l[i].Group {
					moves(t, l, k, group, nil, api.ErrSame)
					continue
				}
				want := slices.Clone(l)
				want[i].Group, want[i].Epoch = group, 10
				moves(t, l, k, group, want, api.OK)
			}
		}
	}
	full := many(64, one)
	for i := range full {
		want := slices.Clone(full)
		want[i].Group, want[i].Epoch = 2, 65
		moves(t, full, key(10*i+3), 2, want, api.OK)
	}
}

// Ch1: an epoch is at most 2^62; what would be beyond is refused, behind all other errors.
func TestEpochsEnd(t *testing.T) {
	for at := range 3 {
		l := list(of("", "b", 1, 1), of("b", "h", 1, 1), of("h", "", 2, 1))
		l[at].Epoch = top - 1
		splits(t, l, "a", list(of("", "a", 1, top), of("a", "b", 1, top), l[1], l[2]), api.OK)
		merges(t, l, "b", list(of("", "h", 1, top), l[2]), api.OK)
		moves(t, l, "b", 2, list(l[0], of("b", "h", 2, top), l[2]), api.OK)
		l[at].Epoch = top
		splits(t, l, "a", nil, api.ErrFull)
		splits(t, l, "b", nil, api.ErrSame)
		splits(t, l, "", nil, api.ErrSame)
		splits(t, l, tooLong, nil, api.ErrArg)
		merges(t, l, "b", nil, api.ErrFull)
		merges(t, l, "h", nil, api.ErrRange)
		merges(t, l, "a", nil, api.ErrNone)
		merges(t, l, "", nil, api.ErrNone)
		merges(t, l, tooLong, nil, api.ErrArg)
		moves(t, l, "b", 2, nil, api.ErrFull)
		moves(t, l, "b", 1, nil, api.ErrSame)
		moves(t, l, "b", 17, nil, api.ErrArg)
		moves(t, l, tooLong, 2, nil, api.ErrArg)
	}
	full := many(64, one)
	full[9].Epoch = top
	splits(t, full, "z", nil, api.ErrFull)
}

// Ch1, Ch2: what is no chart, no key, or no group is refused, ahead of all else, and nothing is told beside it.
func TestWrong(t *testing.T) {
	good := []string{"", "a", "b", "m", "k000010", longest, highest}
	for _, l := range wrong() {
		for _, k := range append(badKeys(), good...) {
			refused(t, l, k)
		}
		groups(t, l, nil, nil, api.ErrArg)
		for _, group := range append(badGroups(), 1, 2, 16) {
			owns(t, l, group, nil)
		}
		if v := Version(l); v != 0 {
			t.Errorf("Version(%#v): %d, not 0", l, v)
		}
		if b, e := Encode(l); len(b) != 0 || e != api.ErrArg {
			t.Errorf("Encode(%#v): %x, error %d, not error 1", l, b, e)
		}
	}
	for _, l := range right() {
		for _, k := range badKeys() {
			refused(t, l, k)
			groups(t, l, []string{"a", "z", k}, nil, api.ErrArg)
			groups(t, l, []string{k, "a", "z"}, nil, api.ErrArg)
		}
		for _, group := range badGroups() {
			for _, k := range append(badKeys(), good...) {
				moves(t, l, k, group, nil, api.ErrArg)
			}
			owns(t, l, group, nil)
		}
	}
}

// refused tells whether all calls with that chart and key tell ErrArg.
func refused(t *testing.T, l []api.Range, k string) {
	t.Helper()
	finds(t, l, k, 0, api.ErrArg)
	splits(t, l, k, nil, api.ErrArg)
	merges(t, l, k, nil, api.ErrArg)
	for _, group := range []int{0, 1, 2, 16, 17} {
		moves(t, l, k, group, nil, api.ErrArg)
	}
	groups(t, l, []string{k}, nil, api.ErrArg)
}

// Ch2: the groups of keys, rising, each once, in whatever order the keys are, and however often.
func TestGroups(t *testing.T) {
	l := list(of("", "b", 9, 5), of("b", "h", 2, 3), of("h", "q", 16, 9), of("q", "t", 2, 1), of("t", "", 1, 7))
	for _, c := range []struct {
		keys []string
		want []int
	}{
		{nil, nil}, {[]string{}, nil},
		{[]string{""}, []int{9}}, {[]string{"b"}, []int{2}}, {[]string{"h"}, []int{16}}, {[]string{"t"}, []int{1}}, {[]string{highest}, []int{1}},
		{[]string{"a", "a\xff", ""}, []int{9}},
		{[]string{"a", "b"}, []int{2, 9}}, {[]string{"b", "a"}, []int{2, 9}},
		{[]string{"c", "r"}, []int{2}}, {[]string{"r", "c", "r"}, []int{2}},
		{[]string{"a", "c", "i", "r", "z"}, []int{1, 2, 9, 16}},
		{[]string{"z", "r", "i", "c", "a", "a", "z"}, []int{1, 2, 9, 16}},
		{[]string{"i", "z", longest}, []int{1, 16}},
	} {
		groups(t, l, c.keys, c.want, api.OK)
	}
	// No number of keys is too great.
	var keys []string
	for i := range 1000 {
		keys = append(keys, key(999-i))
	}
	groups(t, l, keys, []int{16}, api.OK)
	groups(t, many(64, func(i int) int { return 16 - i%16 }), keys, []int{1, 2, 3, 4, 5, 6, 7, 8, 9, 10, 11, 12, 13, 14, 15, 16}, api.OK)
}

// Ch2: a group's spans, in form: ranges that touch are one.
func TestOwned(t *testing.T) {
	l := list(of("", "b", 9, 5), of("b", "h", 2, 3), of("h", "q", 2, 9), of("q", "t", 9, 1), of("t", "x", 1, 7), of("x", "", 9, 7))
	owns(t, l, 9, spans("", "b", "q", "t", "x", ""))
	owns(t, l, 2, spans("b", "q"))
	owns(t, l, 1, spans("t", "x"))
	for _, group := range []int{3, 8, 10, 16} {
		owns(t, l, group, nil)
	}
	owns(t, list(of("", "", 3, 1)), 3, spans("", ""))
	owns(t, list(of("", "", 3, 1)), 1, nil)
	owns(t, list(of("", "m", 3, 1), of("m", "", 3, 2)), 3, spans("", ""))
	owns(t, list(of("", highest, 3, 1), of(highest, "", 4, 2)), 4, spans(highest, ""))
	owns(t, many(64, one), 1, spans("", ""))
	var odd, even []api.Span
	for i, r := range many(64, one) {
		if i%2 == 0 {
			even = append(even, r.Span)
		} else {
			odd = append(odd, r.Span)
		}
	}
	two := many(64, func(i int) int { return i%2 + 1 })
	owns(t, two, 1, even)
	owns(t, two, 2, odd)
}

// Ch2: the greatest epoch, whichever range has it.
func TestVersion(t *testing.T) {
	for _, c := range []struct {
		l    []api.Range
		want uint64
	}{
		{list(of("", "", 1, 1)), 1}, {list(of("", "", 16, top)), top}, {list(of("", "", 1, 300)), 300},
		{letters(), 9}, {many(64, one), 64},
		{list(of("", "m", 1, 4), of("m", "", 1, 2)), 4}, {list(of("", "m", 1, 2), of("m", "", 1, 4)), 4}, {list(of("", "m", 1, 4), of("m", "", 1, 4)), 4},
	} {
		if got := Version(c.l); got != c.want {
			t.Errorf("Version(%#v): %d, not %d", c.l, got, c.want)
		}
	}
	for i := range 64 {
		l := many(64, one)
		l[i].Epoch = top - 3
		if got := Version(l); got != top-3 {
			t.Errorf("range %d has the greatest: Version: %d", i, got)
		}
	}
}

// bytesOf is ranges' bytes, by the chapter's words, whether they are a chart or not.
func bytesOf(l []api.Range) []byte {
	b := wire.Uvarint(nil, uint64(len(l)))
	for _, r := range l {
		b = wire.Bytes(b, []byte(r.Span.From))
		b = wire.Bytes(b, []byte(r.Span.To))
		b = wire.Uvarint(b, uint64(r.Group))
		b = wire.Uvarint(b, r.Epoch)
	}
	return b
}

// Ch2: the bytes, to the letter.
func TestEncode(t *testing.T) {
	for _, c := range []struct {
		l    []api.Range
		want string
	}{
		{list(of("", "", 1, 1)), "\x01\x00\x00\x01\x01"},
		{list(of("", "", 16, 300)), "\x01\x00\x00\x10\xac\x02"},
		{list(of("", "", 2, top)), "\x01\x00\x00\x02\x80\x80\x80\x80\x80\x80\x80\x80\x40"},
		{list(of("", "m", 1, 2), of("m", "", 2, 3)), "\x02\x00\x01m\x01\x02\x01m\x00\x02\x03"},
		{list(of("", "ab", 1, 128), of("ab", longest, 3, 127), of(longest, "", 2, 1)),
			"\x03\x00\x02ab\x01\x80\x01\x02ab\x40" + longest + "\x03\x7f\x40" + longest + "\x00\x02\x01"},
	} {
		if b, e := Encode(c.l); string(b) != c.want || e != api.OK {
			t.Errorf("Encode(%#v): %x, error %d, not %x", c.l, b, e, c.want)
		}
		got, e := Decode([]byte(c.want))
		tells(t, fmt.Sprintf("Decode(%x)", c.want), got, e, c.l, api.OK)
	}
}

// Ch2, Ch3: what was encoded is decoded, and what was decoded is encoded.
func TestDecode(t *testing.T) {
	for _, l := range right() {
		b, e := Encode(l)
		if e != api.OK || string(b) != string(bytesOf(l)) {
			t.Errorf("Encode(%#v): %x, error %d", l, b, e)
		}
		got, e := Decode(b)
		tells(t, fmt.Sprintf("Decode(%x)", b), got, e, l, api.OK)
	}
}

// illegible tells whether Decode tells ErrText of bytes.
func illegible(t *testing.T, b []byte) {
	t.Helper()
	got, e := Decode(b)
	tells(t, fmt.Sprintf("Decode(%x)", b), got, e, nil, api.ErrText)
}

// Ch2: bytes that are no chart's are refused.
func TestDecodeWrong(t *testing.T) {
	for _, l := range wrong() {
		illegible(t, bytesOf(l))
	}
	for _, text := range []string{
		"", "\x00", "\x01", "\x80", "\x81\x00", "\x81\x00\x00\x00\x01\x01",
		"\x01\x80\x00\x00\x01\x01", "\x01\x00\x80\x00\x01\x01", "\x01\x00\x00\x81\x00\x01", "\x01\x00\x00\x01\x81\x00",
		"\x00\x00\x00\x01\x01", "\x02\x00\x00\x01\x01", "\x01\x00\x00\x01\x01\x00",
		"\x01\x00\x00\x01\x01\x01\x00\x00\x01\x01", "\x01\x00\x00\x01\x00", "\x01\x00\x00\x00\x01", "\x01\x00\x00\x11\x01",
		"\x01\x00\x00\x01\x81\x80\x80\x80\x80\x80\x80\x80\x40", "\x01\x00\x00\x01\xff\xff\xff\xff\xff\xff\xff\xff\xff\x01",
		"\x01\x00\x00\x01\xff\xff\xff\xff\xff\xff\xff\xff\xff\x02", "\x01\x00\x00\x81\x80\x80\x80\x80\x80\x80\x80\x80\x01\x01",
		"\xff\xff\xff\xff\xff\xff\xff\xff\xff\x01", "\xff\xff\xff\xff\xff\xff\xff\xff\xff\x01\x00\x00\x01\x01",
		"\x01\xff\xff\xff\xff\xff\xff\xff\xff\xff\x01\x00\x01\x01", "\x01\x41" + tooLong + "\x00\x01\x01",
	} {
		illegible(t, []byte(text))
	}
	for _, l := range right() {
		b := bytesOf(l)
		for n := range b {
			illegible(t, b[:n])
			illegible(t, b[n+1:])
		}
		for more := range 256 {
			illegible(t, append(slices.Clone(b), byte(more)))
		}
		illegible(t, slices.Concat(b, b))
	}
	illegible(t, make([]byte, 1<<20))
}

// Ch2, Ch3: whichever byte of a chart's bytes is turned, they are another chart's, or none's.
func TestDecodeTurned(t *testing.T) {
	for _, l := range [][]api.Range{letters(), list(of("", "", 1, 1)), list(of("", longest, 1, top), of(longest, "", 2, 1<<30))} {
		b := bytesOf(l)
		for i := range b {
			for to := range 256 {
				turned := slices.Clone(b)
				turned[i] = byte(to)
				again(t, turned)
				if got, _ := Decode(turned); slices.Equal(got, l) != (turned[i] == b[i]) {
					t.Errorf("Decode(%x): %#v", turned, got)
				}
			}
		}
	}
}

// again tells whether bytes are a chart's that is encoded as they are, or refused whole.
func again(t *testing.T, b []byte) {
	t.Helper()
	l, e := Decode(b)
	if e != api.OK {
		if e != api.ErrText || len(l) != 0 {
			t.Fatalf("Decode(%x): %#v, error %d", b, l, e)
		}
		return
	}
	is(t, fmt.Sprintf("Check(%#v)", l), Check(l), api.OK)
	if back, e := Encode(l); e != api.OK || string(back) != string(b) {
		t.Fatalf("Decode(%x): %#v, which is encoded as %x, error %d", b, l, back, e)
	}
}

// Ch2, Ch3: all bytes.
func FuzzDecode(f *testing.F) {
	for _, l := range append(right(), wrong()...) {
		f.Add(bytesOf(l))
	}
	f.Fuzz(func(t *testing.T, b []byte) { again(t, b) })
}

// The chapter's example.
func TestExample(t *testing.T) {
	l, e := New(1)
	is(t, "New", e, api.OK)
	l, e = Split(l, "m")
	is(t, "Split", e, api.OK)
	l, e = Move(l, "m", 2)
	tells(t, "Move", l, e, list(of("", "m", 1, 2), of("m", "", 2, 3)), api.OK)
}

// R3: what is handed in is not changed, nor what lies behind it, and no answer shares its memory, nor another answer's.
func TestMemory(t *testing.T) {
	mark := of("?", "??", -1, 77)
	for name, call := range map[string]func(l []api.Range) []api.Range{
		"Split the first": func(l []api.Range) []api.Range { x, _ := Split(l, "a"); return x },
		"Split the last":  func(l []api.Range) []api.Range { x, _ := Split(l, "z"); return x },
		"Merge":           func(l []api.Range) []api.Range { x, _ := Merge(l, "b"); return x },
		"Move the first":  func(l []api.Range) []api.Range { x, _ := Move(l, "a", 3); return x },
		"Move the last":   func(l []api.Range) []api.Range { x, _ := Move(l, "z", 3); return x },
		"Decode":          func(l []api.Range) []api.Range { b, _ := Encode(l); x, _ := Decode(b); return x },
		"New":             func(l []api.Range) []api.Range { x, _ := New(3); return x },
		"others": func(l []api.Range) []api.Range {
			Check(l)
			Find(l, "z")
			Version(l)
			Groups(l, []string{"z", "a"})
			Owned(l, 1)
			return nil
		},
	} {
		room := append(letters(), mark, mark, mark, mark)
		was := slices.Clone(room)
		l := room[:4]
		first, second := call(l), call(l)
		if !slices.Equal(room, was) {
			t.Fatalf("changed by %s: %#v", name, room)
		}
		want := slices.Clone(second)
		spoil(first)
		if !slices.Equal(room, was) || !slices.Equal(second, want) {
			t.Errorf("%s: answers share their memory", name)
		}
		spoil(room)
		if !slices.Equal(second, want) {
			t.Errorf("%s: an answer shares the argument's memory", name)
		}
	}
}

// R3: keys and bytes that are handed in are not changed and not kept; answers of the other kinds are new, too.
func TestMemoryOfOthers(t *testing.T) {
	keys := []string{"z", "a", "h", "?"}
	a, _ := Groups(letters(), keys[:3])
	b, _ := Groups(letters(), keys[:3])
	for i := range a[:cap(a)] {
		a[:cap(a)][i] = 99
	}
	if !slices.Equal(keys, []string{"z", "a", "h", "?"}) || !slices.Equal(b, []int{1, 16}) {
		t.Errorf("Groups: %q, %d", keys, b)
	}
	text, _ := Encode(letters())
	same, _ := Encode(letters())
	l, _ := Decode(text)
	for i := range text[:cap(text)] {
		text[:cap(text)][i] = 99
	}
	if !slices.Equal(l, letters()) || string(same) != string(bytesOf(letters())) {
		t.Errorf("Decode: %#v; Encode: %x", l, same)
	}
	two := list(of("", "b", 1, 1), of("b", "c", 2, 1), of("c", "", 1, 1))
	p, q := Owned(two, 1), Owned(two, 1)
	for i := range p[:cap(p)] {
		p[:cap(p)][i] = api.Span{From: "!", To: "!!"}
	}
	if !slices.Equal(q, spans("", "b", "c", "")) {
		t.Errorf("Owned: %q", q)
	}
}

// spoil changes ranges, and the room behind them.
func spoil(l []api.Range) {
	l = l[:cap(l)]
	for i := range l {
		l[i] = of("!", "!!", -7, 99)
	}
}
