package rlog

import (
	"bytes"
	"fmt"
	"math"
	"slices"
	"strings"
	"testing"

	"gudgeon/api"
)

const (
	top  = uint64(math.MaxUint64)
	high = uint64(1) << 62 // the greatest Index of a base
)

// entry is one.
func entry(index, term uint64, kind int, data ...byte) api.Entry {
	return api.Entry{Index: index, Term: term, Kind: kind, Data: data}
}

// behind is entries of EntryOrder behind an index, of these terms.
func behind(index uint64, terms ...uint64) []api.Entry {
	var l []api.Entry
	for i, term := range terms {
		n := index + uint64(i) + 1
		l = append(l, entry(n, term, api.EntryOrder, byte(n), byte(term)))
	}
	return l
}

// base is the base of an index and a term, of the voters 1, 2 and 3.
func base(index, term uint64) api.Entry {
	return entry(index, term, api.EntryNone, 1, 2, 3)
}

// log is a log behind that base, with entries of these terms.
func log(index, term uint64, terms ...uint64) api.Log {
	return api.Log{Base: base(index, term), L: behind(index, terms...)}
}

// of is a log behind a base of Index 0, with these entries.
func of(entries ...api.Entry) api.Log {
	return api.Log{Base: base(0, 0), L: entries}
}

// with is a log that has been turned.
func with(l api.Log, turn func(l *api.Log)) api.Log {
	l = deep(l)
	turn(&l)
	return l
}

// deep is a log of its own memory.
func deep(l api.Log) api.Log {
	l.Base.Data = bytes.Clone(l.Base.Data)
	l.L = slices.Clone(l.L)
	for i := range l.L {
		l.L[i].Data = bytes.Clone(l.L[i].Data)
	}
	return l
}

// many is so many entries of one term behind an index.
func many(index, term uint64, n int) []api.Entry {
	return behind(index, slices.Repeat([]uint64{term}, n)...)
}

// show is an entry, or many, as a text.
func show(list ...api.Entry) string {
	var s strings.Builder
	for _, e := range list {
		fmt.Fprintf(&s, "[%d.%d k%d ", e.Index, e.Term, e.Kind)
		if len(e.Data) > 20 {
			fmt.Fprintf(&s, "%d bytes of %d]", len(e.Data), e.Data[0])
		} else {
			fmt.Fprintf(&s, "%x]", e.Data)
		}
	}
	return s.String()
}

// text is a log as a text, of which a failing test shows the first ones.
func text(l api.Log) string {
	return show(l.Base) + " | " + show(l.L...)
}

// brief is a text's beginning.
func brief(s string) string {
	if len(s) > 400 {
		return s[:400] + ".."
	}
	return s
}

// equal tells whether texts are alike.
func equal(t *testing.T, what, got, want string) {
	t.Helper()
	if got != want {
		t.Errorf("%s: %s, not %s", brief(what), brief(got), brief(want))
	}
}

// is tells whether a log may be.
func is(t *testing.T, what string, l api.Log, want api.Errno) {
	t.Helper()
	if e := Check(l); e != want {
		t.Errorf("%s: Check(%s): error %d, not %d", what, brief(text(l)), e, want)
	}
}

// appends tells whether Append tells that.
func appends(t *testing.T, l api.Log, term uint64, kind int, data []byte, want api.Log, code api.Errno) {
	t.Helper()
	got, e := Append(l, term, kind, data)
	equal(t, fmt.Sprintf("Append(%s, %d, %d, %.8x)", text(l), term, kind, data), fmt.Sprint(text(got), " ", e), fmt.Sprint(text(want), " ", code))
}

// merges tells whether Merge tells that.
func merges(t *testing.T, l api.Log, index, term uint64, entries []api.Entry, want api.Log, last uint64, code api.Errno) {
	t.Helper()
	got, n, e := Merge(l, index, term, entries)
	equal(t, fmt.Sprintf("Merge(%s, %d, %d, %s)", brief(text(l)), index, term, show(entries...)), fmt.Sprint(text(got), " ", n, " ", e), fmt.Sprint(text(want), " ", last, " ", code))
}

// refuses tells whether Merge tells that error, and nothing beside it.
func refuses(t *testing.T, l api.Log, index, term uint64, entries []api.Entry, code api.Errno) {
	t.Helper()
	merges(t, l, index, term, entries, api.Log{}, 0, code)
}

// compacts tells whether Compact tells that.
func compacts(t *testing.T, l api.Log, index uint64, want api.Log, code api.Errno) {
	t.Helper()
	got, e := Compact(l, index)
	equal(t, fmt.Sprintf("Compact(%s, %d)", brief(text(l)), index), fmt.Sprint(text(got), " ", e), fmt.Sprint(text(want), " ", code))
}

// right is logs that may be.
func right() []api.Log {
	full := make([]byte, 4096)
	l := []api.Log{
		log(0, 0), log(0, 0, 0), log(0, 0, 1, 1, 2), log(5, 3), log(5, 3, 3), log(5, 3, 3, 4, 9, 9), log(0, top, top, top), log(7, 0, 0, 0, top),
		log(high, 1), log(high, 1, 1, 2, 3), log(high-1, 1, 1, 2), log(0, 1<<63, 1<<63, 1<<63+1),
		of(many(0, 2, 4096)...), {Base: base(high, 2), L: many(high, 2, 4096)},
		of(entry(1, 1, api.EntryNone), entry(2, 1, api.EntryOrder), entry(3, 2, api.EntryConfig, 4)),
		of(entry(1, 1, api.EntryNone, full...), entry(2, 1, api.EntryOrder, full...)),
		of(entry(1, 1, api.EntryConfig, 1, 2, 3, 4, 5, 6, 7), entry(2, 1, api.EntryConfig, 7), entry(3, 1, api.EntryConfig, 2, 5)),
		of(entry(1, 1, api.EntryNone, 9, 9), entry(2, 1, api.EntryOrder, 0, 255)), // no voters, and none are asked for
		{Base: entry(3, 2, api.EntryNone, 7)}, {Base: entry(3, 2, api.EntryNone, 1, 2, 3, 4, 5, 6, 7), L: []api.Entry{}},
	}
	return l
}

// badVoters is bytes that are no voters.
func badVoters() [][]byte {
	return [][]byte{nil, {}, {0}, {8}, {255}, {1, 1}, {2, 1}, {0, 1, 2}, {1, 2, 8}, {1, 2, 3, 4, 5, 6, 7, 8}, {1, 2, 3, 4, 5, 6, 7, 7}, make([]byte, 4096), make([]byte, 5000)}
}

// badKinds is kinds that no entry has.
func badKinds() []int {
	return []int{-1, 3, 4, 255, 256, 257, 258, 1 << 32, 1<<32 + 1, math.MaxInt, math.MinInt, -3}
}

// wrong is logs that may not be.
func wrong() []api.Log {
	good, three := log(5, 3, 3, 4, 5), of(entry(1, 1, api.EntryNone), entry(2, 1, api.EntryConfig, 1, 2), entry(3, 2, api.EntryOrder))
	l := []api.Log{
		{}, {L: behind(0, 1)}, log(high+1, 1), log(high+1, 1, 1), log(top, 1), log(top, 1, 1), log(1<<63, 1), {Base: base(top, 1), L: []api.Entry{entry(0, 1, 1)}},
		{Base: base(0, 0), L: behind(1, 1)}, {Base: base(5, 3), L: behind(6, 3)}, {Base: base(5, 3), L: behind(4, 3, 3)}, {Base: base(5, 3), L: behind(0, 3)},
		{Base: base(0, 0), L: []api.Entry{entry(0, 1, 1)}}, {Base: base(0, 0), L: []api.Entry{entry(top, 1, 1)}},
		log(5, 3, 2), log(5, 3, 3, 2), log(5, 3, 4, 4, 3), log(5, 3, 9, 8, 9), log(5, top, 0), log(0, 1<<63, 1), log(0, 1, 1<<63, 1),
		of(many(0, 2, 4097)...), of(many(0, 2, 10000)...),
	}
	for _, turn := range []func(l *api.Log){
		func(l *api.Log) { l.L[1].Index = l.L[0].Index }, func(l *api.Log) { l.L[1].Index = l.L[2].Index }, func(l *api.Log) { l.L[2].Index++ },
		func(l *api.Log) { l.L[2].Index = top }, func(l *api.Log) { l.L[0].Index = 0 }, func(l *api.Log) { l.L[0], l.L[1] = l.L[1], l.L[0] },
		func(l *api.Log) { l.L[0].Data = make([]byte, 4097) }, func(l *api.Log) { l.L[2].Data = make([]byte, 4097) },
		func(l *api.Log) { l.Base.Index++ }, func(l *api.Log) { l.Base.Index-- }, func(l *api.Log) { l.Base.Kind = api.EntryConfig }, func(l *api.Log) { l.Base.Kind = api.EntryOrder },
	} {
		l = append(l, with(good, turn), with(three, turn))
	}
	for _, b := range badVoters() {
		l = append(l, with(good, func(l *api.Log) { l.Base.Data = b }), with(three, func(l *api.Log) { l.L[1].Data = b }),
			with(good, func(l *api.Log) { l.L[2].Kind, l.L[2].Data = api.EntryConfig, b }))
	}
	for _, kind := range badKinds() {
		l = append(l, with(good, func(l *api.Log) { l.L[0].Kind = kind }), with(good, func(l *api.Log) { l.L[2].Kind = kind }), with(good, func(l *api.Log) { l.Base.Kind = kind }))
	}
	return l
}

// Lo1: which logs may be.
func TestCheck(t *testing.T) {
	for _, l := range right() {
		is(t, "right", l, api.OK)
	}
	for _, l := range wrong() {
		is(t, "wrong", l, api.ErrArg)
	}
}

// Lo1: the last entry's index and term, or Base's.
func TestLast(t *testing.T) {
	for _, c := range []struct {
		l           api.Log
		index, term uint64
	}{
		{log(0, 0), 0, 0}, {log(5, 3), 5, 3}, {log(5, 3, 3), 6, 3}, {log(5, 3, 4, 9), 7, 9}, {log(high, top), high, top}, {log(high, 1, 1, top), high + 2, top},
		{of(many(0, 7, 4096)...), 4096, 7}, {api.Log{Base: base(5, 3), L: []api.Entry{}}, 5, 3},
		{api.Log{}, 0, 0}, {api.Log{L: []api.Entry{entry(9, 8, -1)}}, 9, 8}, {log(5, 3, 4, 1), 7, 1},
	} {
		if index, term := Last(c.l); index != c.index || term != c.term {
			t.Errorf("Last(%s): %d, %d, not %d, %d", brief(text(c.l)), index, term, c.index, c.term)
		}
	}
}

// Lo1: the term at an index, from Base on up to the last one.
func TestTerm(t *testing.T) {
	for _, c := range []struct {
		l     api.Log
		index uint64
		term  uint64
		ok    bool
	}{
		{log(0, 0), 0, 0, true}, {log(0, 0), 1, 0, false}, {log(0, 0), top, 0, false}, {log(0, 0, 1), 0, 0, true}, {log(0, 0, 1), 1, 1, true}, {log(0, 0, 1), 2, 0, false},
		{log(5, 3), 4, 0, false}, {log(5, 3), 5, 3, true}, {log(5, 3), 6, 0, false}, {log(5, 3), 0, 0, false},
		{log(5, 3, 4, 4, 9), 4, 0, false}, {log(5, 3, 4, 4, 9), 5, 3, true}, {log(5, 3, 4, 4, 9), 6, 4, true}, {log(5, 3, 4, 4, 9), 7, 4, true},
		{log(5, 3, 4, 4, 9), 8, 9, true}, {log(5, 3, 4, 4, 9), 9, 0, false}, {log(5, 3, 4, 4, 9), 1<<32 + 6, 0, false}, {log(5, 3, 4, 4, 9), 1<<63 + 6, 0, false},
		{log(0, 0, 0, 0), 2, 0, true}, {log(high, 2, 3), high - 1, 0, false}, {log(high, 2, 3), high, 2, true}, {log(high, 2, 3), high + 1, 3, true}, {log(high, 2, 3), high + 2, 0, false},
		{log(high, 2, 3), 1, 0, false}, {log(0, 0, top), 1, top, true}, {of(many(0, 7, 4096)...), 4096, 7, true}, {of(many(0, 7, 4096)...), 4097, 0, false},
		{api.Log{}, 0, 0, true}, {api.Log{}, 1, 0, false},
		// Logs that may not be: what is below Base or above the last one is not there, nor what no entry has.
		{api.Log{Base: base(5, 3), L: []api.Entry{entry(3, 4, 1), entry(9, 6, 1)}}, 3, 0, false}, {api.Log{Base: base(5, 3), L: []api.Entry{entry(3, 4, 1), entry(9, 6, 1)}}, 9, 6, true},
		{api.Log{Base: base(5, 3), L: []api.Entry{entry(3, 4, 1), entry(9, 6, 1)}}, 7, 0, false}, {api.Log{Base: base(5, 3), L: []api.Entry{entry(7, 4, 1), entry(6, 6, 1)}}, 7, 0, false},
		{api.Log{Base: base(5, 3), L: []api.Entry{entry(2, 4, 1)}}, 5, 0, false},
	} {
		if term, ok := Term(c.l, c.index); term != c.term || ok != c.ok {
			t.Errorf("Term(%s, %d): %d, %t, not %d, %t", brief(text(c.l)), c.index, term, ok, c.term, c.ok)
		}
	}
}

// Lo1: the entries from one on, at most so many.
func TestSlice(t *testing.T) {
	l := log(5, 3, 3, 4, 4, 9)
	full := of(many(0, 7, 4096)...)
	for _, c := range []struct {
		l    api.Log
		from uint64
		most int
		want []api.Entry
	}{
		{l, 6, 1, l.L[:1]}, {l, 6, 2, l.L[:2]}, {l, 6, 4, l.L}, {l, 6, 5, l.L}, {l, 6, math.MaxInt, l.L}, {l, 7, 2, l.L[1:3]}, {l, 7, 100, l.L[1:]},
		{l, 9, 1, l.L[3:]}, {l, 9, 2, l.L[3:]}, {l, 10, 1, nil}, {l, 11, 1, nil}, {l, top, math.MaxInt, nil}, {l, 1<<32 + 6, 9, nil},
		{l, 5, 9, nil}, {l, 4, 9, nil}, {l, 0, 9, nil}, {l, 6, 0, nil}, {l, 6, -1, nil}, {l, 9, math.MinInt, nil}, {l, 5, 0, nil},
		{log(0, 0), 0, 9, nil}, {log(0, 0), 1, 9, nil}, {log(5, 3), 5, 9, nil}, {log(5, 3), 6, 9, nil}, {log(0, 0, 1), 1, 9, behind(0, 1)}, {log(0, 0, 1), 0, 9, nil},
		{log(high, 1, 2, 2), high + 1, 9, behind(high, 2, 2)}, {log(high, 1, 2, 2), high + 2, 9, behind(high+1, 2)}, {log(high, 1, 2, 2), high, 9, nil},
		{full, 1, 5000, full.L}, {full, 1, 4095, full.L[:4095]}, {full, 4096, 1, full.L[4095:]}, {full, 100, 16, full.L[99:115]},
		{api.Log{}, 0, 9, nil}, {api.Log{}, 1, 9, nil}, {api.Log{L: behind(0, 2, 1)}, 1, 9, behind(0, 2, 1)},
		{of(entry(1, 1, 0), entry(2, 1, 2, 4, 5), entry(3, 1, 1, 0, 9)), 2, 9, []api.Entry{entry(2, 1, 2, 4, 5), entry(3, 1, 1, 0, 9)}},
	} {
		equal(t, fmt.Sprintf("Slice(%s, %d, %d)", text(c.l), c.from, c.most), show(Slice(c.l, c.from, c.most)...), show(c.want...))
	}
}

// Lo1: the voters of the last EntryConfig, or Base's. Others have bytes, too, that are nobody's.
func TestVoters(t *testing.T) {
	config := func(index uint64, data ...byte) api.Entry { return entry(index, 1, api.EntryConfig, data...) }
	for _, c := range []struct {
		l    api.Log
		want []int
	}{
		{log(0, 0), []int{1, 2, 3}}, {log(5, 3, 3, 4), []int{1, 2, 3}}, {api.Log{Base: entry(5, 3, 0, 7)}, []int{7}},
		{of(config(1, 4)), []int{4}}, {of(config(1, 4), entry(2, 1, 1, 5)), []int{4}}, {of(entry(1, 1, 0, 5), config(2, 4, 6)), []int{4, 6}},
		{of(config(1, 4), config(2, 1, 2, 3, 4, 5, 6, 7)), []int{1, 2, 3, 4, 5, 6, 7}}, {of(config(1, 4), config(2, 5), entry(3, 1, 0, 6), entry(4, 1, 1, 7)), []int{5}},
		{of(config(1, 4), entry(2, 1, 1, 1), config(3, 2), entry(4, 1, 1, 3)), []int{2}},
		{of(append([]api.Entry{config(1, 6)}, many(1, 1, 4095)...)...), []int{6}},
		{api.Log{}, nil}, {api.Log{Base: entry(0, 0, 2)}, nil},
	} {
		if got := Voters(c.l); !slices.Equal(got, c.want) {
			t.Errorf("Voters(%s): %d, not %d", brief(text(c.l)), got, c.want)
		}
	}
}

// Lo1: a later term is newer, however short; of one term the longer log, or one as long.
func TestFresh(t *testing.T) {
	for _, c := range []struct {
		l           api.Log
		index, term uint64
		want        bool
	}{
		{log(0, 0), 0, 0, true}, {log(0, 0), 1, 0, true}, {log(0, 0), 0, 1, true}, {log(0, 0, 1, 1, 2), 3, 2, true}, {log(0, 0, 1, 1, 2), 4, 2, true}, {log(0, 0, 1, 1, 2), 2, 2, false},
		{log(0, 0, 1, 1, 2), 0, 2, false}, {log(0, 0, 1, 1, 2), 9, 1, false}, {log(0, 0, 1, 1, 2), top, 1, false}, {log(0, 0, 1, 1, 2), top, 0, false},
		{log(0, 0, 1, 1, 2), 0, 3, true}, {log(0, 0, 1, 1, 2), 1, top, true}, {log(0, 0, 1, 1, 2), top, 2, true}, {log(0, 0, 1, 1, 2), 3, 1, false},
		{log(5, 3), 5, 3, true}, {log(5, 3), 4, 3, false}, {log(5, 3), 6, 3, true}, {log(5, 3), 6, 2, false}, {log(5, 3), 0, 4, true},
		{log(0, top), 0, top, true}, {log(0, 1<<63), 9, 1<<63 - 1, false}, {log(0, 1<<63-1), 0, 1 << 63, true}, {log(1<<40, 1), 1, 1, false}, {api.Log{}, 0, 0, true},
	} {
		if got := Fresh(c.l, c.index, c.term); got != c.want {
			t.Errorf("Fresh(%s, %d, %d): %t", text(c.l), c.index, c.term, got)
		}
	}
}

// Lo1: logs are alike in all, or not; a list without anything is none.
func TestSame(t *testing.T) {
	all := append(right(), wrong()...)
	for i, a := range all {
		if !Same(a, a) || !Same(a, deep(a)) {
			t.Errorf("Same(%s) and itself: false", brief(text(a)))
		}
		for _, b := range all[i+1:] {
			if want := text(a) == text(b); len(a.L) < 100 && len(b.L) < 100 && (Same(a, b) != want || Same(b, a) != want) {
				t.Errorf("Same(%s, %s): not %t", text(a), text(b), want)
			}
		}
	}
	a := of(entry(1, 1, 1, 7, 8), entry(2, 2, 1), entry(3, 2, 2, 4))
	for i, turn := range []func(l *api.Log){
		func(l *api.Log) { l.Base.Index++ }, func(l *api.Log) { l.Base.Term++ }, func(l *api.Log) { l.Base.Kind++ }, func(l *api.Log) { l.Base.Data[2] = 4 },
		func(l *api.Log) { l.Base.Data = l.Base.Data[:2] }, func(l *api.Log) { l.Base.Data = nil }, func(l *api.Log) { l.L = nil }, func(l *api.Log) { l.L = l.L[:2] },
		func(l *api.Log) { l.L = l.L[1:] }, func(l *api.Log) { l.L = append(l.L, entry(4, 2, 1)) }, func(l *api.Log) { l.L[0].Index++ }, func(l *api.Log) { l.L[1].Term++ },
		func(l *api.Log) { l.L[2].Kind = 1 }, func(l *api.Log) { l.L[0].Data[1]++ }, func(l *api.Log) { l.L[0].Data = nil }, func(l *api.Log) { l.L[1].Data = []byte{0} },
		func(l *api.Log) { l.L[0], l.L[1] = l.L[1], l.L[0] },
	} {
		if b := with(a, turn); Same(a, b) || Same(b, a) {
			t.Errorf("turn %d: Same(%s, %s)", i, text(a), text(b))
		}
	}
	b := with(a, func(l *api.Log) { l.L[1].Data = []byte{} })
	if !Same(a, b) || !Same(api.Log{}, api.Log{Base: api.Entry{Data: []byte{}}, L: []api.Entry{}}) {
		t.Error("nil and the empty list are unlike")
	}
}

// Lo2: the entry is of the next Index, and all else is as it was.
func TestAppend(t *testing.T) {
	for _, l := range right() {
		last, term := Last(l)
		for _, k := range []struct {
			term uint64
			kind int
			data []byte
		}{{term, 0, nil}, {term, 1, []byte{9, 9}}, {top, 1, make([]byte, 4096)}, {max(term, 9), 2, []byte{1, 2, 3, 4, 5, 6, 7}}, {top, 2, []byte{7}}, {term, 0, []byte{0}}} {
			want := api.Log{Base: l.Base, L: append(slices.Clone(l.L), entry(last+1, k.term, k.kind, k.data...))}
			if len(l.L) == 4096 || last >= high {
				appends(t, l, k.term, k.kind, k.data, api.Log{}, api.ErrFull)
				continue
			}
			appends(t, l, k.term, k.kind, k.data, want, api.OK)
			is(t, "appended", want, api.OK)
		}
	}
	appends(t, log(0, 0), 0, 0, nil, of(entry(1, 0, 0)), api.OK)
	appends(t, log(5, 3, 4), 4, 1, []byte("a"), api.Log{Base: base(5, 3), L: append(behind(5, 4), entry(7, 4, 1, 'a'))}, api.OK)
}

// Lo2: ErrArg: the log may not be, the term is below the last one's, or there is no such entry.
func TestAppendWrong(t *testing.T) {
	for _, l := range wrong() {
		appends(t, l, top, 1, nil, api.Log{}, api.ErrArg)
	}
	for _, l := range right() {
		_, term := Last(l)
		if term > 0 {
			appends(t, l, term-1, 1, nil, api.Log{}, api.ErrArg)
			appends(t, l, 0, 1, nil, api.Log{}, api.ErrArg)
		}
		for _, kind := range badKinds() {
			appends(t, l, top, kind, []byte{1}, api.Log{}, api.ErrArg)
		}
		for _, b := range badVoters() {
			appends(t, l, top, api.EntryConfig, b, api.Log{}, api.ErrArg)
		}
		for kind := range api.EntryKinds {
			appends(t, l, top, kind, make([]byte, 4097), api.Log{}, api.ErrArg)
		}
	}
}

// Lo2: ErrFull: there are MaxLog, or the last Index is at its end, by Base or by an entry.
func TestAppendFull(t *testing.T) {
	for _, c := range []struct {
		l    api.Log
		code api.Errno
	}{
		{of(many(0, 2, 4095)...), api.OK}, {of(many(0, 2, 4096)...), api.ErrFull}, {api.Log{Base: base(5, 1), L: many(5, 2, 4095)}, api.OK}, {api.Log{Base: base(5, 1), L: many(5, 2, 4096)}, api.ErrFull},
		{log(high-1, 1), api.OK}, {log(high, 1), api.ErrFull}, {log(high-2, 1, 2), api.OK}, {log(high-1, 1, 2), api.ErrFull}, {log(high, 1, 2), api.ErrFull}, {log(high-2, 1, 2, 2, 2), api.ErrFull},
	} {
		l, e := Append(c.l, 2, 1, nil)
		if e != c.code || e == api.OK && len(l.L) != len(c.l.L)+1 || e != api.OK && text(l) != text(api.Log{}) {
			t.Errorf("Append(%s): error %d, not %d", brief(text(c.l)), e, c.code)
		}
	}
}

// Lo3: from the first entry on that is of another term, or is not there, a leader's follow.
func TestMerge(t *testing.T) {
	l := log(0, 0, 1, 1, 2)
	based := log(5, 3, 3, 4, 4)
	for _, c := range []struct {
		l           api.Log
		index, term uint64
		entries     []api.Entry
		want        []uint64
	}{
		{l, 2, 1, behind(2, 3), []uint64{1, 1, 3}}, // the chapter's example
		{l, 3, 2, behind(3, 3), []uint64{1, 1, 2, 3}}, {l, 3, 2, behind(3, 2, 2, 9), []uint64{1, 1, 2, 2, 2, 9}}, {l, 0, 0, behind(0, 4), []uint64{4}},
		{l, 0, 0, behind(0, 1, 3), []uint64{1, 3}}, {l, 0, 0, behind(0, 1, 1, 3, 3), []uint64{1, 1, 3, 3}}, {l, 0, 0, behind(0, 0, 1, 2), []uint64{0, 1, 2}},
		{l, 1, 1, behind(1, 2, 2), []uint64{1, 2, 2}}, {l, 1, 1, behind(1, 2), []uint64{1, 2}}, {l, 1, 1, behind(1, 1, 1), []uint64{1, 1, 1}},
		// Nothing is turned where there is nothing new: what stands behind stays.
		{l, 0, 0, behind(0, 1), []uint64{1, 1, 2}}, {l, 0, 0, behind(0, 1, 1), []uint64{1, 1, 2}}, {l, 1, 1, behind(1, 1), []uint64{1, 1, 2}}, {l, 0, 0, behind(0, 1, 1, 2), []uint64{1, 1, 2}},
		{l, 0, 0, nil, []uint64{1, 1, 2}}, {l, 1, 1, nil, []uint64{1, 1, 2}}, {l, 3, 2, nil, []uint64{1, 1, 2}}, {l, 3, 2, []api.Entry{}, []uint64{1, 1, 2}}, {l, 2, 1, behind(2, 2), []uint64{1, 1, 2}},
		{l, 2, 1, behind(2, 2, 2), []uint64{1, 1, 2, 2}},
		{based, 5, 3, behind(5, 3, 4, 4), []uint64{3, 4, 4}}, {based, 5, 3, behind(5, 4), []uint64{4}}, {based, 5, 3, nil, []uint64{3, 4, 4}}, {based, 8, 4, behind(8, 5), []uint64{3, 4, 4, 5}},
		{based, 6, 3, behind(6, 4, 5), []uint64{3, 4, 5}}, {based, 6, 3, behind(6, 3), []uint64{3, 3}},
		{log(high, 3), high, 3, behind(high, 4, 4), []uint64{4, 4}}, {log(high, 3, 4, 5), high + 2, 5, behind(high+2, 5), []uint64{4, 5, 5}}, {log(5, top, top), 6, top, behind(6, top), []uint64{top, top}},
	} {
		want := api.Log{Base: c.l.Base, L: behind(c.l.Base.Index, c.want...)}
		merges(t, c.l, c.index, c.term, c.entries, want, c.index+uint64(len(c.entries)), api.OK)
		is(t, "merged", want, api.OK)
	}
}

// Lo3: entries of one term are taken as alike; of others kind and bytes come, too.
func TestMergeBytes(t *testing.T) {
	l := of(entry(1, 1, 1, 7), entry(2, 1, 0), entry(3, 2, 2, 4))
	merges(t, l, 0, 0, []api.Entry{entry(1, 1, 0, 9), entry(2, 1, 2, 5)}, l, 2, api.OK)
	merges(t, l, 0, 0, []api.Entry{entry(1, 1, 0, 9), entry(2, 3, 2, 5), entry(3, 3, 0, 6)}, of(entry(1, 1, 1, 7), entry(2, 3, 2, 5), entry(3, 3, 0, 6)), 3, api.OK)
	merges(t, l, 2, 1, []api.Entry{entry(3, 2, 1, 9), entry(4, 2, 1, make([]byte, 4096)...)}, of(entry(1, 1, 1, 7), entry(2, 1, 0), entry(3, 2, 2, 4), entry(4, 2, 1, make([]byte, 4096)...)), 4, api.OK)
}

// Lo3: ErrArg comes first: logs that may not be, and entries that may not stand there.
func TestMergeWrong(t *testing.T) {
	for _, l := range wrong() {
		refuses(t, l, l.Base.Index, l.Base.Term, nil, api.ErrArg)
		refuses(t, l, 0, 0, nil, api.ErrArg)
	}
	l := log(5, 3, 3, 4, 4)
	bad := func(index, term uint64) [][]api.Entry {
		lists := [][]api.Entry{
			behind(index+1, 9), behind(index-1, 9), behind(index-1, 9, 9), append(behind(index, 9), behind(index, 9)...), append(behind(index, 9), behind(index+2, 9)...),
			append(behind(index, 9, 9), entry(0, 9, 1)), append(behind(index, 9), entry(top, 9, 1)), {entry(index, 9, 1)}, {entry(0, 9, 1)},
			behind(index, 9, 8), behind(index, 9, 9, 8), behind(index, 9, 8, 9), behind(index, top, 0),
			{entry(index+1, 9, 1, make([]byte, 4097)...)}, append(behind(index, 9), entry(index+2, 9, 0, make([]byte, 4097)...)),
		}
		if term > 0 {
			lists = append(lists, behind(index, term-1), behind(index, 0), behind(index, term-1, term))
		}
		for _, kind := range badKinds() {
			lists = append(lists, []api.Entry{entry(index+1, 9, kind, 1)}, append(behind(index, 9), entry(index+2, 9, kind, 1)))
		}
		for _, b := range badVoters() {
			lists = append(lists, []api.Entry{entry(index+1, 9, 2, b...)}, append(behind(index, 9), entry(index+2, 9, 2, b...)))
		}
		return lists
	}
	for _, at := range []struct{ index, term uint64 }{{5, 3}, {6, 3}, {7, 4}, {8, 4}, {6, 9}, {9, 4}, {2, 3}, {0, 0}, {1 << 40, 1}, {top - 9, 7}} { // ErrOld and ErrGap, too, would come later
		for _, entries := range bad(at.index, at.term) {
			refuses(t, l, at.index, at.term, entries, api.ErrArg)
		}
	}
	refuses(t, l, top, 1, []api.Entry{entry(0, 1, 1)}, api.ErrArg) // no number is above the greatest one
	refuses(t, l, top-1, 1, []api.Entry{entry(top, 1, 1), entry(0, 1, 1)}, api.ErrArg)
	refuses(t, log(0, 0), top, 0, []api.Entry{entry(0, 1, 1)}, api.ErrArg)
}

// Lo3: ErrOld below Base; ErrGap where the term is another one, or there is none. Entries need not go with what the log has
// there: a leader of a later term may well have older entries.
func TestMergeAway(t *testing.T) {
	l := log(5, 3, 3, 4, 4)
	for _, c := range []struct {
		index, term uint64
		terms       []uint64
		code        api.Errno
	}{
		{4, 3, nil, api.ErrOld}, {4, 3, []uint64{3, 3}, api.ErrOld}, {0, 0, nil, api.ErrOld}, {0, 0, []uint64{1, 1, 1, 1, 3, 3, 9}, api.ErrOld}, {4, top, nil, api.ErrOld},
		{5, 2, nil, api.ErrGap}, {5, 4, nil, api.ErrGap}, {5, 2, []uint64{3}, api.ErrGap}, {5, 0, []uint64{0}, api.ErrGap}, {6, 2, []uint64{2}, api.ErrGap}, {6, 4, []uint64{4}, api.ErrGap},
		{8, 3, []uint64{3, 9}, api.ErrGap}, {8, 1, []uint64{1, 2, 3}, api.ErrGap}, {8, 5, nil, api.ErrGap}, {9, 4, nil, api.ErrGap}, {9, 0, nil, api.ErrGap}, {9, 4, []uint64{5}, api.ErrGap},
		{1 << 40, 4, []uint64{5}, api.ErrGap}, {1<<32 + 6, 3, nil, api.ErrGap}, {top, 4, nil, api.ErrGap}, {top, 0, nil, api.ErrGap}, {top - 2, 4, []uint64{4, 4}, api.ErrGap}, {high + 1, 4, []uint64{4}, api.ErrGap},
	} {
		refuses(t, l, c.index, c.term, behind(c.index, c.terms...), c.code)
	}
	refuses(t, log(0, 0), 1, 0, nil, api.ErrGap)
	refuses(t, log(high, 1), high+1, 1, behind(high+1, 1), api.ErrGap)
	refuses(t, log(5, 3), 4, 3, many(4, 3, 5000), api.ErrOld) // ErrFull would come later
	refuses(t, log(5, 3), 6, 3, many(6, 3, 5000), api.ErrGap)
}

// Lo3: ErrFull: there would be too many; not where nothing is turned, nor where as many go.
func TestMergeFull(t *testing.T) {
	full := api.Log{Base: base(5, 1), L: many(5, 2, 4096)}
	refuses(t, full, 4101, 2, behind(4101, 2), api.ErrFull)
	refuses(t, full, 4100, 2, behind(4100, 2, 2), api.ErrFull)
	refuses(t, full, 5, 1, many(5, 2, 4097), api.ErrFull)
	refuses(t, full, 5, 1, many(5, 3, 4097), api.ErrFull)
	refuses(t, log(5, 1), 5, 1, many(5, 1, 5000), api.ErrFull)
	refuses(t, log(5, 1, 2, 2), 7, 2, many(7, 2, 4095), api.ErrFull)
	merges(t, log(5, 1, 2, 2), 7, 2, many(7, 2, 4094), full, 4101, api.OK)
	merges(t, log(5, 1), 5, 1, many(5, 2, 4096), full, 4101, api.OK)
	merges(t, full, 5, 1, many(5, 2, 4096), full, 4101, api.OK)
	merges(t, full, 4101, 2, nil, full, 4101, api.OK)
	merges(t, full, 4100, 2, behind(4100, 3), api.Log{Base: base(5, 1), L: append(many(5, 2, 4095), behind(4100, 3)...)}, 4101, api.OK)
	merges(t, full, 5, 1, behind(5, 3), log(5, 1, 3), 6, api.OK)
	merges(t, log(high, 1), high, 1, many(high, 2, 4096), api.Log{Base: base(high, 1), L: many(high, 2, 4096)}, high+4096, api.OK)
}

// Lo4: Base is that entry, with the voters as they are up to it; the entries behind stay.
func TestCompact(t *testing.T) {
	l := api.Log{Base: base(5, 3), L: []api.Entry{
		entry(6, 3, 1, 9), entry(7, 4, 2, 1, 2, 3, 4), entry(8, 4, 1, 8, 8), entry(9, 6, 2, 2, 3), entry(10, 6, 0), entry(11, 7, 1, 7),
	}}
	for _, c := range []struct {
		index uint64
		base  api.Entry
	}{
		{6, entry(6, 3, 0, 1, 2, 3)}, {7, entry(7, 4, 0, 1, 2, 3, 4)}, {8, entry(8, 4, 0, 1, 2, 3, 4)}, {9, entry(9, 6, 0, 2, 3)}, {10, entry(10, 6, 0, 2, 3)}, {11, entry(11, 7, 0, 2, 3)},
	} {
		want := api.Log{Base: c.base, L: l.L[c.index-5:]}
		compacts(t, l, c.index, want, api.OK)
		is(t, "compacted", want, api.OK)
	}
	for _, index := range []uint64{5, 4, 1, 0} {
		compacts(t, l, index, api.Log{}, api.ErrOld)
	}
	for _, index := range []uint64{12, 13, 1<<32 + 6, 1 << 62, 1<<63 + 6, top} {
		compacts(t, l, index, api.Log{}, api.ErrGap)
	}
}

// Lo4: logs at their edges, and logs that may not be.
func TestCompactEdges(t *testing.T) {
	compacts(t, log(0, 0), 0, api.Log{}, api.ErrOld)
	compacts(t, log(0, 0), 1, api.Log{}, api.ErrGap)
	compacts(t, log(0, 0, 0), 1, log(1, 0), api.OK)
	compacts(t, log(high, 1), high, api.Log{}, api.ErrOld)
	compacts(t, log(high-1, 1, 2, 3), high, log(high, 2, 3), api.OK)
	compacts(t, log(high, 1, 2), high+2, api.Log{}, api.ErrGap)
	compacts(t, log(high, 1, 2, 3), high+1, log(high+1, 2, 3), api.OK) // a base that may not be; no error is named for it
	full := of(many(0, 2, 4096)...)
	compacts(t, full, 4096, log(4096, 2), api.OK)
	compacts(t, full, 1, api.Log{Base: base(1, 2), L: full.L[1:]}, api.OK)
	compacts(t, full, 4097, api.Log{}, api.ErrGap)
	for _, l := range wrong() {
		for _, index := range []uint64{0, 1, 6, 7, l.Base.Index, l.Base.Index + 1, top} {
			compacts(t, l, index, api.Log{}, api.ErrArg)
		}
	}
}

// R1: no call panics, whatever the log is; what is told of it shows but what it has.
func TestEnds(t *testing.T) {
	for _, l := range wrong() {
		for _, index := range []uint64{0, 1, 5, 6, 7, 8, 9, l.Base.Index, high, top - 1, top} {
			Term(l, index)
			Fresh(l, index, l.Base.Term)
			for _, most := range []int{math.MinInt, 0, 1, 2, math.MaxInt} {
				if n := len(Slice(l, index, most)); n > len(l.L) || n > max(most, 0) {
					t.Errorf("Slice(%s, %d, %d): %d entries", brief(text(l)), index, most, n)
				}
			}
		}
		Voters(l)
		Last(l)
	}
}

// room is a log whose lists have room behind them, with marks there.
func room() (l api.Log, all []api.Entry) {
	marked := func(data ...byte) []byte { return append(data, 0xee, 0xee)[:len(data)] }
	all = []api.Entry{
		{Index: 6, Term: 3, Kind: 1, Data: marked(9)}, {Index: 7, Term: 4, Kind: 2, Data: marked(1, 2, 3, 4)}, {Index: 8, Term: 4, Kind: 1, Data: marked(8, 8)},
		{Index: 66, Term: 66, Kind: 66, Data: marked(6)}, {Index: 77, Term: 77, Kind: 77, Data: marked(7)},
	}
	return api.Log{Base: api.Entry{Index: 5, Term: 3, Data: marked(1, 2, 3)}, L: all[:3]}, all
}

// spoil turns all that entries have, and the room behind.
func spoil(lists ...[]api.Entry) {
	for _, list := range lists {
		for i, e := range list[:cap(list)] {
			smear(e.Data)
			list[:cap(list)][i] = entry(111, 111, 111)
		}
	}
}

// smear turns bytes, and the room behind.
func smear(b []byte) {
	b = b[:cap(b)]
	for i := range b {
		b[i] ^= 0x55
	}
}

// whole is entries as a text, with the bytes behind theirs.
func whole(list []api.Entry) string {
	s := ""
	for _, e := range list {
		s += show(e) + fmt.Sprintf("%x", e.Data[:cap(e.Data)])
	}
	return s
}

// R3: what is handed in is not changed, nor what lies behind it; no answer shares its memory, nor two lists of one answer.
func TestMemory(t *testing.T) {
	for what, call := range map[string]func(l api.Log, entries []api.Entry) api.Log{
		"Append":         func(l api.Log, entries []api.Entry) api.Log { k, _ := Append(l, 4, 2, entries[1].Data); return k },
		"Merge":          func(l api.Log, entries []api.Entry) api.Log { k, _, _ := Merge(l, 5, 3, entries); return k },
		"Merge of none":  func(l api.Log, entries []api.Entry) api.Log { k, _, _ := Merge(l, 5, 3, entries[:1]); return k },
		"Merge behind":   func(l api.Log, entries []api.Entry) api.Log { k, _, _ := Merge(l, 6, 3, entries[1:]); return k },
		"Compact":        func(l api.Log, entries []api.Entry) api.Log { k, _ := Compact(l, 7); return k },
		"Compact at one": func(l api.Log, entries []api.Entry) api.Log { k, _ := Compact(l, 6); return k },
		"Slice":          func(l api.Log, entries []api.Entry) api.Log { return api.Log{L: Slice(l, 6, 2)} },
	} {
		l, all := room()
		_, entries := room()
		entries[1].Term, entries[2].Term = 5, 5
		was, wasEntries, wasBase := whole(all), whole(entries), whole([]api.Entry{l.Base})
		same := func(when string) {
			if whole(all) != was || whole(entries) != wasEntries || whole([]api.Entry{l.Base}) != wasBase {
				t.Errorf("%s: %s: the arguments turned", what, when)
			}
		}
		first, second := call(l, entries[:3]), call(l, entries[:3])
		same("called")
		want := text(second)
		if len(second.L) == 0 || text(first) != want {
			t.Errorf("%s: %s, then %s", what, text(first), want)
		}
		spoil(first.L)
		smear(first.Base.Data)
		same("answer spoilt")
		equal(t, what+": another answer spoilt", text(second), want)
		alone(t, what, second)
		third := call(l, entries[:3])
		spoil(all, entries)
		smear(l.Base.Data)
		equal(t, what+": arguments spoilt", text(third), want)
	}
}

// alone tells whether no two lists of a log share memory: each of them is turned, and the others stay.
func alone(t *testing.T, what string, l api.Log) {
	t.Helper()
	list := append([]api.Entry{l.Base}, l.L...)
	for i := range list {
		ahead, after := whole(list[:i]), whole(list[i+1:])
		smear(list[i].Data)
		if whole(list[:i]) != ahead || whole(list[i+1:]) != after {
			t.Errorf("%s: list %d shares memory with another one", what, i)
		}
	}
}

// R3: calls that tell no log turn nothing either; Voters are told anew.
func TestMemoryOfOthers(t *testing.T) {
	l, all := room()
	was := whole(all)
	first, second := Voters(l), Voters(l)
	for i := range first[:cap(first)] {
		first[:cap(first)][i] = 99
	}
	if !slices.Equal(second, []int{1, 2, 3, 4}) || !slices.Equal(Voters(l), second) {
		t.Errorf("Voters: %d, then %d", second, Voters(l))
	}
	Check(l)
	Last(l)
	Term(l, 7)
	Fresh(l, 7, 3)
	Same(l, l)
	Merge(l, 9, 9, all)
	Append(l, 1, 1, nil)
	Compact(l, 99)
	if whole(all) != was {
		t.Error("the argument turned")
	}
}
