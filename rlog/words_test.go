package rlog

import (
	"fmt"
	"math/rand"
	"slices"
	"testing"

	"gudgeon/api"
)

// voters tells whether bytes are voters, by counting each node.
func voters(data []byte) bool {
	var rising []byte
	for node := byte(1); node <= 7; node++ {
		if slices.Contains(data, node) {
			rising = append(rising, node)
		}
	}
	return len(data) > 0 && string(rising) == string(data)
}

// there tells whether an entry may be, wherever it stands.
func there(e api.Entry) bool {
	switch e.Kind {
	case 0, 1:
		return len(e.Data) < 4097
	case 2:
		return voters(e.Data)
	}
	return false
}

// may tells whether a log may be, by the chapter's words, one by one.
func may(l api.Log) bool {
	if l.Base.Kind != 0 || !voters(l.Base.Data) || l.Base.Index > high || len(l.L) > 4096 {
		return false
	}
	all := append([]api.Entry{l.Base}, l.L...)
	for i, e := range all[1:] {
		if e.Index != l.Base.Index+uint64(i)+1 || all[i].Term > e.Term || !there(e) {
			return false
		}
	}
	return true
}

// terms is the term at each Index of a log that may be.
func terms(l api.Log) map[uint64]uint64 {
	at := map[uint64]uint64{l.Base.Index: l.Base.Term}
	for _, e := range l.L {
		at[e.Index] = e.Term
	}
	return at
}

// stand tells whether entries may stand behind an index and a term: a log behind that term alone, which begins at 0, stands
// for whatever there was.
func stand(index, term uint64, entries []api.Entry) bool {
	l := api.Log{Base: entry(0, term, 0, 1), L: slices.Clone(entries)}
	for i, e := range entries {
		if e.Index <= index {
			return false
		}
		l.L[i].Index = e.Index - index
	}
	return may(l)
}

// merged is what Merge tells, by the chapter's words.
func merged(l api.Log, index, term uint64, entries []api.Entry) (api.Log, uint64, api.Errno) {
	if !may(l) || !stand(index, term, entries) {
		return api.Log{}, 0, api.ErrArg
	}
	at := terms(l)
	had, ok := at[index]
	switch {
	case index < l.Base.Index:
		return api.Log{}, 0, api.ErrOld
	case !ok || had != term:
		return api.Log{}, 0, api.ErrGap
	}
	for i, e := range entries {
		if had, ok := at[e.Index]; ok && had == e.Term {
			continue
		}
		left := slices.DeleteFunc(slices.Clone(l.L), func(old api.Entry) bool { return old.Index >= e.Index })
		return api.Log{Base: l.Base, L: append(left, entries[i:]...)}, entries[len(entries)-1].Index, api.OK
	}
	return l, index + uint64(len(entries)), api.OK
}

// compacted is what Compact tells, by the chapter's words.
func compacted(l api.Log, index uint64) (api.Log, api.Errno) {
	at := terms(l)
	switch _, ok := at[index]; {
	case !may(l):
		return api.Log{}, api.ErrArg
	case index <= l.Base.Index:
		return api.Log{}, api.ErrOld
	case !ok:
		return api.Log{}, api.ErrGap
	}
	k := api.Log{Base: entry(index, at[index], 0, l.Base.Data...)}
	for _, e := range l.L {
		if e.Index > index {
			k.L = append(k.L, e)
		} else if e.Kind == api.EntryConfig {
			k.Base.Data = e.Data
		}
	}
	return k, api.OK
}

// sequences is all lists of so many numbers at most, each 0 to below.
func sequences(most int, below uint64) [][]uint64 {
	all := [][]uint64{nil}
	last := all
	for range most {
		var next [][]uint64
		for _, l := range last {
			for n := range below {
				next = append(next, append(slices.Clone(l), n))
			}
		}
		all, last = append(all, next...), next
	}
	return all
}

// Lo1, Lo3: all logs of three entries at most of the terms 0 to 2, and all that may be merged there, of terms 0 to 3.
func TestMergeByWords(t *testing.T) {
	done := map[api.Errno]int{}
	for _, first := range []uint64{0, 2} {
		for _, had := range sequences(3, 3) {
			l := log(first, first/2, had...)
			if e := Check(l); (e == api.OK) != may(l) {
				t.Fatalf("Check(%s): error %d", text(l), e)
			}
			for index := range first + 5 {
				for term := range uint64(3) {
					for _, come := range sequences(3, 4) {
						entries := behind(index, come...)
						want, last, code := merged(l, index, term, entries)
						merges(t, l, index, term, entries, want, last, code)
						done[code]++
					}
				}
			}
		}
	}
	for _, code := range []api.Errno{api.OK, api.ErrArg, api.ErrOld, api.ErrGap} {
		if done[code] == 0 {
			t.Errorf("error %d was never told", code)
		}
	}
}

// chance is an entry by chance, right but now and then.
func chance(r *rand.Rand, index, term uint64) api.Entry {
	e := entry(index, term+uint64(r.Intn(3)/2), r.Intn(3), byte(r.Intn(256)))
	if e.Kind == api.EntryConfig {
		e.Data = []byte{1, 2, 3}[r.Intn(3):]
	}
	switch r.Intn(60) {
	case 0:
		e.Index = uint64(r.Intn(9))
	case 1:
		e.Term = uint64(r.Intn(3))
	case 2:
		e.Kind = r.Intn(6) - 2
	case 3:
		e.Data = [][]byte{nil, {0}, {8}, {1, 1}, {2, 1}, make([]byte, 4096), make([]byte, 4097)}[r.Intn(7)]
	}
	return e
}

// run is entries by chance behind an index and a term.
func run(r *rand.Rand, index, term uint64, most int) []api.Entry {
	var l []api.Entry
	for i := range r.Intn(most + 1) {
		e := chance(r, index+uint64(i)+1, term)
		l, term = append(l, e), e.Term
	}
	return l
}

// some is a log by chance.
func some(r *rand.Rand) api.Log {
	l := api.Log{Base: base(uint64(r.Intn(4)), uint64(r.Intn(2)))}
	if r.Intn(12) == 0 {
		l.Base.Index = high - 2 + uint64(r.Intn(4))
	}
	if r.Intn(40) == 0 {
		l.Base.Data = [][]byte{nil, {0}, {8}, {1, 1}, {2, 1}}[r.Intn(5)]
	}
	l.L = run(r, l.Base.Index, l.Base.Term, 7)
	return l
}

// Lo1 to Lo4: logs by chance, many of them right, held against the chapter's words.
func TestAllByWords(t *testing.T) {
	done := map[string]int{}
	for seed := range int64(40000) {
		r := rand.New(rand.NewSource(seed))
		l := some(r)
		if e := Check(l); (e == api.OK) != may(l) {
			t.Fatalf("Check(%s): error %d", text(l), e)
		}
		index := l.Base.Index + uint64(r.Intn(10)) - 1
		term := terms(l)[index]
		if r.Intn(4) == 0 {
			term = uint64(r.Intn(4))
		}
		entries := run(r, index, term, 5)
		want, last, code := merged(l, index, term, entries)
		merges(t, l, index, term, entries, want, last, code)
		done[fmt.Sprintf("Merge %d", code)]++
		small, code := compacted(l, index)
		compacts(t, l, index, small, code)
		done[fmt.Sprintf("Compact %d", code)]++
		asksByWords(t, l, index, term)
		done[fmt.Sprintf("Append %d", appendsByWords(t, r, l, term))]++
	}
	for _, what := range []string{"Merge 0", "Merge 1", "Merge 7", "Merge 12", "Compact 0", "Compact 1", "Compact 7", "Compact 12", "Append 0", "Append 1", "Append 2"} {
		if done[what] < 20 {
			t.Errorf("%s: %d times", what, done[what])
		}
	}
}

// asksByWords holds Last, Term, Slice, Voters, Fresh and Same of a log against the words, if it may be.
func asksByWords(t *testing.T, l api.Log, index, term uint64) {
	t.Helper()
	if !may(l) {
		return
	}
	last, data := l.Base, l.Base.Data
	var from []api.Entry
	for _, e := range l.L {
		last = e
		if e.Kind == api.EntryConfig {
			data = e.Data
		}
		if e.Index >= index && index > l.Base.Index && len(from) < 3 {
			from = append(from, e)
		}
	}
	at, ok := terms(l)[index]
	i, k := Last(l)
	got, is := Term(l, index)
	newer := term > last.Term || !(term < last.Term) && index >= last.Index
	equal(t, "asked of "+text(l), fmt.Sprint(i, k, got, is, show(Slice(l, index, 3)...), Voters(l), Fresh(l, index, term), Same(l, deep(l))),
		fmt.Sprint(last.Index, last.Term, at, ok, show(from...), data, newer, true))
}

// appendsByWords holds Append against the words, and tells its error.
func appendsByWords(t *testing.T, r *rand.Rand, l api.Log, term uint64) api.Errno {
	t.Helper()
	e := chance(r, 0, term)
	e.Index = l.Base.Index + uint64(len(l.L)) + 1
	want := api.Log{Base: l.Base, L: append(slices.Clone(l.L), e)}
	code := api.OK
	switch {
	case !may(l) || !may(want):
		code = api.ErrArg
	case e.Index > high:
		code = api.ErrFull
	}
	if code != api.OK {
		want = api.Log{}
	}
	appends(t, l, e.Term, e.Kind, e.Data, want, code)
	return code
}

// sent is what a leader sends: entries of its log.
type sent struct {
	index, term uint64
	entries     []api.Entry
}

// group is nodes with logs, and what each would have if nothing were compacted. A node leads a term till it takes
// anything from another one; a term is led once.
type group struct {
	r           *rand.Rand
	logs, whole [5]api.Log
	leads       [5]uint64
	term        uint64
	way         []sent
}

// newGroup is a group whose nodes have nothing.
func newGroup(seed int64) *group {
	g := &group{r: rand.New(rand.NewSource(seed))}
	for i := range g.logs {
		g.logs[i], g.whole[i] = log(0, 0), log(0, 0)
	}
	return g
}

// step is something that happens to a node.
func (g *group) step(t *testing.T) {
	t.Helper()
	i := g.r.Intn(len(g.logs))
	switch g.r.Intn(8) {
	case 0:
		if g.r.Intn(3) == 0 {
			g.term++
			g.leads[i] = g.term
		}
	case 1, 2:
		g.append(t, i)
	case 3, 4:
		g.send(i)
	case 5, 6:
		g.take(t, i)
	case 7:
		if g.r.Intn(4) == 0 {
			g.compact(t, i)
		}
	}
}

// append lets a leader have an entry more, whose bytes no other one has.
func (g *group) append(t *testing.T, i int) {
	t.Helper()
	if g.leads[i] == 0 {
		return
	}
	kind, data := 1, []byte(fmt.Sprint("of ", i, g.term, len(g.way), g.r.Intn(1000)))
	if g.r.Intn(4) == 0 {
		kind, data = 2, [][]byte{{1, 2, 3, 4}, {2, 3}, {5}}[g.r.Intn(3)]
	}
	var e, f api.Errno
	g.logs[i], e = Append(g.logs[i], g.leads[i], kind, data)
	g.whole[i], f = Append(g.whole[i], g.leads[i], kind, data)
	if e != api.OK || f != api.OK {
		t.Fatalf("Append: error %d, %d", e, f)
	}
}

// send lets a leader send entries from some Index on, which may come late, and often.
func (g *group) send(i int) {
	if g.leads[i] == 0 {
		return
	}
	last, _ := Last(g.logs[i])
	base := g.logs[i].Base.Index
	index := last - uint64(g.r.Intn(int(min(last-base, 4))+1))
	term, _ := Term(g.logs[i], index)
	g.way = append(g.way, sent{index, term, Slice(g.logs[i], index+1, 4)})
}

// take lets a node take what was sent, if it may.
func (g *group) take(t *testing.T, i int) {
	t.Helper()
	if len(g.way) == 0 {
		return
	}
	s := g.way[len(g.way)-1-g.r.Intn(min(len(g.way), 6))]
	l, _, e := Merge(g.logs[i], s.index, s.term, s.entries)
	if e != api.OK {
		return
	}
	g.logs[i], g.leads[i] = l, 0
	if g.whole[i], _, e = Merge(g.whole[i], s.index, s.term, s.entries); e != api.OK {
		t.Fatalf("Merge of the whole: error %d", e)
	}
}

// compact lets a node have a snapshot.
func (g *group) compact(t *testing.T, i int) {
	t.Helper()
	if n := len(g.logs[i].L); n > 0 {
		l, e := Compact(g.logs[i], g.logs[i].Base.Index+1+uint64(g.r.Intn(n)))
		if e != api.OK {
			t.Fatalf("Compact: error %d", e)
		}
		g.logs[i] = l
	}
}

// match tells whether two logs are alike up to the last Index at which their terms are, as far as both have it; and how
// many entries are.
func match(t *testing.T, a, b api.Log) int {
	t.Helper()
	at, other := terms(a), terms(b)
	var last uint64
	for index, term := range at {
		if had, ok := other[index]; ok && had == term {
			last = max(last, index)
		}
	}
	n := 0
	for _, e := range a.L {
		for _, f := range b.L {
			if e.Index != f.Index || e.Index > last {
				continue
			}
			n++
			equal(t, fmt.Sprintf("%s and %s, at %d", text(a), text(b), e.Index), show(e), show(f))
		}
	}
	for index := max(a.Base.Index, b.Base.Index); index <= last; index++ {
		if at[index] != other[index] {
			t.Errorf("%s and %s: terms %d and %d at %d", text(a), text(b), at[index], other[index], index)
		}
		equal(t, fmt.Sprintf("voters of %s and %s, at %d", text(a), text(b), index), fmt.Sprint(votersAt(a, index)), fmt.Sprint(votersAt(b, index)))
	}
	return n
}

// votersAt is a log's voters up to an Index.
func votersAt(l api.Log, index uint64) []int {
	l.L = slices.DeleteFunc(slices.Clone(l.L), func(e api.Entry) bool { return e.Index > index })
	return Voters(l)
}

// Lo5: logs of one leader a term, whatever comes late or often, and whoever compacts, match; and a log that was
// compacted is the end of what it would be else.
func TestLogMatching(t *testing.T) {
	alike, unlike, compacted := 0, 0, 0
	for seed := range int64(300) {
		g := newGroup(seed)
		for range 200 {
			g.step(t)
		}
		for i, a := range g.logs {
			is(t, "a node's", a, api.OK)
			if a.Base.Index > 0 {
				compacted++
				want, e := Compact(g.whole[i], a.Base.Index)
				equal(t, "compacted at once", text(want), text(a))
				if e != api.OK {
					t.Errorf("compacted at once: error %d", e)
				}
			}
			for _, b := range g.logs[i+1:] {
				alike += match(t, a, b)
				if !Same(a, b) {
					unlike++
				}
			}
			for _, b := range g.whole[i+1:] {
				alike += match(t, g.whole[i], b)
			}
		}
	}
	if alike < 1000 || unlike < 100 || compacted < 100 {
		t.Errorf("%d entries alike, %d logs unlike, %d compacted: too few to tell", alike, unlike, compacted)
	}
}

// R4: the same calls tell the same.
func TestSameAgain(t *testing.T) {
	told := func() string {
		var s []byte
		for seed := range int64(200) {
			r := rand.New(rand.NewSource(seed))
			l := some(r)
			a, e := Append(l, 9, r.Intn(4), []byte{1})
			m, n, f := Merge(l, l.Base.Index, l.Base.Term, run(r, l.Base.Index, l.Base.Term, 4))
			c, h := Compact(l, l.Base.Index+2)
			s = fmt.Append(s, text(a), e, text(m), n, f, text(c), h, Voters(l))
		}
		return string(s)
	}
	if told() != told() {
		t.Error("the same calls told otherwise")
	}
}
