package chart

import (
	"fmt"
	"math/rand"
	"slices"
	"strings"
	"testing"

	"gudgeon/api"
	"gudgeon/span"
)

// board is a chart by the chapter's words, key by key: of each place whether a range begins there, and whose the key is,
// since which epoch.
type board []cell

// cell is a key's place on a board.
type cell struct {
	begins bool
	group  int
	epoch  uint64
}

// chart is a board's, with the keys of its places.
func (b board) chart(keys []string) []api.Range {
	var l []api.Range
	for i, c := range b {
		if !c.begins {
			continue
		}
		if len(l) > 0 {
			l[len(l)-1].Span.To = keys[i]
		}
		l = append(l, of(keys[i], "", c.group, c.epoch))
	}
	return l
}

// version is the greatest epoch.
func (b board) version() uint64 {
	var v uint64
	for _, c := range b {
		v = max(v, c.epoch)
	}
	return v
}

// size is how many ranges there are.
func (b board) size() int {
	n := 0
	for _, c := range b {
		if c.begins {
			n++
		}
	}
	return n
}

// rangeOf is from which place on the range is that has a place, below which one.
func (b board) rangeOf(at int) (from, to int) {
	for from = at; !b[from].begins; from-- {
	}
	for to = at + 1; to < len(b) && !b[to].begins; to++ {
	}
	return from, to
}

// turn is a board whose places from one on, below another one, are a group's, of a new epoch.
func (b board) turn(from, to, group int) board {
	turned := slices.Clone(b)
	for i := from; i < to; i++ {
		turned[i].group, turned[i].epoch = group, b.version()+1
	}
	return turned
}

// split is what Split must tell.
func (b board) split(at int) (board, api.Errno) {
	if b[at].begins {
		return b, api.ErrSame
	}
	if b.size() == 64 || b.version() == top {
		return b, api.ErrFull
	}
	from, to := b.rangeOf(at)
	turned := b.turn(from, to, b[from].group)
	turned[at].begins = true
	return turned, api.OK
}

// merge is what Merge must tell.
func (b board) merge(at int) (board, api.Errno) {
	if at == 0 || !b[at].begins {
		return b, api.ErrNone
	}
	from, _ := b.rangeOf(at - 1)
	_, to := b.rangeOf(at)
	if b[from].group != b[at].group {
		return b, api.ErrRange
	}
	if b.version() == top {
		return b, api.ErrFull
	}
	turned := b.turn(from, to, b[from].group)
	turned[at].begins = false
	return turned, api.OK
}

// move is what Move must tell.
func (b board) move(at, group int) (board, api.Errno) {
	if b[at].group == group {
		return b, api.ErrSame
	}
	if b.version() == top {
		return b, api.ErrFull
	}
	from, to := b.rangeOf(at)
	return b.turn(from, to, group), api.OK
}

// asks tells whether what is asked of a board's chart is told key by key: Ch2, and each key in just one range, and in
// one group's spans alone (Ch3).
func asks(t *testing.T, b board, keys []string, most int) {
	t.Helper()
	l := b.chart(keys)
	if Check(l) != api.OK || Version(l) != b.version() {
		t.Fatalf("%#v: error %d, version %d", l, Check(l), Version(l))
	}
	at := -1
	for i, k := range keys {
		if b[i].begins {
			at++
		}
		finds(t, l, k, at, api.OK)
		groups(t, l, []string{k}, []int{b[i].group}, api.OK)
		for j, r := range l {
			if span.Has(r.Span, k) != (j == at) {
				t.Fatalf("%#v: %q and range %d", l, k, j)
			}
		}
	}
	for group := 1; group <= most; group++ {
		owned := Owned(l, group)
		if !span.Form(owned) {
			t.Fatalf("Owned(%#v, %d): %q is not in form", l, group, owned)
		}
		for i, k := range keys {
			if span.In(owned, k) != (b[i].group == group) {
				t.Fatalf("Owned(%#v, %d): %q, and %q", l, group, owned, k)
			}
		}
	}
	text, e := Encode(l)
	if e != api.OK || string(text) != string(bytesOf(l)) {
		t.Fatalf("Encode(%#v): %x, error %d", l, text, e)
	}
	back, e := Decode(text)
	tells(t, fmt.Sprintf("Decode(%x)", text), back, e, l, api.OK)
}

// few is some keys that rise.
var few = []string{"", "\x00", "a", strings.Repeat("k", 64), strings.Repeat("\xff", 64)}

// boards is all of few keys, of two groups and epochs.
func boards(epochs ...uint64) []board {
	all := []board{{}}
	for i := range few {
		var longer []board
		for _, b := range all {
			if i > 0 {
				last := b[i-1]
				last.begins = false
				longer = append(longer, append(slices.Clone(b), last))
			}
			for group := 1; group <= 2; group++ {
				for _, epoch := range epochs {
					longer = append(longer, append(slices.Clone(b), cell{begins: true, group: group, epoch: epoch}))
				}
			}
		}
		all = longer
	}
	return all
}

// Ch1, Ch2, Ch3: each chart of few keys, and each turn of it.
func TestBoards(t *testing.T) {
	for _, b := range append(boards(1, 5), boards(3, top)...) {
		asks(t, b, few, 3)
		l := b.chart(few)
		for i, k := range few {
			turns(t, b, l, i, k, few, 3)
		}
	}
}

// turns tells whether Split, Merge and Move to each group at a place tell what a board does.
func turns(t *testing.T, b board, l []api.Range, at int, k string, keys []string, most int) {
	t.Helper()
	calls := func(name string, got []api.Range, e api.Errno, turned board, code api.Errno) {
		t.Helper()
		want := turned.chart(keys)
		if code != api.OK {
			want = nil
		}
		tells(t, fmt.Sprintf("%s(%#v, %q)", name, l, k), got, e, want, code)
		if code == api.OK && Version(got) != Version(l)+1 {
			t.Errorf("%s(%#v, %q): version %d", name, l, k, Version(got))
		}
	}
	got, e := Split(l, k)
	turned, code := b.split(at)
	calls("Split", got, e, turned, code)
	got, e = Merge(l, k)
	turned, code = b.merge(at)
	calls("Merge", got, e, turned, code)
	for group := 1; group <= most; group++ {
		got, e = Move(l, k, group)
		turned, code = b.move(at, group)
		calls(fmt.Sprintf("Move to %d", group), got, e, turned, code)
	}
}

// Ch1: ranges are a chart, if they have the keys one behind the other, each once; each list of up to three spans.
func TestCheckByKeys(t *testing.T) {
	var ranges []api.Range
	for _, from := range append(slices.Clone(few), tooLong) {
		for _, to := range append(slices.Clone(few), tooLong) {
			ranges = append(ranges, of(from, to, 1, 1))
		}
	}
	charts := 0
	try := func(l ...api.Range) {
		want := api.OK
		if !slices.Equal(keysOf(l), few) {
			want = api.ErrArg
		} else {
			charts++
		}
		if e := Check(l); e != want {
			t.Fatalf("Check(%#v): error %d, not %d", l, e, want)
		}
	}
	for _, a := range ranges {
		try(a)
		for _, b := range ranges {
			try(a, b)
			for _, c := range ranges {
				try(a, b, c)
			}
		}
	}
	// One range of all keys; one of four keys to begin the second of two with; two of them for the second and third.
	if charts != 1+4+6 {
		t.Errorf("%d charts", charts)
	}
}

// keysOf is which of few keys ranges have, in their order; none, if a span may not be.
func keysOf(l []api.Range) []string {
	var keys []string
	for _, r := range l {
		if span.Check(r.Span) != api.OK {
			return nil
		}
		for _, k := range few {
			if span.Has(r.Span, k) {
				keys = append(keys, k)
			}
		}
	}
	return keys
}

// Ch1, Ch2, Ch3: many turns, one behind the other, on charts that now and then are full.
func TestWords(t *testing.T) {
	var keys []string
	for i := range 120 {
		keys = append(keys, key(i))
	}
	keys[0] = ""
	full, ended := 0, 0
	for seed := range int64(20) {
		r := rand.New(rand.NewSource(seed))
		group := 1 + r.Intn(16)
		b := make(board, len(keys))
		for i := range b {
			b[i] = cell{begins: i == 0, group: group, epoch: 1}
		}
		l, _ := New(group)
		if seed%4 == 3 {
			// The epochs end behind some turns.
			l[0].Epoch = top - 200
			for i := range b {
				b[i].epoch = l[0].Epoch
			}
		}
		for range 600 {
			at, to := r.Intn(len(keys)), 1+r.Intn(3)
			got, e := l, api.OK
			turned, code := b, api.OK
			switch n := r.Intn(10); {
			case n < 5:
				got, e = Split(l, keys[at])
				turned, code = b.split(at)
			case n < 7:
				got, e = Merge(l, keys[at])
				turned, code = b.merge(at)
			default:
				got, e = Move(l, keys[at], to)
				turned, code = b.move(at, to)
			}
			if code == api.ErrFull && b.size() == 64 {
				full++
			}
			if code == api.ErrFull && b.version() == top {
				ended++
			}
			if code != api.OK {
				tells(t, fmt.Sprintf("seed %d: %#v", seed, l), got, e, nil, code)
				continue
			}
			tells(t, fmt.Sprintf("seed %d: %#v", seed, l), got, e, turned.chart(keys), code)
			l, b = got, turned
		}
		asks(t, b, keys, 16)
	}
	if full == 0 || ended == 0 {
		t.Errorf("%d charts were full, %d at their end", full, ended)
	}
}

// R4: the same calls tell the same.
func TestSameAgain(t *testing.T) {
	run := func() string {
		var told strings.Builder
		for _, b := range boards(1, 5) {
			l := b.chart(few)
			for _, k := range few {
				low, e := Split(l, k)
				both, f := Merge(l, k)
				there, g := Move(l, k, 2)
				fmt.Fprint(&told, low, e, both, f, there, g)
			}
			some, e := Groups(l, few)
			fmt.Fprint(&told, some, e, Owned(l, 1), Version(l))
		}
		return told.String()
	}
	if run() != run() {
		t.Error("the same calls told otherwise")
	}
}
