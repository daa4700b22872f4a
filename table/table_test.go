package table

import (
	"fmt"
	"math"
	"reflect"
	"slices"
	"strings"
	"testing"

	"gudgeon/api"
)

// The last time, the longest that a lease lasts, and the last token.
const (
	end  = 1<<31 - 1
	long = 1 << 20
	last = uint64(1<<64 - 1)
)

// The longest key, and what is too long to be one.
var (
	longest = strings.Repeat("k", 64)
	tooLong = strings.Repeat("k", 65)
)

// everything is one span of all keys.
var everything = []api.Span{{}}

// none is what is told beside an error.
var none = api.Table{}

// keyed is a key's place among many: they rise.
func keyed(i int) string {
	return fmt.Sprintf("k%05d", i)
}

// id is a call's.
func id(client int, seq uint64) api.Id {
	return api.Id{Client: client, Seq: seq}
}

// to is the keys from one on, below another one.
func to(from, to string) api.Span {
	return api.Span{From: from, To: to}
}

// hold is a hold.
func hold(key string, token uint64, until int) api.Hold {
	return api.Hold{Key: key, Token: token, Until: until}
}

// mark is a mark.
func mark(key string, token uint64) api.Mark {
	return api.Mark{Key: key, Token: token}
}

// acquiring, releasing and renewing are intents.
func acquiring(key string, by api.Id, token uint64, ttl int) api.Intent {
	return api.Intent{Key: key, Txn: by, Kind: api.CallAcquire, Token: token, Ttl: ttl}
}

func releasing(key string, by api.Id, token uint64) api.Intent {
	return api.Intent{Key: key, Txn: by, Kind: api.CallRelease, Token: token}
}

func renewing(key string, by api.Id, token uint64, ttl int) api.Intent {
	return api.Intent{Key: key, Txn: by, Kind: api.CallRenew, Token: token, Ttl: ttl}
}

// acquire, release and renew are calls.
func acquire(ttl int, keys ...string) api.Call {
	return api.Call{Kind: api.CallAcquire, Keys: keys, Ttl: ttl}
}

func release(token uint64, keys ...string) api.Call {
	return api.Call{Kind: api.CallRelease, Keys: keys, Token: token}
}

func renew(token uint64, ttl int, keys ...string) api.Call {
	return api.Call{Kind: api.CallRenew, Keys: keys, Token: token, Ttl: ttl}
}

// holds, marks and intents are n each, behind a place.
func holds(at, n int) []api.Hold {
	var l []api.Hold
	for i := at; i < at+n; i++ {
		l = append(l, hold(keyed(i), uint64(i+1), i%7))
	}
	return l
}

func marks(at, n int) []api.Mark {
	var l []api.Mark
	for i := at; i < at+n; i++ {
		l = append(l, mark(keyed(i), uint64(i+1)))
	}
	return l
}

func turning(at, n int, by api.Id) []api.Intent {
	var l []api.Intent
	for i := at; i < at+n; i++ {
		l = append(l, acquiring(keyed(i), by, 7, 9))
	}
	return l
}

// spans is n, one key's place between each and the next one: place i is between keyed(2i) and keyed(2i+1).
func spans(n int) []api.Span {
	var l []api.Span
	for i := range n {
		l = append(l, to(keyed(2*i), keyed(2*i+1)))
	}
	return l
}

// some is a table that has something of all kinds.
func some() api.Table {
	return api.Table{
		Now:    100,
		Spans:  []api.Span{to("a", "m"), to("p", "")},
		Frozen: []api.Span{to("c", "e"), to("x", "z")},
		Holds:  []api.Hold{hold("a", 5, 200), hold("b", 6, 90), hold("c", 8, 100), hold("g", 4, 100), hold("q", 7, 150), hold("x", 3, 120)},
		Marks:  []api.Mark{mark("d", 9), mark("e", 10), mark("r", 11), mark("y", 2)},
		Intents: []api.Intent{
			releasing("b", id(1, 4), 6), acquiring("e", id(2, 1), 12, 50), acquiring("f", id(2, 1), 12, 50), renewing("q", id(3, 9), 7, 100),
		},
	}
}

// but is that table, with something else.
func but(turn func(t *api.Table)) api.Table {
	t := some()
	turn(&t)
	return t
}

// is tells whether a code is that.
func is(t *testing.T, what string, got, want api.Errno) {
	t.Helper()
	if got != want {
		t.Errorf("%s: error %d, not %d", what, got, want)
	}
}

// alike tells whether tables are alike, asking nothing of the package.
func alike(a, b api.Table) bool {
	return a.Now == b.Now && fmt.Sprint(a) == fmt.Sprint(b)
}

// tells tells whether a table and a code are those, and the table may be.
func tells(t *testing.T, what string, got api.Table, e api.Errno, want api.Table, code api.Errno) {
	t.Helper()
	if !alike(got, want) || e != code {
		t.Errorf("%s: %+v, error %d, not %+v, error %d", what, got, e, want, code)
	}
	is(t, what+": Check", Check(got), api.OK)
}

// right is tables that may be.
func right() []api.Table {
	l := []api.Table{
		none, some(), {Now: end}, {Spans: everything}, {Spans: everything, Frozen: everything}, {Spans: []api.Span{}, Frozen: []api.Span{}, Holds: []api.Hold{}},
		{Spans: []api.Span{to("", "a"), to(longest, "")}, Frozen: []api.Span{to("", "a")}}, {Spans: spans(64)}, {Spans: spans(64), Frozen: spans(64)},
		{Spans: everything, Frozen: spans(64)}, {Spans: everything, Holds: []api.Hold{hold("", 1, 0), hold(longest, last, end)}},
		{Spans: everything, Marks: []api.Mark{mark("", 1), mark(longest, last)}}, {Spans: []api.Span{to("", "\x00")}, Holds: []api.Hold{hold("", 9, 9)}},
		{Spans: everything, Intents: []api.Intent{acquiring("", id(0, 1), 1, 1), renewing("\x00", id(7, last), last, long), releasing(longest, id(7, 1), last)}},
		{Spans: everything, Holds: holds(0, 1024)}, {Spans: everything, Marks: marks(0, 1024)}, {Spans: everything, Intents: turning(0, 1024, id(1, 1))},
		{Spans: everything, Holds: holds(0, 400), Marks: marks(400, 300), Intents: turning(700, 324, id(1, 1))},
		{Spans: everything, Holds: holds(0, 512), Intents: turning(0, 512, id(1, 1))},
		{Spans: everything, Marks: marks(0, 512), Intents: turning(0, 512, id(1, 1))},
		{Now: 7, Spans: everything, Holds: []api.Hold{hold("a", 3, 0)}, Intents: []api.Intent{releasing("a", id(1, 1), 4)}},
	}
	for _, kind := range []int{api.CallAcquire, api.CallRelease, api.CallRenew} {
		for _, ttl := range []int{1, 2, long - 1, long} {
			if kind == api.CallRelease {
				ttl = 0
			}
			l = append(l, but(func(t *api.Table) { t.Intents[1].Kind, t.Intents[1].Ttl = kind, ttl }))
		}
	}
	return l
}

// wrong is tables that may not be.
func wrong() []api.Table {
	l := []api.Table{
		{Now: -1}, {Now: end + 1}, {Now: math.MinInt}, {Now: math.MaxInt}, {Now: 1 << 32},
		{Frozen: everything}, {Spans: []api.Span{to("a", "b")}, Frozen: []api.Span{to("a", "c")}}, {Spans: []api.Span{to("b", "")}, Frozen: []api.Span{to("a", "c")}},
		{Spans: []api.Span{to("a", "c"), to("d", "f")}, Frozen: []api.Span{to("b", "e")}}, {Spans: spans(64), Frozen: []api.Span{to(keyed(0), keyed(2))}},
		{Spans: []api.Span{to("a", "c"), to("d", "f")}, Frozen: []api.Span{to("a", "b"), to("d", "g")}}, {Spans: []api.Span{to("a", "z")}, Frozen: []api.Span{to("b", "")}},
		{Spans: []api.Span{to("b", "b")}}, {Spans: []api.Span{to("b", "a")}}, {Spans: []api.Span{to(tooLong, "")}}, {Spans: []api.Span{to("", tooLong)}},
		{Spans: []api.Span{to("a", "b"), to("b", "c")}}, {Spans: []api.Span{to("c", "d"), to("a", "b")}}, {Spans: []api.Span{{}, {}}}, {Spans: []api.Span{to("", ""), to("a", "b")}},
		{Spans: spans(65)}, {Spans: everything, Frozen: spans(65)}, {Spans: everything, Frozen: []api.Span{to("a", "b"), to("b", "c")}},
		{Spans: everything, Frozen: []api.Span{to("b", "a")}}, {Spans: everything, Frozen: []api.Span{to("b", "c"), to("a", "b")}}, {Spans: everything, Frozen: []api.Span{to("", tooLong)}},
		{Holds: []api.Hold{hold("a", 1, 1)}}, {Marks: []api.Mark{mark("a", 1)}}, {Intents: []api.Intent{releasing("a", id(1, 1), 1)}},
		{Spans: everything, Holds: holds(0, 1025)}, {Spans: everything, Marks: marks(0, 1025)}, {Spans: everything, Intents: turning(0, 1025, id(1, 1))},
		{Spans: everything, Holds: holds(0, 1024), Marks: marks(1024, 1)}, {Spans: everything, Holds: holds(0, 1024), Intents: turning(0, 1, id(1, 1))},
		{Spans: everything, Marks: marks(0, 1024), Intents: turning(5, 1, id(1, 1))}, {Spans: everything, Intents: turning(0, 1024, id(1, 1)), Holds: holds(0, 1)},
		{Spans: everything, Holds: holds(0, 400), Marks: marks(400, 300), Intents: turning(700, 325, id(1, 1))},
	}
	for _, turn := range []func(t *api.Table){
		func(t *api.Table) { t.Now = -5 },
		func(t *api.Table) { t.Spans = t.Spans[:1] },
		func(t *api.Table) { t.Spans = t.Spans[1:] },
		func(t *api.Table) { t.Spans[0].To = "g" },
		func(t *api.Table) { t.Spans[0].From = "b" },
		func(t *api.Table) { t.Frozen[0].To = "m\x00" },
		func(t *api.Table) { t.Frozen[1].To = t.Frozen[1].From },
		func(t *api.Table) { t.Holds[0].Token = 0 },
		func(t *api.Table) { t.Holds[0].Until = -1 },
		func(t *api.Table) { t.Holds[0].Until = end + 1 },
		func(t *api.Table) { t.Holds[0].Key = "b" },
		func(t *api.Table) { t.Holds[0].Key = "k" },
		func(t *api.Table) { t.Holds[0].Key = "A" },
		func(t *api.Table) { t.Holds[3].Key = "m" },
		func(t *api.Table) { t.Holds[3].Key = "o\xff" },
		func(t *api.Table) { t.Holds[3].Key = strings.Repeat("g", 65) },
		func(t *api.Table) { t.Marks[0].Token = 0 },
		func(t *api.Table) { t.Marks[0].Key = "e" },
		func(t *api.Table) { t.Marks[0].Key = "" },
		func(t *api.Table) { t.Marks[0].Key = "c" },
		func(t *api.Table) { t.Marks[3].Key = "x" },
		func(t *api.Table) { t.Marks[2].Key = "o" },
		func(t *api.Table) { t.Marks[2].Key = strings.Repeat("r", 65) },
		func(t *api.Table) { t.Intents[0].Key = "" },
		func(t *api.Table) { t.Intents[0].Key = "e" },
		func(t *api.Table) { t.Intents[0].Key = "h" },
		func(t *api.Table) { t.Intents[2].Key = "m" },
		func(t *api.Table) { t.Intents[2].Key = strings.Repeat("f", 65) },
		func(t *api.Table) { t.Intents[1].Txn.Client = -1 },
		func(t *api.Table) { t.Intents[1].Txn.Client = 8 },
		func(t *api.Table) { t.Intents[1].Txn.Client = math.MinInt },
		func(t *api.Table) { t.Intents[1].Txn.Client = math.MaxInt },
		func(t *api.Table) { t.Intents[1].Txn.Seq = 0 },
		func(t *api.Table) { t.Intents[1].Kind = 0 },
		func(t *api.Table) { t.Intents[1].Kind = -1 },
		func(t *api.Table) { t.Intents[1].Kind = api.CallInspect },
		func(t *api.Table) { t.Intents[1].Kind = api.CallKinds },
		func(t *api.Table) { t.Intents[1].Kind = api.CallRelease },
		func(t *api.Table) { t.Intents[1].Token = 0 },
		func(t *api.Table) { t.Intents[0].Token = 0 },
		func(t *api.Table) { t.Intents[1].Ttl = 0 },
		func(t *api.Table) { t.Intents[1].Ttl = -1 },
		func(t *api.Table) { t.Intents[1].Ttl = long + 1 },
		func(t *api.Table) { t.Intents[3].Ttl = 0 },
		func(t *api.Table) { t.Intents[3].Ttl = long + 1 },
		func(t *api.Table) { t.Intents[0].Ttl = 1 },
		func(t *api.Table) { t.Intents[0].Ttl = -1 },
		func(t *api.Table) { t.Intents[0].Kind = api.CallRenew },
		func(t *api.Table) { t.Intents[0], t.Intents[1] = t.Intents[1], t.Intents[0] },
	} {
		l = append(l, but(turn))
	}
	return l
}

// Ta1: tables that may be, and those that may not.
func TestCheck(t *testing.T) {
	for i, x := range right() {
		is(t, fmt.Sprintf("right %d: Check(%+v)", i, x), Check(x), api.OK)
	}
	for i, x := range wrong() {
		is(t, fmt.Sprintf("wrong %d: Check(%+v)", i, x), Check(x), api.ErrArg)
	}
}

// Ta1 to Ta3: all that tell a table refuse one that may not be, ahead of all else, and tell nothing.
func TestTablesThatMayNotBe(t *testing.T) {
	for i, x := range wrong() {
		refuses := func(what string, got api.Table, e api.Errno) {
			t.Helper()
			if !reflect.DeepEqual(got, none) || e != api.ErrArg {
				t.Errorf("wrong %d: %s: %+v, error %d", i, what, got, e)
			}
		}
		got, due, e := Clock(x, 1)
		refuses("Clock", got, e)
		for _, c := range []api.Call{acquire(5, "h"), acquire(5, "a"), acquire(5, "n"), acquire(9, "e", "f"), release(5, "a"), renew(5, 5, "a")} {
			for _, by := range []api.Id{id(1, 4), id(2, 1), id(5, 5)} {
				got, e = Prepare(x, by, c, 20)
				refuses("Prepare", got, e)
			}
		}
		for _, by := range []api.Id{id(2, 1), id(1, 1), id(5, 5), {}} {
			for _, commit := range []bool{true, false} {
				var n int
				got, n, e = Finish(x, by, commit)
				refuses("Finish", got, e)
				if n != 0 {
					t.Errorf("wrong %d: Finish: %d", i, n)
				}
			}
		}
		for _, s := range []api.Span{to("c", "e"), to("a", "b"), to("g", "h"), {}, to("m", "n")} {
			got, e = Freeze(x, s)
			refuses("Freeze", got, e)
			var p api.Parcel
			got, p, e = Export(x, 3, s)
			refuses("Export", got, e)
			got, f := Import(x, api.Parcel{Plan: 3, Span: s})
			refuses("Import", got, f)
			if !reflect.DeepEqual(p, api.Parcel{}) || len(due) != 0 {
				t.Errorf("wrong %d: %+v, %+v", i, p, due)
			}
		}
	}
}

// keysOf is n keys.
func keysOf(n int) []string {
	var l []string
	for i := range n {
		l = append(l, keyed(i))
	}
	return l
}

// Ta1: calls that may be prepared.
func TestCheckCall(t *testing.T) {
	for _, c := range []api.Call{
		acquire(1, "a"), acquire(long, ""), acquire(5, "", "\x00", "a", "aa", "b", longest), acquire(long-1, "\x7f", "\x80"), acquire(5, keysOf(16)...),
		release(1, "a"), release(last, "", longest), release(3, keysOf(16)...), renew(1, 1, "a"), renew(last, long, "", "a"), renew(2, 3, keysOf(16)...),
		acquire(5, "Z", "a"), release(1, "10", "9"),
	} {
		is(t, fmt.Sprintf("CheckCall(%+v)", c), CheckCall(c), api.OK)
	}
}

// wrongCalls is calls that may not be prepared.
func wrongCalls() []api.Call {
	l := []api.Call{{}, {Kind: api.CallInspect, Keys: []string{"a"}}, {Kind: api.CallInspect, Keys: []string{"a"}, Ttl: 5, Token: 5}}
	for _, kind := range []int{-1, 0, 4, 5, math.MinInt, math.MaxInt} {
		for _, ttl := range []int{0, 5} {
			for _, token := range []uint64{0, 5} {
				l = append(l, api.Call{Kind: kind, Keys: []string{"a"}, Ttl: ttl, Token: token})
			}
		}
	}
	for _, ttl := range []int{0, -1, long + 1, end, math.MinInt, math.MaxInt, 1 << 32, 1<<32 + 1} {
		l = append(l, acquire(ttl, "a"), renew(5, ttl, "a"))
		if ttl != 0 {
			c := release(5, "a")
			c.Ttl = ttl
			l = append(l, c)
		}
	}
	c := release(5, "a")
	c.Ttl = 1
	l = append(l, c)
	for _, token := range []uint64{1, 5, 1 << 63, last} {
		c := acquire(5, "a")
		c.Token = token
		l = append(l, c)
	}
	l = append(l, release(0, "a"), renew(0, 5, "a"))
	for _, keys := range [][]string{
		nil, {}, keysOf(17), keysOf(1000), {tooLong}, {"a", tooLong}, {"", strings.Repeat("\xff", 65)}, {"a", "a"}, {"", ""}, {"b", "a"}, {"a", ""},
		{"a", "b", "b"}, {"a", "c", "b"}, {"b", "a", "c"}, {"aa", "a"}, {"\x80", "\x7f"}, {"9", "10"}, {"a", "Z"}, append(keysOf(15), keyed(14)),
	} {
		l = append(l, acquire(5, keys...), release(5, keys...), renew(5, 5, keys...))
	}
	return l
}

// Ta1: calls that may not be prepared. Ta2: nor are they.
func TestWrongCalls(t *testing.T) {
	for _, c := range wrongCalls() {
		is(t, fmt.Sprintf("CheckCall(%+v)", c), CheckCall(c), api.ErrArg)
		for _, x := range []api.Table{{Spans: everything}, none, some()} {
			for _, by := range []api.Id{id(5, 5), id(2, 1)} {
				got, e := Prepare(x, by, c, 20)
				tells(t, fmt.Sprintf("Prepare of %+v", c), got, e, none, api.ErrArg)
			}
		}
	}
}

// clocks tells whether Clock tells that.
func clocks(t *testing.T, x api.Table, n int, want api.Table, due []api.Hold, code api.Errno) {
	t.Helper()
	got, over, e := Clock(x, n)
	what := fmt.Sprintf("Clock(%+v, %d)", x, n)
	tells(t, what, got, e, want, code)
	if !slices.Equal(over, due) {
		t.Errorf("%s: due %v, not %v", what, over, due)
	}
}

// Ta1: time passes; a hold whose Until is not above it is due, unless its key has an intent.
func TestClock(t *testing.T) {
	for _, c := range []struct {
		n    int
		left []string // keys that stay held
	}{
		{1, []string{"a", "b", "q", "x"}}, {19, []string{"a", "b", "q", "x"}}, {20, []string{"a", "b", "q"}}, {21, []string{"a", "b", "q"}},
		{49, []string{"a", "b", "q"}}, {50, []string{"a", "b", "q"}}, {99, []string{"a", "b", "q"}}, {100, []string{"b", "q"}}, {long, []string{"b", "q"}},
	} {
		want := some()
		want.Now = 100 + c.n
		var due []api.Hold
		want.Holds = slices.DeleteFunc(want.Holds, func(h api.Hold) bool {
			over := !slices.Contains(c.left, h.Key)
			if over {
				due = append(due, h)
				want.Marks = append(want.Marks, mark(h.Key, h.Token))
			}
			return over
		})
		slices.SortFunc(want.Marks, func(a, b api.Mark) int { return strings.Compare(a.Key, b.Key) })
		clocks(t, some(), c.n, want, due, api.OK)
	}
	clocks(t, none, 1, api.Table{Now: 1}, nil, api.OK)
	clocks(t, api.Table{Spans: everything}, long, api.Table{Now: long, Spans: everything}, nil, api.OK)
}

// Ta1: of holds that are due at once, all but those with an intent, whosever and of whatever kind it is.
func TestClockIntents(t *testing.T) {
	x := api.Table{Spans: everything, Holds: holds(0, 4), Intents: []api.Intent{
		releasing(keyed(0), id(1, 1), 1), renewing(keyed(2), id(2, 1), 3, 5), acquiring(keyed(3), id(3, 1), 9, 5),
	}}
	want := x
	want.Now = 50
	want.Holds = []api.Hold{x.Holds[0], x.Holds[2], x.Holds[3]}
	want.Marks = []api.Mark{mark(keyed(1), 2)}
	clocks(t, x, 50, want, []api.Hold{x.Holds[1]}, api.OK)
	// They are due as soon as time passes behind that.
	x, _, _ = Finish(want, id(1, 1), false)
	got, due, e := Clock(x, 1)
	is(t, "Clock", e, api.OK)
	if len(due) != 1 || due[0].Key != keyed(0) || got.Marks[0] != mark(keyed(0), 1) || len(got.Marks) != 2 {
		t.Errorf("Clock behind Finish: %v, %v", due, got.Marks)
	}
}

// Ta1: time stands still at its end, where all holds are due.
func TestClockEnd(t *testing.T) {
	for _, c := range []struct{ now, n, want int }{
		{0, 1, 1}, {0, long, long}, {5, 10, 15}, {end - 5, 4, end - 1}, {end - 5, 5, end}, {end - 5, 6, end}, {end - 5, long, end}, {end, 1, end}, {end, long, end},
		{end - long, long, end}, {end - long - 1, long, end - 1}, {end - long + 1, long, end},
	} {
		clocks(t, api.Table{Now: c.now}, c.n, api.Table{Now: c.want}, nil, api.OK)
		x := api.Table{Now: c.now, Spans: everything, Holds: []api.Hold{hold("a", 4, c.want)}}
		clocks(t, x, c.n, api.Table{Now: c.want, Spans: everything, Marks: []api.Mark{mark("a", 4)}}, x.Holds, api.OK)
		if c.want < end {
			x.Holds[0].Until++
			clocks(t, x, c.n, api.Table{Now: c.want, Spans: everything, Holds: x.Holds}, nil, api.OK)
		}
	}
}

// Ta1: time passes by no other numbers.
func TestClockWrong(t *testing.T) {
	for _, n := range []int{0, -1, -2, -long, long + 1, long + 2, end, end + 1, 1 << 32, 1<<32 + 1, math.MaxInt, math.MinInt} {
		for _, x := range []api.Table{none, some(), {Now: end}} {
			clocks(t, x, n, none, nil, api.ErrArg)
		}
	}
}

// Ta1: a full table's holds are all due.
func TestClockFull(t *testing.T) {
	x := api.Table{Spans: everything, Holds: holds(0, 1024)}
	clocks(t, x, 6, api.Table{Now: 6, Spans: everything, Marks: marks(0, 1024)}, x.Holds, api.OK)
	x = api.Table{Spans: everything, Holds: holds(300, 400), Marks: append(marks(0, 300), marks(700, 324)...)}
	clocks(t, x, 9, api.Table{Now: 9, Spans: everything, Marks: marks(0, 1024)}, x.Holds, api.OK)
}

// Ta1: tables are alike, if they are in all.
func TestSame(t *testing.T) {
	all := append(right(), wrong()...)
	for i, a := range all {
		for j, b := range all {
			if got, want := Same(a, b), alike(a, b); got != want {
				t.Errorf("Same of %d, %d: %v (%+v, %+v)", i, j, got, a, b)
			}
		}
	}
	if !Same(none, api.Table{Spans: []api.Span{}, Frozen: []api.Span{}, Holds: []api.Hold{}, Marks: []api.Mark{}, Intents: []api.Intent{}}) {
		t.Error("Same: nil and the empty list are not the same")
	}
	for i, turn := range []func(t *api.Table){
		func(t *api.Table) { t.Now++ },
		func(t *api.Table) { t.Spans[1].From = "o" },
		func(t *api.Table) { t.Spans[0].To = "n" },
		func(t *api.Table) { t.Spans = append(t.Spans, to("zz", "")) },
		func(t *api.Table) { t.Frozen[1].From = "w" },
		func(t *api.Table) { t.Frozen[0].To = "f" },
		func(t *api.Table) { t.Frozen = t.Frozen[:1] },
		func(t *api.Table) { t.Holds[5].Key = "w" },
		func(t *api.Table) { t.Holds[5].Token++ },
		func(t *api.Table) { t.Holds[5].Until++ },
		func(t *api.Table) { t.Holds = t.Holds[:5] },
		func(t *api.Table) { t.Marks[3].Key = "yy" },
		func(t *api.Table) { t.Marks[3].Token++ },
		func(t *api.Table) { t.Marks = t.Marks[1:] },
		func(t *api.Table) { t.Intents[3].Key = "s" },
		func(t *api.Table) { t.Intents[3].Txn.Client++ },
		func(t *api.Table) { t.Intents[3].Txn.Seq++ },
		func(t *api.Table) { t.Intents[3].Kind = api.CallAcquire },
		func(t *api.Table) { t.Intents[3].Token++ },
		func(t *api.Table) { t.Intents[3].Ttl++ },
		func(t *api.Table) { t.Intents = nil },
	} {
		if x := but(turn); Same(x, some()) || Same(some(), x) || !Same(x, x) {
			t.Errorf("Same: %d, %+v", i, x)
		}
	}
}

// prepares tells whether Prepare tells that.
func prepares(t *testing.T, x api.Table, by api.Id, c api.Call, token uint64, want api.Table, code api.Errno) {
	t.Helper()
	got, e := Prepare(x, by, c, token)
	tells(t, fmt.Sprintf("Prepare(%+v, %v, %+v, %d)", x, by, c, token), got, e, want, code)
}

// Ta2: each key gets an intent, among those that there are.
func TestPrepare(t *testing.T) {
	for _, c := range []struct {
		call  api.Call
		token uint64
		want  []api.Intent
	}{
		{acquire(7, "h"), 20, []api.Intent{acquiring("h", id(5, 5), 20, 7)}},
		{acquire(1, "aa"), 1, []api.Intent{acquiring("aa", id(5, 5), 1, 1)}},
		{acquire(long, "h", "p", "r", "z"), 12, []api.Intent{acquiring("h", id(5, 5), 12, long), acquiring("p", id(5, 5), 12, long), acquiring("r", id(5, 5), 12, long), acquiring("z", id(5, 5), 12, long)}},
		{acquire(7, "r"), last, []api.Intent{acquiring("r", id(5, 5), last, 7)}},
		{release(5, "a"), 20, []api.Intent{releasing("a", id(5, 5), 5)}},
		{release(4, "g"), 1, []api.Intent{releasing("g", id(5, 5), 4)}},
		{renew(5, 9, "a"), 5, []api.Intent{renewing("a", id(5, 5), 5, 9)}},
		{renew(4, long, "g"), 20, []api.Intent{renewing("g", id(5, 5), 4, long)}},
	} {
		want := some()
		want.Intents = append(want.Intents, c.want...)
		slices.SortFunc(want.Intents, func(a, b api.Intent) int { return strings.Compare(a.Key, b.Key) })
		prepares(t, some(), id(5, 5), c.call, c.token, want, api.OK)
	}
	x := api.Table{Spans: everything, Holds: []api.Hold{hold("", 3, 4), hold("a", 3, 9), hold("b", 3, 1)}}
	want := x
	want.Intents = []api.Intent{releasing("", id(0, last), 3), releasing("a", id(0, last), 3), releasing("b", id(0, last), 3)}
	prepares(t, x, id(0, last), release(3, "", "a", "b"), 3, want, api.OK)
	want = api.Table{Spans: everything}
	for i := range 16 {
		want.Intents = append(want.Intents, acquiring(keyed(i), id(7, 1), 5, 6))
	}
	prepares(t, api.Table{Spans: everything}, id(7, 1), acquire(6, keysOf(16)...), 5, want, api.OK)
}

// Ta2: what a key is refused with: the first of the words that holds.
func TestPrepareRefused(t *testing.T) {
	for _, c := range []struct {
		call  api.Call
		token uint64
		code  api.Errno
	}{
		// Not here, also below and above all spans, and where one ends.
		{acquire(5, ""), 20, api.ErrRange}, {acquire(5, "Z"), 20, api.ErrRange}, {acquire(5, "m"), 20, api.ErrRange}, {acquire(5, "o\xff"), 20, api.ErrRange},
		{release(5, "n"), 20, api.ErrRange}, {renew(5, 5, "n"), 20, api.ErrRange},
		// Frozen: held, marked, neither, or at an edge.
		{acquire(5, "c"), 20, api.ErrWait}, {acquire(5, "cc"), 20, api.ErrWait}, {acquire(5, "d"), 9, api.ErrWait}, {acquire(5, "d\xff"), 20, api.ErrWait}, {acquire(5, "y"), 20, api.ErrWait},
		{release(8, "c"), 20, api.ErrWait}, {release(9, "c"), 20, api.ErrWait}, {renew(3, 5, "x"), 20, api.ErrWait}, {renew(4, 5, "x"), 20, api.ErrWait}, {acquire(5, "x"), 20, api.ErrWait},
		// About to turn: held or not.
		{acquire(5, "b"), 20, api.ErrWait}, {acquire(5, "e"), 20, api.ErrWait}, {acquire(5, "f"), 20, api.ErrWait}, {acquire(5, "q"), 20, api.ErrWait},
		{release(6, "b"), 20, api.ErrWait}, {release(1, "b"), 20, api.ErrWait}, {renew(7, 5, "q"), 20, api.ErrWait}, {release(12, "f"), 20, api.ErrWait},
		// Held, whether it's due or not, and by whatever token.
		{acquire(5, "a"), 20, api.ErrBusy}, {acquire(5, "a"), 5, api.ErrBusy}, {acquire(5, "a"), 1, api.ErrBusy}, {acquire(5, "g"), 20, api.ErrBusy},
		// Its mark is not below the token.
		{acquire(5, "r"), 11, api.ErrWait}, {acquire(5, "r"), 10, api.ErrWait}, {acquire(5, "r"), 1, api.ErrWait}, {acquire(5, "r"), 12, api.OK}, {acquire(5, "r"), last, api.OK},
		// Not held by the call's token: by another one, or by nobody.
		{release(4, "a"), 5, api.ErrNone}, {release(6, "a"), 5, api.ErrNone}, {release(5, "h"), 20, api.ErrNone}, {release(11, "r"), 20, api.ErrNone}, {release(5, "g"), 20, api.ErrNone},
		{renew(4, 5, "a"), 5, api.ErrNone}, {renew(6, 5, "a"), 5, api.ErrNone}, {renew(5, 5, "h"), 20, api.ErrNone}, {renew(11, 5, "r"), 20, api.ErrNone}, {renew(last, 5, "a"), 5, api.ErrNone},
		// The first one's refusal, whatever the others'.
		{acquire(5, "a", "b", "n"), 20, api.ErrBusy}, {acquire(5, "b", "g", "n"), 20, api.ErrWait}, {acquire(5, "A", "a", "b"), 20, api.ErrRange}, {acquire(5, "h", "n", "q"), 20, api.ErrRange},
		{acquire(5, "h", "i", "q"), 20, api.ErrWait}, {acquire(5, "h", "r", "x"), 11, api.ErrWait}, {acquire(5, "g", "r"), 11, api.ErrBusy}, {acquire(5, "h", "o", "r"), 11, api.ErrRange},
		{release(5, "a", "g"), 20, api.ErrNone}, {release(5, "a", "b"), 20, api.ErrWait}, {release(5, "a", "n"), 20, api.ErrRange}, {release(4, "a", "b"), 20, api.ErrNone},
		{renew(5, 5, "a", "c", "g"), 20, api.ErrWait}, {renew(5, 5, "a", "g", "x"), 20, api.ErrNone}, {renew(4, 5, "g", "n", "q"), 20, api.ErrRange},
	} {
		want := none
		if c.code == api.OK {
			want = some()
			want.Intents = append(want.Intents, acquiring("r", id(5, 5), c.token, 5))
		}
		prepares(t, some(), id(5, 5), c.call, c.token, want, c.code)
	}
}

// Ta2: transactions and tokens that may not be, ahead of all else.
func TestPrepareWrong(t *testing.T) {
	for _, c := range []api.Call{acquire(5, "h"), acquire(5, "n"), acquire(5, "a"), release(5, "a"), release(4, "a"), renew(5, 5, "a"), renew(5, 5, "n")} {
		for _, by := range []api.Id{{}, id(0, 0), id(7, 0), id(-1, 1), id(8, 1), id(9, 5), id(math.MinInt, 1), id(math.MaxInt, 1), id(1<<32, 1), id(-1, 0)} {
			prepares(t, some(), by, c, 20, none, api.ErrArg)
		}
		prepares(t, some(), id(5, 5), c, 0, none, api.ErrArg)
	}
	// That it is prepared is told behind that.
	prepares(t, some(), id(2, 1), acquire(50, "e", "f"), 0, none, api.ErrArg)
}

// Ta2: what is prepared, is; whatever else is asked for its keys. But one transaction has no others.
func TestPrepareAgain(t *testing.T) {
	for _, c := range []api.Call{acquire(50, "e", "f"), acquire(9, "e", "f"), release(12, "e", "f"), renew(3, 3, "e", "f")} {
		for _, token := range []uint64{12, 1, last} {
			prepares(t, some(), id(2, 1), c, token, some(), api.OK)
		}
	}
	for _, keys := range [][]string{
		{"e"}, {"f"}, {"h"}, {"n"}, {"a"}, {"e", "f", "g"}, {"a", "e", "f"}, {"e", "ee", "f"}, {"e", "g"}, {"b", "f"}, {"b"}, {"b", "e", "f"}, {"", "e", "f"}, {"", "e"}, {"a", "f"}, {"q"}, {"e", "f", "h", "q"},
	} {
		for _, c := range []api.Call{acquire(50, keys...), release(12, keys...), renew(12, 3, keys...)} {
			prepares(t, some(), id(2, 1), c, 12, none, api.ErrWait)
		}
	}
	// Another Seq, and another client's same Seq, are others.
	for _, by := range []api.Id{id(2, 2), id(3, 1), id(1, 1)} {
		prepares(t, some(), by, acquire(50, "e", "f"), 12, none, api.ErrWait)
		got, e := Prepare(some(), by, acquire(50, "h"), 12)
		if e != api.OK || len(got.Intents) != 5 {
			t.Errorf("Prepare of %v: %v, error %d", by, got.Intents, e)
		}
	}
	// Also where they are frozen meanwhile.
	x := but(func(t *api.Table) { t.Frozen = []api.Span{to("b", "g")} })
	prepares(t, x, id(2, 1), acquire(50, "e", "f"), 12, x, api.OK)
	// Also where the table is full.
	x = api.Table{Spans: everything, Holds: holds(0, 1022), Intents: turning(0, 2, id(1, 1))}
	prepares(t, x, id(1, 1), acquire(5, keyed(0), keyed(1)), 7, x, api.OK)
}

// Ta2: there is room for 1024 holds, marks and intents; that there is none is told behind what keys are refused with.
func TestPrepareFull(t *testing.T) {
	for _, c := range []struct {
		holds, marks, intents, keys int
		code                        api.Errno
	}{
		{1008, 0, 0, 16, api.OK}, {1009, 0, 0, 16, api.ErrFull}, {0, 1008, 0, 16, api.OK}, {0, 1009, 0, 16, api.ErrFull}, {0, 0, 1008, 16, api.OK}, {0, 0, 1009, 16, api.ErrFull},
		{1023, 0, 0, 1, api.OK}, {1024, 0, 0, 1, api.ErrFull}, {1023, 0, 0, 2, api.ErrFull}, {500, 300, 223, 1, api.OK}, {500, 300, 224, 1, api.ErrFull}, {500, 300, 220, 5, api.ErrFull},
		{500, 300, 219, 5, api.OK}, {0, 0, 1023, 1, api.OK}, {0, 1024, 0, 1, api.ErrFull},
	} {
		n := c.holds + c.marks + c.intents
		x := api.Table{Spans: everything, Holds: holds(0, c.holds), Marks: marks(c.holds, c.marks), Intents: turning(c.holds+c.marks, c.intents, id(1, 1))}
		call := acquire(9, keysOf(n + c.keys)[n:]...)
		want := none
		if c.code == api.OK {
			want = x
			want.Intents = slices.Clone(x.Intents)
			for _, key := range call.Keys {
				want.Intents = append(want.Intents, acquiring(key, id(5, 5), 2000, 9))
			}
		}
		prepares(t, x, id(5, 5), call, 2000, want, c.code)
	}
	full := api.Table{Spans: []api.Span{to("a", "")}, Holds: holds(0, 1023), Marks: marks(1023, 1)}
	prepares(t, full, id(5, 5), release(1, keyed(0)), 5, none, api.ErrFull)
	prepares(t, full, id(5, 5), renew(1, 5, keyed(0)), 5, none, api.ErrFull)
	prepares(t, full, id(5, 5), acquire(1, keyed(1023)), 1025, none, api.ErrFull)
	prepares(t, full, id(5, 5), release(2, keyed(0)), 5, none, api.ErrNone)
	prepares(t, full, id(5, 5), acquire(2, keyed(0)), 5, none, api.ErrBusy)
	prepares(t, full, id(5, 5), acquire(2, keyed(1023)), 1024, none, api.ErrWait)
	prepares(t, full, id(5, 5), acquire(2, ""), 1024, none, api.ErrRange)
}

// finishes tells whether Finish tells that.
func finishes(t *testing.T, x api.Table, by api.Id, commit bool, want api.Table, n int, code api.Errno) {
	t.Helper()
	got, had, e := Finish(x, by, commit)
	what := fmt.Sprintf("Finish(%+v, %v, %v)", x, by, commit)
	tells(t, what, got, e, want, code)
	if had != n {
		t.Errorf("%s: %d, not %d", what, had, n)
	}
}

// Ta2: a transaction's intents are no more, and its keys have turned.
func TestFinish(t *testing.T) {
	finishes(t, some(), id(1, 4), true, but(func(t *api.Table) {
		t.Holds = slices.Delete(t.Holds, 1, 2)
		t.Marks = slices.Insert(t.Marks, 0, mark("b", 6))
		t.Intents = t.Intents[1:]
	}), 1, api.OK)
	finishes(t, some(), id(2, 1), true, but(func(t *api.Table) {
		t.Holds = slices.Insert(t.Holds, 3, hold("e", 12, 150), hold("f", 12, 150))
		t.Marks = slices.Delete(t.Marks, 1, 2)
		t.Intents = slices.Delete(t.Intents, 1, 3)
	}), 2, api.OK)
	finishes(t, some(), id(3, 9), true, but(func(t *api.Table) {
		t.Holds[4].Until = 200
		t.Intents = t.Intents[:3]
	}), 1, api.OK)
}

// Ta2: where nothing is to be committed, the intents are no more, and all else stays.
func TestFinishNot(t *testing.T) {
	finishes(t, some(), id(1, 4), false, but(func(t *api.Table) { t.Intents = t.Intents[1:] }), 1, api.OK)
	finishes(t, some(), id(2, 1), false, but(func(t *api.Table) { t.Intents = slices.Delete(t.Intents, 1, 3) }), 2, api.OK)
	finishes(t, some(), id(3, 9), false, but(func(t *api.Table) { t.Intents = t.Intents[:3] }), 1, api.OK)
}

// Ta2: who has no intents has nothing to finish, also who can't have any.
func TestFinishNone(t *testing.T) {
	for _, by := range []api.Id{{}, id(1, 5), id(1, 3), id(2, 4), id(4, 1), id(1, 0), id(-1, 4), id(8, 1), id(math.MinInt, 0), id(math.MaxInt, last)} {
		for _, x := range []api.Table{none, some(), {Spans: everything, Holds: holds(0, 1024)}} {
			finishes(t, x, by, true, none, 0, api.ErrNone)
			finishes(t, x, by, false, none, 0, api.ErrNone)
		}
	}
}

// Ta2: how long a lease lasts: from now on; a renewed one never shorter than it did.
func TestFinishUntil(t *testing.T) {
	for _, c := range []struct{ now, until, ttl, acquired, renewed int }{
		{0, 0, 1, 1, 1}, {0, 5, 4, 4, 5}, {0, 5, 5, 5, 5}, {0, 5, 6, 6, 6}, {100, 120, 19, 119, 120}, {100, 120, 21, 121, 121}, {100, 90, 1, 101, 101}, {100, 120, long, 100 + long, 100 + long},
		{end - 5, end, 3, end - 2, end}, {end - 5, end - 3, 5, end, end}, {end - 5, end - 3, 4, end - 1, end - 1}, {end - 5, 0, long, end, end}, {end, end, 1, end, end}, {end, 3, long, end, end},
	} {
		x := api.Table{Now: c.now, Spans: everything, Holds: []api.Hold{hold("a", 4, c.until)}, Intents: []api.Intent{renewing("a", id(1, 1), 4, c.ttl)}}
		finishes(t, x, id(1, 1), true, api.Table{Now: c.now, Spans: everything, Holds: []api.Hold{hold("a", 4, c.renewed)}}, 1, api.OK)
		x = api.Table{Now: c.now, Spans: everything, Marks: []api.Mark{mark("a", 2)}, Intents: []api.Intent{acquiring("a", id(1, 1), 4, c.ttl)}}
		finishes(t, x, id(1, 1), true, api.Table{Now: c.now, Spans: everything, Holds: []api.Hold{hold("a", 4, c.acquired)}}, 1, api.OK)
	}
}

// Ta2: intents that Prepare would not have let be turn their keys by the same words.
func TestFinishStrange(t *testing.T) {
	by := id(1, 1)
	for _, c := range []struct {
		intent api.Intent
		holds  []api.Hold
		marks  []api.Mark
		held   []api.Hold
		marked []api.Mark
	}{
		{acquiring("a", by, 4, 5), []api.Hold{hold("a", 9, 90)}, nil, []api.Hold{hold("a", 4, 15)}, nil},
		{acquiring("a", by, 4, 5), nil, []api.Mark{mark("a", 9)}, []api.Hold{hold("a", 4, 15)}, nil},
		{releasing("a", by, 4), nil, nil, nil, []api.Mark{mark("a", 4)}},
		{releasing("a", by, 4), nil, []api.Mark{mark("a", 3)}, nil, []api.Mark{mark("a", 4)}},
		{releasing("a", by, 4), nil, []api.Mark{mark("a", 5)}, nil, []api.Mark{mark("a", 5)}},
		{releasing("a", by, 4), []api.Hold{hold("a", 9, 90)}, nil, nil, []api.Mark{mark("a", 4)}},
		{renewing("a", by, 4, 5), nil, nil, nil, nil},
		{renewing("a", by, 4, 5), nil, []api.Mark{mark("a", 9)}, nil, []api.Mark{mark("a", 9)}},
		{renewing("a", by, 4, 5), []api.Hold{hold("a", 9, 12)}, nil, []api.Hold{hold("a", 9, 15)}, nil},
	} {
		x := api.Table{Now: 10, Spans: everything, Holds: c.holds, Marks: c.marks, Intents: []api.Intent{c.intent}}
		finishes(t, x, by, true, api.Table{Now: 10, Spans: everything, Holds: c.held, Marks: c.marked}, 1, api.OK)
		finishes(t, x, by, false, api.Table{Now: 10, Spans: everything, Holds: c.holds, Marks: c.marks}, 1, api.OK)
	}
}

// Ta2: all of a full table's intents turn.
func TestFinishFull(t *testing.T) {
	by := id(1, 1)
	var held []api.Hold
	for _, x := range turning(0, 1024, by) {
		held = append(held, hold(x.Key, x.Token, 9))
	}
	x := api.Table{Spans: everything, Intents: turning(0, 1024, by)}
	finishes(t, x, by, true, api.Table{Spans: everything, Holds: held}, 1024, api.OK)
	for i := range x.Intents {
		x.Intents[i] = releasing(x.Intents[i].Key, by, uint64(i+1))
	}
	finishes(t, x, by, true, api.Table{Spans: everything, Marks: marks(0, 1024)}, 1024, api.OK)
	x.Holds, x.Intents = holds(0, 512), x.Intents[:512]
	finishes(t, x, by, true, api.Table{Spans: everything, Marks: marks(0, 512)}, 512, api.OK)
}

// Ta3: who holds a key, or why that is not told.
func TestInspect(t *testing.T) {
	for _, c := range []struct {
		key  string
		who  uint64
		code api.Errno
	}{
		{"a", 5, api.OK}, {"g", 4, api.OK}, {"c", 8, api.OK}, {"x", 3, api.OK}, {"h", 0, api.OK}, {"aa", 0, api.OK}, {"d", 0, api.OK}, {"r", 0, api.OK}, {"y", 0, api.OK}, {"cc", 0, api.OK}, {"p", 0, api.OK},
		{"zzz", 0, api.OK}, {longest, 0, api.OK}, {"l\xff", 0, api.OK}, {strings.Repeat("\xff", 64), 0, api.OK},
		{"b", 0, api.ErrWait}, {"e", 0, api.ErrWait}, {"f", 0, api.ErrWait}, {"q", 0, api.ErrWait},
		{"", 0, api.ErrRange}, {"A", 0, api.ErrRange}, {"m", 0, api.ErrRange}, {"n", 0, api.ErrRange}, {"o\xff", 0, api.ErrRange},
		{tooLong, 0, api.ErrArg}, {strings.Repeat("n", 65), 0, api.ErrArg}, {strings.Repeat("\x00", 1<<20), 0, api.ErrArg}, {"a" + longest, 0, api.ErrArg},
	} {
		if who, e := Inspect(some(), c.key); who != c.who || e != c.code {
			t.Errorf("Inspect of %q: %d, error %d, not %d, error %d", c.key, who, e, c.who, c.code)
		}
	}
	if who, e := Inspect(none, ""); who != 0 || e != api.ErrRange {
		t.Errorf("Inspect of none: %d, error %d", who, e)
	}
	if who, e := Inspect(api.Table{Spans: everything, Holds: []api.Hold{hold("", last, 0)}}, ""); who != last || e != api.OK {
		t.Errorf("Inspect of the empty key: %d, error %d", who, e)
	}
}

// freezes tells whether Freeze tells that.
func freezes(t *testing.T, x api.Table, s api.Span, want []api.Span, code api.Errno) {
	t.Helper()
	got, e := Freeze(x, s)
	all := none
	if code == api.OK {
		all = x
		all.Frozen = want
	}
	tells(t, fmt.Sprintf("Freeze of %q in %+v", s, x), got, e, all, code)
}

// wrongSpans is spans that may not be.
var wrongSpans = []api.Span{to("c", "c"), to("d", "c"), to(tooLong, ""), to("", tooLong), to("c", "d"+longest), to("c"+longest, "e"), to("d", "a")}

// Ta3: more keys are frozen, if all of them are here.
func TestFreeze(t *testing.T) {
	for _, c := range []struct {
		s    api.Span
		want []api.Span
		code api.Errno
	}{
		{to("a", "b"), []api.Span{to("a", "b"), to("c", "e"), to("x", "z")}, api.OK}, {to("a", "c"), []api.Span{to("a", "e"), to("x", "z")}, api.OK},
		{to("a", "m"), []api.Span{to("a", "m"), to("x", "z")}, api.OK}, {to("c", "e"), []api.Span{to("c", "e"), to("x", "z")}, api.OK}, {to("d", "d2"), []api.Span{to("c", "e"), to("x", "z")}, api.OK},
		{to("e", "m"), []api.Span{to("c", "m"), to("x", "z")}, api.OK}, {to("p", ""), []api.Span{to("c", "e"), to("p", "")}, api.OK}, {to("z", ""), []api.Span{to("c", "e"), to("x", "")}, api.OK},
		{to("q", "q\x00"), []api.Span{to("c", "e"), to("q", "q\x00"), to("x", "z")}, api.OK}, {to("y", "zz"), []api.Span{to("c", "e"), to("x", "zz")}, api.OK},
		{to("", ""), nil, api.ErrRange}, {to("a", ""), nil, api.ErrRange}, {to("", "b"), nil, api.ErrRange}, {to("a", "m\x00"), nil, api.ErrRange}, {to("l", "q"), nil, api.ErrRange}, {to("m", "p"), nil, api.ErrRange},
		{to("m", "n"), nil, api.ErrRange}, {to("b", "n"), nil, api.ErrRange}, {to("o", ""), nil, api.ErrRange}, {to("c", "q"), nil, api.ErrRange}, {to("A", "a"), nil, api.ErrRange},
	} {
		freezes(t, some(), c.s, c.want, c.code)
	}
	for _, s := range wrongSpans {
		freezes(t, some(), s, nil, api.ErrArg)
		freezes(t, none, s, nil, api.ErrArg)
	}
	freezes(t, none, to("", ""), nil, api.ErrRange)
	freezes(t, api.Table{Spans: everything}, to("", ""), everything, api.OK)
	freezes(t, api.Table{Spans: everything}, to("", "\x00"), []api.Span{to("", "\x00")}, api.OK)
}

// Ta3: there are 64 frozen spans at most.
func TestFreezeFull(t *testing.T) {
	x := api.Table{Spans: everything, Frozen: spans(63)}
	freezes(t, x, to(keyed(126), keyed(127)), spans(64), api.OK)
	x.Frozen = spans(64)
	freezes(t, x, to(keyed(128), keyed(129)), nil, api.ErrFull)
	freezes(t, x, to("", "a"), nil, api.ErrFull)
	freezes(t, x, to(keyed(4), keyed(5)), spans(64), api.OK)
	freezes(t, x, to(keyed(127), keyed(128)), append(spans(63), to(keyed(126), keyed(128))), api.OK)
	freezes(t, x, to(keyed(1), ""), []api.Span{to(keyed(0), "")}, api.OK)
	x.Spans = spans(64)
	freezes(t, x, to(keyed(128), keyed(129)), nil, api.ErrRange)
	for _, s := range wrongSpans {
		freezes(t, x, s, nil, api.ErrArg)
	}
}

// exports tells whether Export tells that.
func exports(t *testing.T, x api.Table, plan uint64, s api.Span, want api.Table, p api.Parcel, code api.Errno) {
	t.Helper()
	got, parcel, e := Export(x, plan, s)
	what := fmt.Sprintf("Export of %q from %+v", s, x)
	tells(t, what, got, e, want, code)
	if fmt.Sprint(parcel) != fmt.Sprint(p) {
		t.Errorf("%s: %+v, not %+v", what, parcel, p)
	}
}

// Ta3: keys are handed over, with what there is of them.
func TestExport(t *testing.T) {
	exports(t, some(), 9, to("c", "e"), but(func(t *api.Table) {
		t.Spans = []api.Span{to("a", "c"), to("e", "m"), to("p", "")}
		t.Frozen = t.Frozen[1:]
		t.Holds = slices.Delete(t.Holds, 2, 3)
		t.Marks = t.Marks[1:]
	}), api.Parcel{Plan: 9, Span: to("c", "e"), Holds: []api.Hold{hold("c", 8, 0)}, Marks: []api.Mark{mark("d", 9)}}, api.OK)
	exports(t, some(), last, to("x", "z"), but(func(t *api.Table) {
		t.Spans = []api.Span{to("a", "m"), to("p", "x"), to("z", "")}
		t.Frozen = t.Frozen[:1]
		t.Holds = t.Holds[:5]
		t.Marks = t.Marks[:3]
	}), api.Parcel{Plan: last, Span: to("x", "z"), Holds: []api.Hold{hold("x", 3, 20)}, Marks: []api.Mark{mark("y", 2)}}, api.OK)
	exports(t, some(), 0, to("x", "y"), but(func(t *api.Table) {
		t.Spans = []api.Span{to("a", "m"), to("p", "x"), to("y", "")}
		t.Frozen[1].From = "y"
		t.Holds = t.Holds[:5]
	}), api.Parcel{Span: to("x", "y"), Holds: []api.Hold{hold("x", 3, 20)}}, api.OK)
	exports(t, some(), 1, to("d\x00", "dd"), but(func(t *api.Table) {
		t.Spans = []api.Span{to("a", "d\x00"), to("dd", "m"), to("p", "")}
		t.Frozen = []api.Span{to("c", "d\x00"), to("dd", "e"), to("x", "z")}
	}), api.Parcel{Plan: 1, Span: to("d\x00", "dd")}, api.OK)
	x := api.Table{Now: end, Spans: everything, Frozen: everything, Holds: holds(0, 512), Marks: marks(512, 512)}
	p := api.Parcel{Plan: 5, Holds: holds(0, 512), Marks: marks(512, 512)}
	for i := range p.Holds {
		p.Holds[i].Until = 0
	}
	exports(t, x, 5, to("", ""), api.Table{Now: end}, p, api.OK)
}

// Ta3: keys that are not here, not frozen, or about to turn are not handed over.
func TestExportWrong(t *testing.T) {
	refused := func(x api.Table, s api.Span, code api.Errno) {
		t.Helper()
		exports(t, x, 3, s, none, api.Parcel{}, code)
	}
	for _, s := range wrongSpans {
		refused(some(), s, api.ErrArg)
		refused(none, s, api.ErrArg)
	}
	for _, s := range []api.Span{to("", ""), to("a", ""), to("", "d"), to("c", "n"), to("m", "p"), to("l", "m\x00"), to("o", "z"), to("c", "z")} {
		refused(some(), s, api.ErrRange)
		refused(none, s, api.ErrRange)
	}
	for _, s := range []api.Span{to("a", "b"), to("a", "m"), to("b", "d"), to("d", "f"), to("c", "e\x00"), to("x", ""), to("w", "z"), to("p", ""), to("c", "f"), to("e", "f")} {
		refused(some(), s, api.ErrWait)
	}
	for _, key := range []string{"b", "e", "f"} {
		for _, s := range []api.Span{to(key, key+"\x00"), to("a", "m"), to("b", "g"), to("b", key+"\x00"), to(key, "g")} {
			x := but(func(t *api.Table) { t.Frozen = []api.Span{to("a", "m")} })
			refused(x, s, api.ErrWait)
		}
	}
	x := but(func(t *api.Table) { t.Frozen = []api.Span{to("a", "m")} })
	for _, s := range []api.Span{to("a", "b"), to("b\x00", "e"), to("f\x00", "m"), to("c", "e"), to("e\x00", "f")} {
		if _, _, e := Export(x, 3, s); e != api.OK {
			t.Errorf("Export of %q, beside intents: error %d", s, e)
		}
	}
}

// Ta3: what stays has 64 spans at most, and so many that are frozen.
func TestExportFull(t *testing.T) {
	room := spans(63)
	wide := append(spans(63), to("l", "n"))
	for _, c := range []struct {
		x    api.Table
		s    api.Span
		code api.Errno
	}{
		{api.Table{Spans: wide, Frozen: []api.Span{to("l", "n")}}, to("l", "m"), api.OK}, {api.Table{Spans: wide, Frozen: []api.Span{to("l", "n")}}, to("m", "n"), api.OK},
		{api.Table{Spans: wide, Frozen: []api.Span{to("l", "n")}}, to("l", "n"), api.OK}, {api.Table{Spans: wide, Frozen: []api.Span{to("l", "n")}}, to("la", "n\x00"), api.ErrRange},
		{api.Table{Spans: wide, Frozen: []api.Span{to("l", "n")}}, to("la", "m"), api.ErrFull}, {api.Table{Spans: wide, Frozen: []api.Span{to("la", "m")}}, to("la", "m"), api.ErrFull},
		{api.Table{Spans: wide[1:], Frozen: []api.Span{to("l", "n")}}, to("la", "m"), api.OK}, {api.Table{Spans: everything, Frozen: wide}, to("la", "m"), api.ErrFull},
		{api.Table{Spans: everything, Frozen: wide}, to("l", "m"), api.OK}, {api.Table{Spans: everything, Frozen: wide[1:]}, to("la", "m"), api.OK},
		{api.Table{Spans: everything, Frozen: room}, to(keyed(0), keyed(1)), api.OK}, {api.Table{Spans: wide, Frozen: []api.Span{to("l", "m")}}, to("la", "n"), api.ErrWait},
		{api.Table{Spans: wide, Frozen: wide, Intents: []api.Intent{releasing("lz", id(1, 1), 1)}}, to("la", "m"), api.ErrWait},
		{api.Table{Spans: wide, Frozen: wide, Intents: []api.Intent{releasing("l", id(1, 1), 1)}}, to("la", "m"), api.ErrFull},
	} {
		got, p, e := Export(c.x, 3, c.s)
		is(t, fmt.Sprintf("Export of %q from %v, %v", c.s, c.x.Spans, c.x.Frozen), e, c.code)
		is(t, "Check", Check(got), api.OK)
		if e != api.OK && (!alike(got, none) || p.Plan != 0 || p.Span != api.Span{}) {
			t.Errorf("Export of %q: %+v, %+v beside error %d", c.s, got, p, e)
		}
	}
}

// imports tells whether Import tells that.
func imports(t *testing.T, x api.Table, p api.Parcel, want api.Table, code api.Errno) {
	t.Helper()
	got, e := Import(x, p)
	tells(t, fmt.Sprintf("Import of %+v to %+v", p, x), got, e, want, code)
}

// Ta3: keys are taken on, with what there is of them.
func TestImport(t *testing.T) {
	p := api.Parcel{Plan: 3, Span: to("m", "p"), Holds: []api.Hold{hold("m", 8, 0), hold("n", 4, 30), hold("o\xff", 1, end)}, Marks: []api.Mark{mark("mm", 9), mark("o", last)}}
	imports(t, some(), p, but(func(t *api.Table) {
		t.Spans = []api.Span{to("a", "")}
		t.Holds = slices.Insert(t.Holds, 4, hold("m", 8, 100), hold("n", 4, 130), hold("o\xff", 1, end))
		t.Marks = slices.Insert(t.Marks, 2, mark("mm", 9), mark("o", last))
	}), api.OK)
	imports(t, none, p, api.Table{Spans: []api.Span{p.Span}, Holds: p.Holds, Marks: p.Marks}, api.OK)
	imports(t, some(), api.Parcel{Span: to("n", "o")}, but(func(t *api.Table) { t.Spans = []api.Span{to("a", "m"), to("n", "o"), to("p", "")} }), api.OK)
	imports(t, some(), api.Parcel{Span: to("", "a"), Holds: []api.Hold{hold("", 3, 5)}}, but(func(t *api.Table) {
		t.Spans[0].From = ""
		t.Holds = slices.Insert(t.Holds, 0, hold("", 3, 105))
	}), api.OK)
	imports(t, api.Table{Now: end - 3}, api.Parcel{Span: to("a", ""), Holds: []api.Hold{hold("a", 1, 2), hold("b", 1, 3), hold("c", 1, 4), hold("d", 1, end)}, Marks: []api.Mark{mark(longest, 1)}},
		api.Table{Now: end - 3, Spans: []api.Span{to("a", "")}, Holds: []api.Hold{hold("a", 1, end-1), hold("b", 1, end), hold("c", 1, end), hold("d", 1, end)}, Marks: []api.Mark{mark(longest, 1)}}, api.OK)
}

// Ta3: parcels that may not be; and keys that are here already.
func TestImportWrong(t *testing.T) {
	s := to("m", "p")
	for _, p := range []api.Parcel{
		{Span: s, Holds: []api.Hold{hold("n", 0, 5)}}, {Span: s, Holds: []api.Hold{hold("n", 1, -1)}}, {Span: s, Holds: []api.Hold{hold("n", 1, end+1)}},
		{Span: s, Holds: []api.Hold{hold("n", 1, 5), hold("n", 1, 5)}}, {Span: s, Holds: []api.Hold{hold("o", 1, 5), hold("n", 1, 5)}}, {Span: s, Holds: []api.Hold{hold("n"+longest, 1, 5)}},
		{Span: s, Marks: []api.Mark{mark("n", 0)}}, {Span: s, Marks: []api.Mark{mark("n", 1), mark("n", 1)}}, {Span: s, Marks: []api.Mark{mark("o", 1), mark("n", 1)}}, {Span: s, Marks: []api.Mark{mark("n"+longest, 1)}},
		{Span: s, Holds: []api.Hold{hold("l", 1, 5)}}, {Span: s, Holds: []api.Hold{hold("p", 1, 5)}}, {Span: s, Holds: []api.Hold{hold("n", 1, 5), hold("q", 1, 5)}}, {Span: s, Holds: []api.Hold{hold("", 1, 5), hold("n", 1, 5)}},
		{Span: s, Marks: []api.Mark{mark("l\xff", 1)}}, {Span: s, Marks: []api.Mark{mark("p", 1)}}, {Span: s, Marks: []api.Mark{mark("n", 1), mark("p\x00", 1)}}, {Span: s, Marks: []api.Mark{mark("a", 1)}},
		{Span: s, Holds: []api.Hold{hold("n", 1, 5)}, Marks: []api.Mark{mark("n", 1)}}, {Span: s, Holds: []api.Hold{hold("m", 1, 5), hold("o", 1, 5)}, Marks: []api.Mark{mark("n", 1), mark("o", 7)}},
		{Span: to(keyed(0), ""), Holds: holds(0, 1025)}, {Span: to(keyed(0), ""), Marks: marks(0, 1025)},
	} {
		for _, x := range []api.Table{none, {Spans: everything}, some(), {Spans: []api.Span{to("a", "m")}, Holds: []api.Hold{hold("b", 1, 1)}}} {
			imports(t, x, p, none, api.ErrArg)
		}
	}
	for _, s := range wrongSpans {
		imports(t, none, api.Parcel{Span: s}, none, api.ErrArg)
		imports(t, some(), api.Parcel{Span: s}, none, api.ErrArg)
		imports(t, api.Table{Spans: everything}, api.Parcel{Span: s}, none, api.ErrArg)
	}
	for _, s := range []api.Span{to("", ""), to("", "b"), to("a", "b"), to("a", "m"), to("l\xff", "n"), to("n", "p\x00"), to("zz", ""), to("b", "c"), to("m", ""), to("", "a\x00"), to("c", "z")} {
		imports(t, some(), api.Parcel{Span: s}, none, api.ErrSame)
	}
}

// Ta3: there is room for 64 spans, and for 1024 holds, marks and intents; that keys are here already is told ahead of it.
func TestImportFull(t *testing.T) {
	x := api.Table{Spans: spans(64)}
	imports(t, x, api.Parcel{Span: to(keyed(128), "")}, none, api.ErrFull)
	imports(t, x, api.Parcel{Span: to("", "a")}, none, api.ErrFull)
	imports(t, x, api.Parcel{Span: to(keyed(1)+"a", keyed(1)+"b")}, none, api.ErrFull)
	imports(t, x, api.Parcel{Span: to(keyed(126), "")}, none, api.ErrSame)
	imports(t, x, api.Parcel{Span: to(keyed(127), "")}, api.Table{Spans: append(spans(63), to(keyed(126), ""))}, api.OK)
	imports(t, api.Table{Spans: spans(63)}, api.Parcel{Span: to(keyed(126), keyed(127))}, x, api.OK)
	behind := to(keyed(1024), "")
	ahead := []api.Span{to("", keyed(1024))}
	for _, c := range []struct {
		holds, marks, intents, held, marked int
		code                                api.Errno
	}{
		{1024, 0, 0, 0, 0, api.OK}, {1023, 0, 0, 1, 0, api.OK}, {1023, 0, 0, 0, 1, api.OK}, {1023, 0, 0, 1, 1, api.ErrFull}, {1024, 0, 0, 1, 0, api.ErrFull}, {1024, 0, 0, 0, 1, api.ErrFull},
		{0, 1023, 0, 1, 0, api.OK}, {0, 1024, 0, 0, 1, api.ErrFull}, {0, 0, 1023, 0, 1, api.OK}, {0, 0, 1024, 1, 0, api.ErrFull}, {100, 200, 300, 212, 212, api.OK}, {100, 200, 300, 213, 212, api.ErrFull},
		{0, 0, 0, 512, 512, api.OK}, {0, 0, 0, 1024, 0, api.OK}, {0, 0, 0, 0, 1024, api.OK}, {0, 0, 0, 1024, 1, api.ErrFull}, {0, 0, 0, 512, 513, api.ErrFull}, {0, 0, 0, 1024, 1024, api.ErrFull}, {1, 0, 0, 1024, 0, api.ErrFull},
	} {
		x := api.Table{Spans: ahead, Holds: holds(0, c.holds), Marks: marks(c.holds, c.marks), Intents: turning(c.holds+c.marks, c.intents, id(1, 1))}
		p := api.Parcel{Plan: 2, Span: behind, Holds: holds(1024, c.held), Marks: marks(1024+c.held, c.marked)}
		want := none
		if c.code == api.OK {
			want = x
			want.Spans = everything
			want.Holds = slices.Concat(x.Holds, p.Holds)
			want.Marks = slices.Concat(x.Marks, p.Marks)
		}
		imports(t, x, p, want, c.code)
		x.Spans = everything
		imports(t, x, p, none, api.ErrSame)
	}
}

// The chapter's example.
func TestExample(t *testing.T) {
	x, e := Prepare(api.Table{Spans: everything}, id(1, 1), acquire(9, "a", "b"), 5)
	is(t, "Prepare", e, api.OK)
	x, n, e := Finish(x, id(1, 1), true)
	is(t, "Finish", e, api.OK)
	for _, key := range []string{"a", "b"} {
		if who, e := Inspect(x, key); who != 5 || e != api.OK || n != 2 {
			t.Errorf("Inspect of %q behind Finish of %d: %d, error %d", key, n, who, e)
		}
	}
	prepares(t, x, id(2, 1), acquire(9, "a"), 6, none, api.ErrBusy)
}

// R1: tables that may not be are inspected to an end, too.
func TestInspectStrange(t *testing.T) {
	for _, x := range wrong() {
		for _, key := range []string{"", "a", "b", "m", "x", longest, tooLong} {
			Inspect(x, key)
		}
	}
	twice := api.Table{Now: -1, Spans: everything, Holds: []api.Hold{hold("b", 3, 1), hold("a", 1, 1), hold("a", 2, 1)}}
	if who, e := Inspect(twice, "a"); who != 1 || e != api.OK {
		t.Errorf("Inspect of a key that is held twice: %d, error %d", who, e)
	}
}

// roomy is a copy of a list, with spare room behind it that is not empty.
func roomy[T any](l []T, behind T) []T {
	return append(slices.Clip(slices.Clone(l)), slices.Repeat([]T{behind}, 8)...)[:len(l)]
}

// spoil changes a list, and the room behind it.
func spoil[T any](l []T, by T) {
	l = l[:cap(l)]
	for i := range l {
		l[i] = by
	}
}

// roomyTable is a copy of a table, whose lists have spare room.
func roomyTable(x api.Table) api.Table {
	return api.Table{Now: x.Now, Spans: roomy(x.Spans, to("?", "")), Frozen: roomy(x.Frozen, to("?", "")), Holds: roomy(x.Holds, hold("?", 1, 1)),
		Marks: roomy(x.Marks, mark("?", 1)), Intents: roomy(x.Intents, releasing("?", id(1, 1), 1))}
}

// whole is a table's lists with the room behind them, as a text.
func whole(x api.Table) string {
	return fmt.Sprint(x.Now, x.Spans[:cap(x.Spans)], x.Frozen[:cap(x.Frozen)], x.Holds[:cap(x.Holds)], x.Marks[:cap(x.Marks)], x.Intents[:cap(x.Intents)])
}

// spoilTable changes all of a table's lists.
func spoilTable(x api.Table) {
	spoil(x.Spans, to("!", "!"))
	spoil(x.Frozen, to("!", "!"))
	spoil(x.Holds, hold("!", 0, -1))
	spoil(x.Marks, mark("!", 0))
	spoil(x.Intents, api.Intent{})
}

// told is what a call tells: tables, holds and a parcel's lists.
type told struct {
	x     api.Table
	holds []api.Hold
	p     api.Parcel
}

// spoilOneByOne changes one list of an answer after the other, and tells whether the others stay as they are.
func spoilOneByOne(t *testing.T, what string, a told) {
	t.Helper()
	for i, turn := range []func(){
		func() { spoil(a.x.Spans, to("!", "!")); a.x.Spans = nil },
		func() { spoil(a.x.Frozen, to("#", "#")); a.x.Frozen = nil },
		func() { spoil(a.x.Holds, hold("!", 0, -1)); a.x.Holds = nil },
		func() { spoil(a.holds, hold("#", 0, -2)); a.holds = nil },
		func() { spoil(a.x.Marks, mark("!", 0)); a.x.Marks = nil },
		func() { spoil(a.x.Intents, releasing("#", id(0, 0), 0)); a.x.Intents = nil },
		func() { spoil(a.p.Holds, hold("?", 0, -3)); a.p.Holds = nil },
		func() { spoil(a.p.Marks, mark("?", 0)); a.p.Marks = nil },
	} {
		turn()
		if left := fmt.Sprint(a); strings.ContainsAny(left, "!#?") {
			t.Errorf("%s: list %d shares its memory: %s", what, i, left)
		}
	}
}

// R3: what is handed in is not changed, nor what lies behind it, and no answer shares its memory, nor another answer's.
func TestMemory(t *testing.T) {
	p := api.Parcel{Plan: 3, Span: to("m", "p"), Holds: roomy([]api.Hold{hold("m", 8, 0), hold("n", 4, 30)}, hold("?", 1, 1)), Marks: roomy([]api.Mark{mark("mm", 9)}, mark("?", 1))}
	empty := p
	empty.Holds, empty.Marks = p.Holds[:0], p.Marks[:0]
	keys := roomy([]string{"h", "i"}, "?")
	calls := map[string]func(x api.Table) told{
		"Clock":     func(x api.Table) told { y, due, _ := Clock(x, 1); return told{x: y, holds: due} },
		"Clock 30":  func(x api.Table) told { y, due, _ := Clock(x, 30); return told{x: y, holds: due} },
		"Prepare":   func(x api.Table) told { y, _ := Prepare(x, id(5, 5), acquire(5, keys...), 20); return told{x: y} },
		"again":     func(x api.Table) told { y, _ := Prepare(x, id(2, 1), acquire(50, "e", "f"), 12); return told{x: y} },
		"release":   func(x api.Table) told { y, _, _ := Finish(x, id(1, 4), true); return told{x: y} },
		"acquire":   func(x api.Table) told { y, _, _ := Finish(x, id(2, 1), true); return told{x: y} },
		"renew":     func(x api.Table) told { y, _, _ := Finish(x, id(3, 9), true); return told{x: y} },
		"not":       func(x api.Table) told { y, _, _ := Finish(x, id(3, 9), false); return told{x: y} },
		"Freeze":    func(x api.Table) told { y, _ := Freeze(x, to("g", "h")); return told{x: y} },
		"no Freeze": func(x api.Table) told { y, _ := Freeze(x, to("c", "d")); return told{x: y} },
		"Export":    func(x api.Table) told { y, p, _ := Export(x, 1, to("c", "e")); return told{x: y, p: p} },
		"nothing":   func(x api.Table) told { y, p, _ := Export(x, 1, to("dd", "de")); return told{x: y, p: p} },
		"Import":    func(x api.Table) told { y, _ := Import(x, p); return told{x: y} },
		"empty":     func(x api.Table) told { y, _ := Import(x, empty); return told{x: y} },
	}
	for name, call := range calls {
		want := fmt.Sprint(call(some()))
		if call(some()).x.Now == 0 {
			t.Fatalf("%s: nothing is told", name)
		}
		given := roomyTable(some())
		was := whole(given)
		first, second := call(given), call(given)
		if whole(given) != was {
			t.Errorf("%s changed what is handed in", name)
		}
		spoilTable(given)
		if fmt.Sprint(first) != want || fmt.Sprint(second) != want {
			t.Errorf("%s: an answer shares the argument's memory", name)
		}
		spoiled := whole(given)
		spoilOneByOne(t, name, first)
		if fmt.Sprint(second) != want || whole(given) != spoiled {
			t.Errorf("%s: an answer shares its memory", name)
		}
	}
	if fmt.Sprint(p.Holds[:cap(p.Holds)][:3], p.Marks[:2], keys[:3]) != "[{m 8 0} {n 4 30} {? 1 1}] [{mm 9} {? 1}] [h i ?]" {
		t.Errorf("changed what is handed in: %v, %v, %v", p.Holds[:3], p.Marks[:2], keys[:3])
	}
	x, _ := Import(none, p)
	spoil(p.Holds, hold("!", 0, -1))
	spoil(p.Marks, mark("!", 0))
	if fmt.Sprint(x.Holds, x.Marks) != "[{m 8 0} {n 4 30}] [{mm 9}]" {
		t.Errorf("Import shares the parcel's memory: %v, %v", x.Holds, x.Marks)
	}
}
