package txn

import (
	"fmt"
	"math"
	"reflect"
	"slices"
	"strings"
	"testing"

	"gudgeon/api"
	"gudgeon/table"
)

// The longest that a lease lasts, and the last token.
const (
	long = 1 << 20
	last = uint64(1<<64 - 1)
)

// The longest key, and what is too long to be one.
var (
	longest = strings.Repeat("k", 64)
	tooLong = strings.Repeat("k", 65)
)

// none is what is told beside an error.
var none = api.Txn{}

// id is a call's.
func id(client int, seq uint64) api.Id {
	return api.Id{Client: client, Seq: seq}
}

// acquire, release and renew are calls.
func acquire(ttl int, keys ...string) api.Call {
	return api.Call{Kind: api.CallAcquire, Keys: keys, Ttl: ttl}
}

func release(token uint64, keys ...string) api.Call {
	return api.Call{Kind: api.CallRelease, Keys: keys, Token: token}
}

func renew(token uint64, ttl int, keys ...string) api.Call {
	return api.Call{Kind: api.CallRenew, Keys: keys, Token: token, Ttl: ttl}
}

// keysOf is n keys.
func keysOf(n int) []string {
	var l []string
	for i := range n {
		l = append(l, fmt.Sprintf("k%05d", i))
	}
	return l
}

// upTo is the groups 1 to n.
func upTo(n int) []int {
	var l []int
	for i := range n {
		l = append(l, i+1)
	}
	return l
}

// some is an acquire of two keys and three groups, of which one said yes, that has its token.
func some() api.Txn {
	return api.Txn{Id: id(3, 9), Kind: api.CallAcquire, Keys: []string{"a", "b"}, Token: 5, Ttl: 40, Groups: []int{2, 4, 9}, State: api.TxnOpen, Yes: []int{4}}
}

// but is that record, with something else.
func but(turn func(x *api.Txn)) api.Txn {
	x := some()
	turn(&x)
	return x
}

// in is that record in another state.
func in(state int, token uint64, code api.Errno, yes, done []int) api.Txn {
	x := some()
	x.State, x.Token, x.Code, x.Yes, x.Done = state, token, code, yes, done
	return x
}

// is tells whether a code is that.
func is(t *testing.T, what string, got, want api.Errno) {
	t.Helper()
	if got != want {
		t.Errorf("%s: error %d, not %d", what, got, want)
	}
}

// alike tells whether records are alike, asking nothing of the package.
func alike(a, b api.Txn) bool {
	return reflect.DeepEqual(plain(a), plain(b))
}

// plain is a record whose empty lists are nil.
func plain(x api.Txn) api.Txn {
	if len(x.Keys) == 0 {
		x.Keys = nil
	}
	for _, l := range []*[]int{&x.Groups, &x.Yes, &x.Done} {
		if len(*l) == 0 {
			*l = nil
		}
	}
	return x
}

// tells tells whether a record and a code are those, and the record may be.
func tells(t *testing.T, what string, got api.Txn, e api.Errno, want api.Txn, code api.Errno) {
	t.Helper()
	if !alike(got, want) || e != code {
		t.Errorf("%s: %+v, error %d, not %+v, error %d", what, got, e, want, code)
	}
	if code == api.OK {
		is(t, what+": Check", Check(got), api.OK)
	} else if !reflect.DeepEqual(got, none) {
		t.Errorf("%s: %+v beside error %d", what, got, e)
	}
}

// right is records that may be.
func right() []api.Txn {
	three := []int{2, 4, 9}
	l := []api.Txn{
		some(), in(api.TxnOpen, 0, 0, nil, nil), in(api.TxnOpen, 0, 0, three, nil), in(api.TxnOpen, 0, 0, []int{2, 9}, []int{}), in(api.TxnOpen, last, 0, []int{2, 4}, nil),
		in(api.TxnCommit, 5, 0, three, nil), in(api.TxnCommit, last, 0, three, []int{2, 9}), in(api.TxnCommit, 1, 0, three, []int{4}),
		in(api.TxnAbort, 0, api.ErrBusy, nil, nil), in(api.TxnAbort, 5, api.ErrGap, three, nil), in(api.TxnAbort, 0, 1, three, []int{4, 9}), in(api.TxnAbort, 5, -1, []int{9}, []int{9}),
		in(api.TxnAbort, 1, math.MaxInt, nil, []int{2}), in(api.TxnAbort, 1, math.MinInt, []int{2}, []int{4}), in(api.TxnAbort, 0, 256, nil, nil),
		in(api.TxnClosed, 5, 0, three, three), in(api.TxnClosed, 5, api.ErrBusy, three, three), in(api.TxnClosed, 0, api.ErrBusy, nil, three), in(api.TxnClosed, 0, 7, three, three),
		in(api.TxnClosed, 5, -1, []int{2}, three), in(api.TxnClosed, last, 0, three, three),
	}
	for _, turn := range []func(x *api.Txn){
		func(x *api.Txn) { x.Id = id(0, 1) },
		func(x *api.Txn) { x.Id = id(7, last) },
		func(x *api.Txn) { x.Keys = []string{""} },
		func(x *api.Txn) { x.Keys = []string{"", "\x00", "a", "aa", longest, "\xff"} },
		func(x *api.Txn) { x.Keys = keysOf(16) },
		func(x *api.Txn) { x.Ttl = 1 },
		func(x *api.Txn) { x.Ttl = long },
		func(x *api.Txn) { x.Groups, x.Yes = []int{1}, nil },
		func(x *api.Txn) { x.Groups, x.Yes = []int{16}, nil },
		func(x *api.Txn) { x.Groups, x.Yes = upTo(16), upTo(15) },
		func(x *api.Txn) { x.Groups, x.Yes, x.Token = upTo(16), upTo(16), 0 },
		func(x *api.Txn) { x.Groups, x.Yes, x.State = upTo(16), upTo(16), api.TxnCommit },
		func(x *api.Txn) { x.Groups, x.Yes, x.State, x.Done = upTo(16), upTo(16), api.TxnClosed, upTo(16) },
		func(x *api.Txn) { x.Groups, x.Yes, x.State, x.Done = upTo(16), upTo(16), api.TxnCommit, upTo(15) },
		func(x *api.Txn) { x.Kind, x.Ttl = api.CallRelease, 0 },
		func(x *api.Txn) { x.Kind, x.Ttl, x.Token = api.CallRelease, 0, last },
		func(x *api.Txn) { x.Kind = api.CallRenew },
		func(x *api.Txn) { x.Kind, x.Ttl, x.Token = api.CallRenew, long, 1 },
		func(x *api.Txn) { x.Kind, x.State, x.Code, x.Yes = api.CallRenew, api.TxnAbort, 4, nil },
	} {
		l = append(l, but(turn))
	}
	return l
}

// wrong is records that may not be.
func wrong() []api.Txn {
	three := []int{2, 4, 9}
	l := []api.Txn{
		none,
		in(api.TxnOpen, 5, 0, three, nil), in(api.TxnOpen, 5, 0, nil, []int{2}), in(api.TxnOpen, 0, 0, three, []int{9}), in(api.TxnOpen, 5, 0, nil, three), in(api.TxnOpen, 5, 1, nil, nil),
		in(api.TxnOpen, 0, api.ErrBusy, nil, nil), in(api.TxnOpen, 5, -1, []int{4}, nil), in(api.TxnOpen, last, 0, three, nil),
		in(api.TxnCommit, 0, 0, three, nil), in(api.TxnCommit, 5, 0, nil, nil), in(api.TxnCommit, 5, 0, []int{2, 9}, nil), in(api.TxnCommit, 5, 0, three, three), in(api.TxnCommit, 5, 8, three, nil),
		in(api.TxnCommit, 5, -1, three, []int{2}), in(api.TxnCommit, 5, 0, []int{2}, []int{2}), in(api.TxnCommit, 0, 8, three, three),
		in(api.TxnAbort, 5, 0, nil, nil), in(api.TxnAbort, 5, 0, three, nil), in(api.TxnAbort, 0, 0, []int{4}, []int{2}), in(api.TxnAbort, 5, 8, nil, three), in(api.TxnAbort, 0, 8, three, three),
		in(api.TxnAbort, 0, 0, three, nil), in(api.TxnAbort, 5, 0, nil, three),
		in(api.TxnClosed, 5, 0, three, nil), in(api.TxnClosed, 5, 0, three, []int{2, 4}), in(api.TxnClosed, 5, 8, nil, []int{4, 9}), in(api.TxnClosed, 5, 8, three, nil), in(api.TxnClosed, 5, 0, nil, three),
		in(api.TxnClosed, 5, 0, []int{2, 9}, three), in(api.TxnClosed, 0, 0, three, three), in(api.TxnClosed, 0, 0, nil, three),
		in(0, 5, 0, nil, nil), in(-1, 5, 0, nil, nil), in(5, 5, 0, nil, nil), in(0, 5, 0, three, three), in(5, 5, 8, three, three), in(math.MaxInt, 5, 0, three, nil), in(math.MinInt, 5, 8, nil, nil),
	}
	for _, turn := range []func(x *api.Txn){
		func(x *api.Txn) { x.Id = api.Id{} },
		func(x *api.Txn) { x.Id.Client = -1 },
		func(x *api.Txn) { x.Id.Client = 8 },
		func(x *api.Txn) { x.Id.Client = math.MaxInt },
		func(x *api.Txn) { x.Id.Client = math.MinInt },
		func(x *api.Txn) { x.Id.Client = 1 << 32 },
		func(x *api.Txn) { x.Id.Seq = 0 },
		func(x *api.Txn) { x.Kind = 0 },
		func(x *api.Txn) { x.Kind = -1 },
		func(x *api.Txn) { x.Kind = api.CallInspect },
		func(x *api.Txn) { x.Kind = api.CallKinds },
		func(x *api.Txn) { x.Kind = math.MaxInt },
		func(x *api.Txn) { x.Kind = api.CallRelease },
		func(x *api.Txn) { x.Kind, x.Ttl = api.CallInspect, 0 },
		func(x *api.Txn) { x.Kind, x.Ttl = api.CallRelease, -1 },
		func(x *api.Txn) { x.Kind, x.Ttl, x.Token = api.CallRelease, 0, 0 },
		func(x *api.Txn) { x.Kind, x.Token = api.CallRenew, 0 },
		func(x *api.Txn) { x.Kind, x.Ttl = api.CallRenew, 0 },
		func(x *api.Txn) { x.Kind, x.Ttl = api.CallRenew, long+1 },
		func(x *api.Txn) { x.Ttl = 0 },
		func(x *api.Txn) { x.Ttl = -1 },
		func(x *api.Txn) { x.Ttl = long + 1 },
		func(x *api.Txn) { x.Ttl = math.MaxInt },
		func(x *api.Txn) { x.Keys = nil },
		func(x *api.Txn) { x.Keys = []string{} },
		func(x *api.Txn) { x.Keys = keysOf(17) },
		func(x *api.Txn) { x.Keys = []string{"b", "a"} },
		func(x *api.Txn) { x.Keys = []string{"a", "a"} },
		func(x *api.Txn) { x.Keys = []string{"a", ""} },
		func(x *api.Txn) { x.Keys = []string{"a", tooLong} },
		func(x *api.Txn) { x.Groups = nil },
		func(x *api.Txn) { x.Groups, x.Yes = nil, nil },
		func(x *api.Txn) { x.Groups, x.Yes = []int{}, nil },
		func(x *api.Txn) { x.Groups, x.Yes, x.Token = nil, nil, 0 },
		func(x *api.Txn) { x.Groups, x.Yes, x.State, x.Code = nil, nil, api.TxnClosed, 8 },
		func(x *api.Txn) { x.Groups = []int{0, 4, 9} },
		func(x *api.Txn) { x.Groups = []int{-1, 4, 9} },
		func(x *api.Txn) { x.Groups = []int{2, 4, 17} },
		func(x *api.Txn) { x.Groups = []int{4, math.MaxInt} },
		func(x *api.Txn) { x.Groups = []int{math.MinInt, 4} },
		func(x *api.Txn) { x.Groups = []int{2, 4, 4} },
		func(x *api.Txn) { x.Groups = []int{4, 4, 9} },
		func(x *api.Txn) { x.Groups = []int{4, 2, 9} },
		func(x *api.Txn) { x.Groups = []int{2, 9, 4} },
		func(x *api.Txn) { x.Groups = []int{9, 4, 2} },
		func(x *api.Txn) { x.Groups = upTo(17) },
		func(x *api.Txn) { x.Groups = append(upTo(16), 16) },
		func(x *api.Txn) { x.Groups = []int{2, 9} },
		func(x *api.Txn) { x.Yes = []int{3} },
		func(x *api.Txn) { x.Yes = []int{0} },
		func(x *api.Txn) { x.Yes = []int{10} },
		func(x *api.Txn) { x.Yes = []int{2, 3} },
		func(x *api.Txn) { x.Yes = []int{1, 2} },
		func(x *api.Txn) { x.Yes = []int{4, 4} },
		func(x *api.Txn) { x.Yes = []int{4, 2} },
		func(x *api.Txn) { x.Yes = []int{2, 4, 4} },
		func(x *api.Txn) { x.Yes = []int{2, 9, 4} },
		func(x *api.Txn) { x.Yes = []int{2, 2, 4, 9} },
		func(x *api.Txn) { x.Yes, x.Token = []int{2, 4, 9, 10}, 0 },
		func(x *api.Txn) { x.State, x.Code, x.Done = api.TxnAbort, 8, []int{3} },
		func(x *api.Txn) { x.State, x.Code, x.Done = api.TxnAbort, 8, []int{10} },
		func(x *api.Txn) { x.State, x.Code, x.Done = api.TxnAbort, 8, []int{4, 2} },
		func(x *api.Txn) { x.State, x.Code, x.Done = api.TxnAbort, 8, []int{4, 4} },
		func(x *api.Txn) { x.State, x.Code, x.Done = api.TxnClosed, 8, []int{2, 4, 10} },
		func(x *api.Txn) { x.State, x.Code, x.Done = api.TxnClosed, 8, []int{9, 4, 2} },
		func(x *api.Txn) { x.State, x.Code, x.Done = api.TxnClosed, 8, []int{2, 4, 4} },
		func(x *api.Txn) { x.State, x.Code, x.Done = api.TxnClosed, 8, []int{2, 4, 4, 9} },
		func(x *api.Txn) { x.State, x.Yes = api.TxnCommit, []int{2, 4, 10} },
		func(x *api.Txn) { x.State, x.Yes = api.TxnCommit, []int{4, 4, 4} },
		func(x *api.Txn) { x.State, x.Yes = api.TxnCommit, []int{9, 4, 2} },
		func(x *api.Txn) { x.State, x.Yes = api.TxnCommit, []int{2, 4, 9, 9} },
	} {
		l = append(l, but(turn))
	}
	return l
}

// Tx1: records that may be, and those that may not.
func TestCheck(t *testing.T) {
	for i, x := range right() {
		is(t, fmt.Sprintf("right %d: Check(%+v)", i, x), Check(x), api.OK)
	}
	for i, x := range wrong() {
		is(t, fmt.Sprintf("wrong %d: Check(%+v)", i, x), Check(x), api.ErrArg)
	}
}

// Tx1, Tx2: all that tell a record refuse one that may not be, ahead of all else, and tell nothing; nobody is to be
// asked or told of it, and nothing came of it.
func TestRecordsThatMayNotBe(t *testing.T) {
	for i, x := range wrong() {
		for _, token := range []uint64{0, 1, last} {
			got, e := Token(x, token)
			tells(t, fmt.Sprintf("wrong %d: Token", i), got, e, none, api.ErrArg)
		}
		for _, group := range []int{2, 4, 9, 3, 0, -1} {
			for _, code := range []api.Errno{api.OK, api.ErrBusy} {
				got, e := Voted(x, group, code)
				tells(t, fmt.Sprintf("wrong %d: Voted", i), got, e, none, api.ErrArg)
			}
			got, e := Applied(x, group)
			tells(t, fmt.Sprintf("wrong %d: Applied", i), got, e, none, api.ErrArg)
		}
		if l := Ask(x); len(l) != 0 {
			t.Errorf("wrong %d: Ask: %v", i, l)
		}
		if l := Tell(x); len(l) != 0 {
			t.Errorf("wrong %d: Tell: %v", i, l)
		}
		if r, ok := Reply(x); ok || !reflect.DeepEqual(r, api.Reply{}) {
			t.Errorf("wrong %d: Reply: %v, %v", i, r, ok)
		}
	}
}

// Tx1: a record that begins is open, of what the call has, but that an acquire has no token yet, whatever its call has.
func TestBegin(t *testing.T) {
	held := acquire(9, "c")
	held.Token = 77
	for _, c := range []api.Call{
		acquire(1, ""), acquire(long, "a", "b", longest), acquire(5, keysOf(16)...), held, release(1, "a"), release(last, "a", "b"), renew(3, 1, "", "x"), renew(last, long, keysOf(16)...),
	} {
		for _, by := range []api.Id{id(0, 1), id(7, last), id(3, 4)} {
			for _, groups := range [][]int{{1}, {16}, {2, 7}, upTo(16)} {
				want := api.Txn{Id: by, Kind: c.Kind, Keys: c.Keys, Token: c.Token, Ttl: c.Ttl, Groups: groups, State: 1}
				if c.Kind == api.CallAcquire {
					want.Token = 0
				}
				got, e := Begin(by, c, groups)
				tells(t, fmt.Sprintf("Begin(%v, %+v, %v)", by, c, groups), got, e, want, api.OK)
			}
		}
	}
}

// Tx1: what a record may not begin with.
func TestBeginWrong(t *testing.T) {
	begins := func(by api.Id, c api.Call, groups []int) {
		t.Helper()
		got, e := Begin(by, c, groups)
		tells(t, fmt.Sprintf("Begin(%v, %+v, %v)", by, c, groups), got, e, none, api.ErrArg)
	}
	calls := []api.Call{acquire(5, "a"), release(5, "a"), renew(5, 5, "a")}
	for _, c := range calls {
		for _, by := range []api.Id{{}, id(0, 0), id(-1, 1), id(8, 1), id(math.MinInt, 1), id(math.MaxInt, 1), id(1<<32, 1), id(7, 0)} {
			begins(by, c, []int{1})
		}
		for _, groups := range [][]int{nil, {}, {0}, {17}, {-1}, {0, 1}, {16, 17}, {1, 1}, {2, 1}, {1, 3, 2}, {1, 2, 2}, upTo(17), append(upTo(16), 1), {math.MinInt}, {math.MaxInt}, {1 << 32}} {
			begins(id(1, 1), c, groups)
		}
		for _, keys := range [][]string{nil, {}, {tooLong}, {"a", "a"}, {"b", "a"}, {"", ""}, {"a", "c", "b"}, keysOf(17)} {
			c.Keys = keys
			begins(id(1, 1), c, []int{1})
		}
	}
	for _, ttl := range []int{-1, 0, 1, long + 1, math.MinInt, math.MaxInt, 1 << 32} {
		for _, c := range calls {
			if c.Ttl = ttl; ttl == 1 && c.Kind != api.CallRelease || ttl == 0 && c.Kind == api.CallRelease {
				continue
			}
			begins(id(1, 1), c, []int{1})
		}
	}
	for _, kind := range []int{-1, 0, api.CallInspect, api.CallKinds, math.MinInt, math.MaxInt} {
		for _, c := range calls {
			c.Kind = kind
			begins(id(1, 1), c, []int{1})
			c.Token, c.Ttl = 0, 0
			begins(id(1, 1), c, []int{1})
		}
	}
	begins(id(1, 1), release(0, "a"), []int{1})
	begins(id(1, 1), renew(0, 5, "a"), []int{1})
	begins(id(1, 1), api.Call{}, nil)
}

// Tx1: an acquire gets its token once, as long as nothing is decided; it is to commit, if all said yes ahead of that.
func TestToken(t *testing.T) {
	three := []int{2, 4, 9}
	for _, c := range []struct {
		x     api.Txn
		token uint64
		want  api.Txn
		code  api.Errno
	}{
		{in(api.TxnOpen, 0, 0, nil, nil), 5, in(api.TxnOpen, 5, 0, nil, nil), api.OK}, {in(api.TxnOpen, 0, 0, []int{4}, nil), 1, in(api.TxnOpen, 1, 0, []int{4}, nil), api.OK},
		{in(api.TxnOpen, 0, 0, []int{2, 9}, nil), last, in(api.TxnOpen, last, 0, []int{2, 9}, nil), api.OK}, {in(api.TxnOpen, 0, 0, three, nil), 7, in(api.TxnCommit, 7, 0, three, nil), api.OK},
		{in(api.TxnOpen, 0, 0, nil, nil), 0, none, api.ErrArg}, {in(api.TxnOpen, 0, 0, three, nil), 0, none, api.ErrArg}, {some(), 0, none, api.ErrArg},
		{some(), 5, none, api.ErrSame}, {some(), 6, none, api.ErrSame}, {in(api.TxnOpen, last, 0, nil, nil), 1, none, api.ErrSame},
		{in(api.TxnCommit, 5, 0, three, nil), 5, none, api.ErrOld}, {in(api.TxnCommit, 5, 0, three, nil), 0, none, api.ErrOld}, {in(api.TxnAbort, 0, 8, nil, nil), 5, none, api.ErrOld},
		{in(api.TxnAbort, 0, 8, three, nil), 5, none, api.ErrOld}, {in(api.TxnAbort, 0, 8, nil, nil), 0, none, api.ErrOld}, {in(api.TxnAbort, 5, 8, nil, []int{2}), 6, none, api.ErrOld},
		{in(api.TxnClosed, 5, 0, three, three), 5, none, api.ErrOld}, {in(api.TxnClosed, 0, 8, nil, three), 5, none, api.ErrOld}, {in(api.TxnClosed, 0, 8, nil, three), 0, none, api.ErrOld},
	} {
		got, e := Token(c.x, c.token)
		tells(t, fmt.Sprintf("Token(%+v, %d)", c.x, c.token), got, e, c.want, c.code)
	}
	// Releases and renews have theirs from the beginning on.
	for _, c := range []api.Call{release(8, "a"), renew(8, 9, "a")} {
		x, _ := Begin(id(1, 1), c, []int{1, 2})
		for token, code := range map[uint64]api.Errno{0: api.ErrArg, 8: api.ErrSame, 9: api.ErrSame} {
			got, e := Token(x, token)
			tells(t, fmt.Sprintf("Token(%+v, %d)", x, token), got, e, none, code)
		}
	}
}

// Tx1: groups say yes, once each, or no; the first no decides, also of one that said yes, and the last yes, if there is a
// token.
func TestVoted(t *testing.T) {
	three := []int{2, 4, 9}
	for _, c := range []struct {
		x     api.Txn
		group int
		code  api.Errno
		want  api.Txn
		e     api.Errno
	}{
		{some(), 2, 0, in(api.TxnOpen, 5, 0, []int{2, 4}, nil), api.OK}, {some(), 9, 0, in(api.TxnOpen, 5, 0, []int{4, 9}, nil), api.OK}, {some(), 4, 0, none, api.ErrSame},
		{in(api.TxnOpen, 5, 0, nil, nil), 4, 0, some(), api.OK}, {in(api.TxnOpen, 0, 0, nil, nil), 9, 0, in(api.TxnOpen, 0, 0, []int{9}, nil), api.OK},
		{in(api.TxnOpen, 5, 0, []int{2, 9}, nil), 4, 0, in(api.TxnCommit, 5, 0, three, nil), api.OK}, {in(api.TxnOpen, 5, 0, []int{4, 9}, nil), 2, 0, in(api.TxnCommit, 5, 0, three, nil), api.OK},
		{in(api.TxnOpen, 5, 0, []int{2, 4}, nil), 9, 0, in(api.TxnCommit, 5, 0, three, nil), api.OK}, {in(api.TxnOpen, last, 0, []int{2, 4}, nil), 9, 0, in(api.TxnCommit, last, 0, three, nil), api.OK},
		{in(api.TxnOpen, 0, 0, []int{2, 4}, nil), 9, 0, in(api.TxnOpen, 0, 0, three, nil), api.OK}, {in(api.TxnOpen, 0, 0, three, nil), 9, 0, none, api.ErrSame},
		{some(), 2, 8, in(api.TxnAbort, 5, 8, []int{4}, nil), api.OK}, {some(), 4, 8, in(api.TxnAbort, 5, 8, []int{4}, nil), api.OK}, {some(), 9, -1, in(api.TxnAbort, 5, -1, []int{4}, nil), api.OK},
		{in(api.TxnOpen, 5, 0, []int{2, 9}, nil), 4, 9, in(api.TxnAbort, 5, 9, []int{2, 9}, nil), api.OK}, {in(api.TxnOpen, 0, 0, nil, nil), 2, 1, in(api.TxnAbort, 0, 1, nil, nil), api.OK},
		{in(api.TxnOpen, 0, 0, three, nil), 2, 12, in(api.TxnAbort, 0, 12, three, nil), api.OK}, {in(api.TxnOpen, 0, 0, nil, nil), 2, math.MaxInt, in(api.TxnAbort, 0, math.MaxInt, nil, nil), api.OK},
		{in(api.TxnOpen, 0, 0, nil, nil), 2, math.MinInt, in(api.TxnAbort, 0, math.MinInt, nil, nil), api.OK},
	} {
		got, e := Voted(c.x, c.group, c.code)
		tells(t, fmt.Sprintf("Voted(%+v, %d, %d)", c.x, c.group, c.code), got, e, c.want, c.e)
	}
	for _, code := range []api.Errno{0, 8, -1} {
		for _, x := range right() {
			for _, group := range []int{0, -1, 17, -4, 4 + 1<<32, math.MaxInt, math.MinInt} {
				got, e := Voted(x, group, code)
				tells(t, fmt.Sprintf("Voted(%+v, %d, %d)", x, group, code), got, e, none, api.ErrNone)
			}
		}
		for _, group := range []int{1, 3, 5, 8, 10, 16} {
			got, e := Voted(some(), group, code)
			tells(t, fmt.Sprint("Voted of ", group), got, e, none, api.ErrNone)
		}
		for _, x := range []api.Txn{
			in(api.TxnCommit, 5, 0, three, nil), in(api.TxnCommit, 5, 0, three, []int{2}), in(api.TxnAbort, 5, 8, nil, nil), in(api.TxnAbort, 0, 8, three, []int{2}), in(api.TxnClosed, 5, 0, three, three), in(api.TxnClosed, 0, 8, nil, three),
		} {
			for _, group := range three {
				got, e := Voted(x, group, code)
				tells(t, fmt.Sprintf("Voted(%+v, %d, %d)", x, group, code), got, e, none, api.ErrOld)
			}
			got, e := Voted(x, 3, code)
			tells(t, fmt.Sprintf("Voted(%+v, 3, %d)", x, code), got, e, none, api.ErrNone)
		}
	}
}

// Tx1: one group alone decides.
func TestVotedAlone(t *testing.T) {
	x, _ := Begin(id(1, 1), release(8, "a"), []int{7})
	got, e := Voted(x, 7, api.OK)
	tells(t, "Voted yes", got, e, api.Txn{Id: id(1, 1), Kind: 2, Keys: []string{"a"}, Token: 8, Groups: []int{7}, State: 2, Yes: []int{7}}, api.OK)
	got, e = Voted(x, 7, api.ErrNone)
	tells(t, "Voted no", got, e, api.Txn{Id: id(1, 1), Kind: 2, Keys: []string{"a"}, Token: 8, Groups: []int{7}, State: 3, Code: 4}, api.OK)
}

// Tx2: groups are done, once each, behind the decision; behind the last one the record is closed.
func TestApplied(t *testing.T) {
	three := []int{2, 4, 9}
	for _, c := range []struct {
		x     api.Txn
		group int
		want  api.Txn
		code  api.Errno
	}{
		{in(api.TxnCommit, 5, 0, three, nil), 4, in(api.TxnCommit, 5, 0, three, []int{4}), api.OK}, {in(api.TxnCommit, 5, 0, three, []int{4}), 2, in(api.TxnCommit, 5, 0, three, []int{2, 4}), api.OK},
		{in(api.TxnCommit, 5, 0, three, []int{4}), 9, in(api.TxnCommit, 5, 0, three, []int{4, 9}), api.OK}, {in(api.TxnCommit, 5, 0, three, []int{2, 9}), 4, in(api.TxnClosed, 5, 0, three, three), api.OK},
		{in(api.TxnCommit, 5, 0, three, []int{2, 4}), 9, in(api.TxnClosed, 5, 0, three, three), api.OK}, {in(api.TxnCommit, 5, 0, three, []int{4, 9}), 2, in(api.TxnClosed, 5, 0, three, three), api.OK},
		{in(api.TxnAbort, 5, 8, []int{4}, nil), 4, in(api.TxnAbort, 5, 8, []int{4}, []int{4}), api.OK}, {in(api.TxnAbort, 0, 8, nil, []int{2, 9}), 4, in(api.TxnClosed, 0, 8, nil, three), api.OK},
		{in(api.TxnAbort, 5, -7, three, []int{2, 4}), 9, in(api.TxnClosed, 5, -7, three, three), api.OK},
		{in(api.TxnCommit, 5, 0, three, []int{4}), 4, none, api.ErrSame}, {in(api.TxnAbort, 0, 8, nil, []int{2, 9}), 9, none, api.ErrSame}, {in(api.TxnAbort, 0, 8, nil, []int{2, 9}), 2, none, api.ErrSame},
	} {
		got, e := Applied(c.x, c.group)
		tells(t, fmt.Sprintf("Applied(%+v, %d)", c.x, c.group), got, e, c.want, c.code)
	}
	for _, x := range right() {
		for _, group := range []int{0, -1, 17, math.MaxInt, math.MinInt, 4 + 1<<32} {
			got, e := Applied(x, group)
			tells(t, fmt.Sprintf("Applied(%+v, %d)", x, group), got, e, none, api.ErrNone)
		}
		if x.State == api.TxnOpen || x.State == api.TxnClosed {
			for _, group := range x.Groups {
				got, e := Applied(x, group)
				tells(t, fmt.Sprintf("Applied(%+v, %d)", x, group), got, e, none, api.ErrOld)
			}
		}
	}
	for _, group := range []int{1, 3, 5, 8, 10, 16} {
		got, e := Applied(in(api.TxnCommit, 5, 0, three, nil), group)
		tells(t, fmt.Sprint("Applied of ", group), got, e, none, api.ErrNone)
	}
}

// Tx2: who is to be asked, and told: those that did not say yes, of an open record with a token; those that are not done,
// of a decided one.
func TestAskTell(t *testing.T) {
	three := []int{2, 4, 9}
	for _, c := range []struct {
		x         api.Txn
		ask, tell []int
	}{
		{some(), []int{2, 9}, nil}, {in(api.TxnOpen, 5, 0, nil, nil), three, nil}, {in(api.TxnOpen, 5, 0, []int{2, 4}, nil), []int{9}, nil}, {in(api.TxnOpen, 1, 0, []int{2, 9}, nil), []int{4}, nil},
		{in(api.TxnOpen, 0, 0, nil, nil), nil, nil}, {in(api.TxnOpen, 0, 0, []int{4}, nil), nil, nil}, {in(api.TxnOpen, 0, 0, three, nil), nil, nil},
		{in(api.TxnCommit, 5, 0, three, nil), nil, three}, {in(api.TxnCommit, 5, 0, three, []int{2}), nil, []int{4, 9}}, {in(api.TxnCommit, 5, 0, three, []int{4, 9}), nil, []int{2}},
		{in(api.TxnAbort, 0, 8, nil, nil), nil, three}, {in(api.TxnAbort, 5, 8, []int{4}, []int{4}), nil, []int{2, 9}}, {in(api.TxnAbort, 5, 8, []int{2}, []int{2, 4}), nil, []int{9}},
		{in(api.TxnClosed, 5, 0, three, three), nil, nil}, {in(api.TxnClosed, 0, 8, nil, three), nil, nil},
	} {
		if l := Ask(c.x); !slices.Equal(l, c.ask) {
			t.Errorf("Ask(%+v): %v, not %v", c.x, l, c.ask)
		}
		if l := Tell(c.x); !slices.Equal(l, c.tell) {
			t.Errorf("Tell(%+v): %v, not %v", c.x, l, c.tell)
		}
	}
}

// Tx2: what came of it: the code; and the token of an acquire that is to commit, alone.
func TestReply(t *testing.T) {
	three := []int{2, 4, 9}
	for _, c := range []struct {
		x     api.Txn
		kind  int
		reply api.Reply
		ok    bool
	}{
		{in(api.TxnCommit, 5, 0, three, nil), 1, api.Reply{Token: 5}, true}, {in(api.TxnCommit, last, 0, three, []int{2}), 1, api.Reply{Token: last}, true}, {in(api.TxnClosed, 5, 0, three, three), 1, api.Reply{Token: 5}, true},
		{in(api.TxnAbort, 5, 8, three, nil), 1, api.Reply{Code: 8}, true}, {in(api.TxnAbort, 0, -1, nil, nil), 1, api.Reply{Code: -1}, true}, {in(api.TxnClosed, 5, 9, nil, three), 1, api.Reply{Code: 9}, true},
		{in(api.TxnCommit, 5, 0, three, nil), 2, api.Reply{}, true}, {in(api.TxnClosed, 5, 0, three, three), 2, api.Reply{}, true}, {in(api.TxnAbort, 5, 4, nil, nil), 2, api.Reply{Code: 4}, true},
		{in(api.TxnCommit, 5, 0, three, nil), 3, api.Reply{}, true}, {in(api.TxnClosed, 5, 0, three, three), 3, api.Reply{}, true}, {in(api.TxnClosed, 5, 4, three, three), 3, api.Reply{Code: 4}, true},
		{some(), 1, api.Reply{}, false}, {some(), 2, api.Reply{}, false}, {some(), 3, api.Reply{}, false}, {in(api.TxnOpen, 0, 0, three, nil), 1, api.Reply{}, false},
	} {
		x := c.x
		if x.Kind = c.kind; c.kind == api.CallRelease {
			x.Ttl = 0
		}
		if r, ok := Reply(x); !reflect.DeepEqual(r, c.reply) || ok != c.ok {
			t.Errorf("Reply(%+v): %+v, %v", x, r, ok)
		}
	}
}

// Tx2: what is to be prepared may be, and has a token unless it is an acquire.
func TestCall(t *testing.T) {
	for _, x := range right() {
		c := Call(x)
		is(t, fmt.Sprintf("CheckCall(%+v)", c), table.CheckCall(c), api.OK)
		want := api.Call{Kind: x.Kind, Keys: x.Keys, Ttl: x.Ttl, Token: x.Token}
		if x.Kind == api.CallAcquire {
			want.Token = 0
		}
		if !reflect.DeepEqual(c, want) {
			t.Errorf("Call(%+v): %+v", x, c)
		}
		if x.Yes == nil && x.State == api.TxnOpen && (x.Token == 0 || x.Kind != api.CallAcquire) {
			got, e := Begin(x.Id, c, x.Groups)
			tells(t, "Begin of Call", got, e, x, api.OK)
		}
	}
	// Of a record that may not be it is what it has.
	for _, x := range wrong() {
		if c := Call(x); c.Kind != x.Kind || !slices.Equal(c.Keys, x.Keys) || c.Ttl != x.Ttl || c.Token != x.Token && x.Kind != api.CallAcquire {
			t.Errorf("Call(%+v): %+v", x, c)
		}
	}
}

// Records are alike, if they are in all.
func TestSame(t *testing.T) {
	l := append(right(), wrong()...)
	for i, a := range l {
		for j, b := range l {
			if got, want := Same(a, b), alike(a, b); got != want {
				t.Errorf("Same of %d, %d: %v (%+v, %+v)", i, j, got, a, b)
			}
		}
	}
	if !Same(none, api.Txn{Keys: []string{}, Groups: []int{}, Yes: []int{}, Done: []int{}}) {
		t.Error("Same: nil and the empty list are not the same")
	}
	for i, turn := range []func(x *api.Txn){
		func(x *api.Txn) { x.Id.Client++ },
		func(x *api.Txn) { x.Id.Seq++ },
		func(x *api.Txn) { x.Kind++ },
		func(x *api.Txn) { x.Keys[1] = "bb" },
		func(x *api.Txn) { x.Keys = x.Keys[:1] },
		func(x *api.Txn) { x.Token++ },
		func(x *api.Txn) { x.Ttl++ },
		func(x *api.Txn) { x.Groups[2]++ },
		func(x *api.Txn) { x.Groups = append(x.Groups, 11) },
		func(x *api.Txn) { x.State++ },
		func(x *api.Txn) { x.Yes[0] = 2 },
		func(x *api.Txn) { x.Yes = nil },
		func(x *api.Txn) { x.Done = []int{2} },
		func(x *api.Txn) { x.Code++ },
	} {
		if x := but(turn); Same(x, some()) || Same(some(), x) || !Same(x, x) {
			t.Errorf("Same: %d, %+v", i, x)
		}
	}
}

// The chapter's example.
func TestExample(t *testing.T) {
	x, e := Begin(id(1, 1), acquire(9, "a"), []int{1, 2})
	is(t, "Begin", e, api.OK)
	x, e = Token(x, 5)
	is(t, "Token", e, api.OK)
	x, e = Voted(x, 1, api.OK)
	is(t, "Voted 1", e, api.OK)
	x, e = Voted(x, 2, api.OK)
	if e != api.OK || x.State != api.TxnCommit {
		t.Errorf("Voted 2: state %d, error %d", x.State, e)
	}
	x, e = Applied(x, 1)
	is(t, "Applied 1", e, api.OK)
	x, e = Applied(x, 2)
	if e != api.OK || x.State != api.TxnClosed {
		t.Errorf("Applied 2: state %d, error %d", x.State, e)
	}
}

// roomy is a copy of a list, with spare room behind it that is not empty.
func roomy[T any](l []T, behind T) []T {
	return append(slices.Clip(slices.Clone(l)), slices.Repeat([]T{behind}, 8)...)[:len(l)]
}

// spoil changes a list, and the room behind it.
func spoil[T any](l []T, by T) {
	l = l[:cap(l)]
	for i := range l {
		l[i] = by
	}
}

// roomyTxn is a copy of a record, whose lists have spare room.
func roomyTxn(x api.Txn) api.Txn {
	x.Keys, x.Groups, x.Yes, x.Done = roomy(x.Keys, "?"), roomy(x.Groups, 77), roomy(x.Yes, 77), roomy(x.Done, 77)
	return x
}

// whole is a record's lists with the room behind them, as a text.
func whole(x api.Txn) string {
	return fmt.Sprint(x.Keys[:cap(x.Keys)], x.Groups[:cap(x.Groups)], x.Yes[:cap(x.Yes)], x.Done[:cap(x.Done)])
}

// lists is an answer's lists of groups, and its keys.
type lists struct {
	groups [][]int
	keys   []string
}

// of is a record's.
func of(x api.Txn) lists {
	return lists{[][]int{x.Groups, x.Yes, x.Done}, x.Keys}
}

// R3: what is handed in is neither changed nor kept, and no two lists of answers share memory.
func TestMemory(t *testing.T) {
	three := []int{2, 4, 9}
	for name, c := range map[string]struct {
		x    api.Txn
		call func(x api.Txn) lists
	}{
		"Begin": {some(), func(x api.Txn) lists {
			x, _ = Begin(x.Id, api.Call{Kind: x.Kind, Keys: x.Keys, Ttl: x.Ttl}, x.Groups)
			return of(x)
		}},
		"Token":   {in(api.TxnOpen, 0, 0, []int{2}, nil), func(x api.Txn) lists { x, _ = Token(x, 5); return of(x) }},
		"commit":  {in(api.TxnOpen, 0, 0, three, nil), func(x api.Txn) lists { x, _ = Token(x, 5); return of(x) }},
		"yes":     {some(), func(x api.Txn) lists { x, _ = Voted(x, 2, api.OK); return of(x) }},
		"first":   {in(api.TxnOpen, 0, 0, nil, nil), func(x api.Txn) lists { x, _ = Voted(x, 2, api.OK); return of(x) }},
		"last":    {in(api.TxnOpen, 5, 0, []int{2, 4}, nil), func(x api.Txn) lists { x, _ = Voted(x, 9, api.OK); return of(x) }},
		"no":      {some(), func(x api.Txn) lists { x, _ = Voted(x, 2, api.ErrBusy); return of(x) }},
		"Applied": {in(api.TxnCommit, 5, 0, three, []int{4}), func(x api.Txn) lists { x, _ = Applied(x, 2); return of(x) }},
		"closed":  {in(api.TxnCommit, 5, 0, three, []int{4, 9}), func(x api.Txn) lists { x, _ = Applied(x, 2); return of(x) }},
		"Ask":     {some(), func(x api.Txn) lists { return lists{groups: [][]int{Ask(x)}} }},
		"Ask all": {in(api.TxnOpen, 5, 0, nil, nil), func(x api.Txn) lists { return lists{groups: [][]int{Ask(x)}} }},
		"Tell":    {in(api.TxnCommit, 5, 0, three, []int{2}), func(x api.Txn) lists { return lists{groups: [][]int{Tell(x)}} }},
		"Tell on": {in(api.TxnAbort, 5, 8, nil, nil), func(x api.Txn) lists { return lists{groups: [][]int{Tell(x)}} }},
		"Call":    {some(), func(x api.Txn) lists { return lists{keys: Call(x).Keys} }},
	} {
		want := fmt.Sprint(c.call(roomyTxn(c.x)))
		if len(want) < 8 {
			t.Fatalf("%s: nothing is told: %s", name, want)
		}
		given := roomyTxn(c.x)
		was := whole(given)
		first, second := c.call(given), c.call(given)
		if whole(given) != was {
			t.Errorf("%s changed what is handed in", name)
		}
		spoil(given.Keys, "!")
		spoil(given.Groups, -1)
		spoil(given.Yes, -1)
		spoil(given.Done, -1)
		if fmt.Sprint(first) != want || fmt.Sprint(second) != want {
			t.Errorf("%s: an answer shares the argument's memory", name)
		}
		spoiled := whole(given)
		for i, l := range first.groups {
			others := slices.Delete(slices.Clone(first.groups), i, i+1)
			stay := fmt.Sprint(others, first.keys)
			spoil(l, -2)
			if fmt.Sprint(others, first.keys) != stay {
				t.Errorf("%s: two lists of an answer share memory", name)
			}
		}
		spoil(first.keys, "-")
		if fmt.Sprint(second) != want || whole(given) != spoiled {
			t.Errorf("%s: an answer shares its memory", name)
		}
	}
}
