package raft

import (
	"bytes"
	"fmt"
	"math"
	"slices"
	"testing"

	"gudgeon/api"
)

const (
	top  = uint64(math.MaxUint64)
	high = uint64(1) << 62 // the greatest Term, and the greatest number of a message
)

// list is numbers.
func list(l ...int) []int {
	return l
}

// entry is one.
func entry(index, term uint64, kind int, data ...byte) api.Entry {
	return api.Entry{Index: index, Term: term, Kind: kind, Data: data}
}

// behind is entries of EntryOrder behind an index, of these terms.
func behind(index uint64, terms ...uint64) []api.Entry {
	var l []api.Entry
	for i, term := range terms {
		n := index + uint64(i) + 1
		l = append(l, entry(n, term, api.EntryOrder, byte(n), byte(term)))
	}
	return l
}

// many is so many entries of one term behind an index.
func many(index, term uint64, n int) []api.Entry {
	return behind(index, slices.Repeat([]uint64{term}, n)...)
}

// log is a log behind a base of the voters 1, 2 and 3, with entries of these terms.
func log(index, term uint64, terms ...uint64) api.Log {
	return api.Log{Base: entry(index, term, api.EntryNone, 1, 2, 3), L: behind(index, terms...)}
}

// follower is one of the voters 1, 2 and 3, behind a base of 0, with entries of these terms.
func follower(node int, term uint64, terms ...uint64) api.Raft {
	return api.Raft{Node: node, Term: term, Log: log(0, 0, terms...)}
}

// candidate is a follower that has asked, and was granted these votes.
func candidate(node int, term uint64, votes []int, terms ...uint64) api.Raft {
	r := follower(node, term, terms...)
	r.Role, r.Vote, r.Votes = api.Candidate, node, votes
	return r
}

// leader is a follower that leads; peers know of nothing but its own log.
func leader(node int, term uint64, terms ...uint64) api.Raft {
	r := follower(node, term, terms...)
	last := uint64(len(terms))
	r.Role, r.Vote, r.Leads = api.Leader, node, node
	for n := 1; n <= 3; n++ {
		p := api.Peer{Node: n, Next: last + 1}
		if n == node {
			p.Match = last
		}
		r.Peers = append(r.Peers, p)
	}
	return r
}

// with is a state that has been turned.
func with(r api.Raft, turn func(r *api.Raft)) api.Raft {
	r = deep(r)
	turn(&r)
	return r
}

// but is a message that has been turned.
func but(m api.Msg, turn func(m *api.Msg)) api.Msg {
	m.Entries = deepEntries(m.Entries)
	m.Snap.Data = bytes.Clone(m.Snap.Data)
	turn(&m)
	return m
}

// deep is a state of its own memory.
func deep(r api.Raft) api.Raft {
	r.Votes, r.Peers, r.Log.L = slices.Clone(r.Votes), slices.Clone(r.Peers), deepEntries(r.Log.L)
	r.Log.Base.Data = bytes.Clone(r.Log.Base.Data)
	return r
}

// deepEntries is entries of their own memory.
func deepEntries(l []api.Entry) []api.Entry {
	l = slices.Clone(l)
	for i := range l {
		l[i].Data = bytes.Clone(l[i].Data)
	}
	return l
}

// text is anything as a text, in which nil and empty lists are alike.
func text(l ...any) string {
	return fmt.Sprintf("%+v", l)
}

// brief is a text's beginning.
func brief(s string) string {
	if len(s) > 1200 {
		return s[:1200] + ".."
	}
	return s
}

// equal tells whether texts are alike.
func equal(t *testing.T, what, got, want string) {
	t.Helper()
	if got != want {
		t.Errorf("%s:\n%s, not\n%s", brief(what), brief(got), brief(want))
	}
}

// is tells whether a state may be.
func is(t *testing.T, what string, r api.Raft, want api.Errno) {
	t.Helper()
	if e := Check(r); e != want {
		t.Errorf("%s: Check(%s): error %d, not %d", what, brief(text(r)), e, want)
	}
}

// isMsg tells whether a message may be.
func isMsg(t *testing.T, what string, m api.Msg, want api.Errno) {
	t.Helper()
	if e := CheckMsg(m); e != want {
		t.Errorf("%s: CheckMsg(%s): error %d, not %d", what, brief(text(m)), e, want)
	}
}

// badNodes is numbers that no node has.
func badNodes() []int {
	return []int{-1, 8, 9, 255, 256, 257, 1 << 32, 1<<32 + 1, math.MaxInt, math.MinInt, math.MinInt + 1}
}

// badVoters is bytes that are no voters.
func badVoters() [][]byte {
	return [][]byte{nil, {}, {0}, {8}, {255}, {1, 1}, {2, 1}, {0, 1, 2}, {1, 2, 8}, {1, 2, 3, 4, 5, 6, 7, 8}, make([]byte, 4096)}
}

// right is states that may be.
func right() []api.Raft {
	l := []api.Raft{
		follower(1, 0), follower(7, 0), follower(2, 3, 1, 1, 3), follower(2, high, high), {Node: 4, Term: 5, Log: log(7, 5), Commit: 7},
		{Node: 4, Term: 5, Log: log(7, 5, 5, 5), Commit: 8}, {Node: 4, Term: 5, Log: log(high, 5, 5), Commit: high + 1},
		{Node: 4, Term: 5, Log: api.Log{Base: entry(0, 0, 0, 1), L: many(0, 5, 4096)}, Commit: 4096},
		candidate(2, 3, list(2)), candidate(2, 3, nil, 1, 3), candidate(2, 3, list(1, 2, 3, 4, 5, 6, 7)), candidate(2, 3, list(1, 7)),
		leader(1, 4), leader(2, 4, 1, 4), leader(3, high, high), leader(5, 4, 4, 4), leader(3, 0),
		with(leader(1, 4, 4, 4), func(r *api.Raft) { r.Commit = 2 }),
		with(leader(1, 4, 4, 4), func(r *api.Raft) {
			r.Peers[1], r.Peers[2] = api.Peer{Node: 2, Next: 1}, api.Peer{Node: 3, Next: 2, Match: 1}
		}),
		{Node: 1, Term: 4, Role: api.Leader, Log: log(high, 4), Commit: high, Peers: []api.Peer{{Node: 1, Next: high + 1, Match: high}, {Node: 2, Next: 1}, {Node: 3, Next: high}}},
		with(leader(1, 4, 4), func(r *api.Raft) { // its voters are its log's last ones
			r.Log.L[0] = entry(1, 4, api.EntryConfig, 2, 6)
			r.Peers = []api.Peer{{Node: 2, Next: 1}, {Node: 6, Next: 2, Match: 1}}
		}),
	}
	for n := range 8 {
		for _, r := range []api.Raft{follower(2, 1), candidate(2, 1, list(2)), leader(2, 1)} {
			l = append(l, with(r, func(r *api.Raft) { r.Vote = n }), with(r, func(r *api.Raft) { r.Leads = n }))
		}
	}
	for _, n := range []int{1, 10, 11, 24, 25, 999, 1000} {
		l = append(l, with(follower(2, 1), func(r *api.Raft) { r.Elapsed = n }), with(leader(2, 1), func(r *api.Raft) { r.Elapsed = n }))
	}
	return l
}

// wrongAnywhere is states of each role that may not be, whatever their role.
func wrongAnywhere() []api.Raft {
	var turns []func(r *api.Raft)
	for _, n := range badNodes() {
		turns = append(turns, func(r *api.Raft) { r.Node = n }, func(r *api.Raft) { r.Vote = n }, func(r *api.Raft) { r.Leads = n }, func(r *api.Raft) { r.Role = n })
	}
	for _, n := range []int{-1, 1001, math.MaxInt, math.MinInt, 1 << 32} {
		turns = append(turns, func(r *api.Raft) { r.Elapsed = n })
	}
	for _, b := range badVoters() {
		turns = append(turns, func(r *api.Raft) { r.Log.Base.Data = b }, func(r *api.Raft) { r.Log.L[1].Kind, r.Log.L[1].Data = api.EntryConfig, b })
	}
	turns = append(turns,
		func(r *api.Raft) { r.Node = 0 }, func(r *api.Raft) { r.Role = api.Roles }, func(r *api.Raft) { r.Role = 4 },
		func(r *api.Raft) { r.Term = high + 1 }, func(r *api.Raft) { r.Term = top }, func(r *api.Raft) { r.Term = 1 << 63 }, func(r *api.Raft) { r.Term = 2 },
		func(r *api.Raft) { r.Commit = 4 }, func(r *api.Raft) { r.Commit = top }, func(r *api.Raft) { r.Commit = 1 << 63 },
		func(r *api.Raft) { r.Log.L[2].Term = 6 }, func(r *api.Raft) { r.Log.L[1].Index = 3 }, func(r *api.Raft) { r.Log.L[0].Kind = 3 },
		func(r *api.Raft) { r.Log.L[0].Data = make([]byte, 4097) }, func(r *api.Raft) { r.Log.Base.Kind = api.EntryOrder }, func(r *api.Raft) { r.Log.Base.Index = 1 },
		func(r *api.Raft) { r.Log.Base.Term = 2 }, func(r *api.Raft) { r.Log.L = many(0, 5, 4097) }, func(r *api.Raft) { *r = api.Raft{} },
		func(r *api.Raft) { r.Log = log(5, 5, 5); r.Commit = 4 }, func(r *api.Raft) { r.Log = log(5, 5); r.Commit = 0 }, func(r *api.Raft) { r.Log = log(5, 5); r.Commit = 6 },
		func(r *api.Raft) { r.Log = log(high+1, 5); r.Commit = high + 1 }, func(r *api.Raft) { r.Log = log(5, 6); r.Commit = 5 },
	)
	var l []api.Raft
	for _, turn := range turns {
		for _, r := range []api.Raft{follower(2, 5, 1, 5, 5), candidate(2, 5, list(2), 1, 5, 5), leader(2, 5, 1, 5, 5)} {
			l = append(l, with(r, turn))
		}
	}
	return l
}

// wrongByRole is states that have what their role has not.
func wrongByRole() []api.Raft {
	var l []api.Raft
	for _, votes := range [][]int{{0}, {8}, {-1}, {1, 1}, {2, 1}, {1, 3, 2}, {1, 2, 8}, {0, 1}, {1, 2, 3, 4, 5, 6, 7, 7}, make([]int, 100), {1<<32 + 1}} {
		l = append(l, candidate(2, 5, votes))
	}
	peers := leader(2, 5, 1, 5, 5).Peers
	l = append(l, with(follower(2, 5), func(r *api.Raft) { r.Votes = list(2) }), with(follower(2, 5, 1, 5, 5), func(r *api.Raft) { r.Peers = peers }),
		with(candidate(2, 5, list(2), 1, 5, 5), func(r *api.Raft) { r.Peers = peers }), with(leader(2, 5), func(r *api.Raft) { r.Votes = list(2) }))
	for _, turn := range []func(p []api.Peer) []api.Peer{
		func(p []api.Peer) []api.Peer { return nil }, func(p []api.Peer) []api.Peer { return p[:2] }, func(p []api.Peer) []api.Peer { return p[1:] },
		func(p []api.Peer) []api.Peer { return append(p, api.Peer{Node: 4, Next: 1}) }, func(p []api.Peer) []api.Peer { return append(p, p[2]) },
		func(p []api.Peer) []api.Peer { p[0], p[1] = p[1], p[0]; return p }, func(p []api.Peer) []api.Peer { p[2].Node = 4; return p },
		func(p []api.Peer) []api.Peer { p[0].Node = 0; return p }, func(p []api.Peer) []api.Peer { p[1].Node = 1; return p },
		func(p []api.Peer) []api.Peer { p[0].Next = 0; return p }, func(p []api.Peer) []api.Peer { p[0].Next = 5; return p },
		func(p []api.Peer) []api.Peer { p[0].Next = top; return p }, func(p []api.Peer) []api.Peer { p[2].Match = 4; return p },
		func(p []api.Peer) []api.Peer { p[2].Next, p[2].Match = 2, 2; return p }, func(p []api.Peer) []api.Peer { p[2].Next, p[2].Match = 2, 3; return p },
		func(p []api.Peer) []api.Peer { p[1].Match = top; return p }, func(p []api.Peer) []api.Peer { p[0].Next, p[0].Match = 5, 4; return p },
	} {
		l = append(l, with(leader(2, 5, 1, 5, 5), func(r *api.Raft) { r.Peers = turn(r.Peers) }))
	}
	return append(l, with(leader(2, 5, 5), func(r *api.Raft) { r.Log.L[0] = entry(1, 5, api.EntryConfig, 1, 2) }),
		with(leader(2, 5, 5), func(r *api.Raft) { r.Log.L[0] = entry(1, 5, api.EntryConfig, 1, 2, 3, 4) }))
}

// Ra1: which states may be.
func TestCheck(t *testing.T) {
	for _, r := range right() {
		is(t, "right", r, api.OK)
	}
	for _, r := range append(wrongAnywhere(), wrongByRole()...) {
		is(t, "wrong", r, api.ErrArg)
	}
	is(t, "empty lists", api.Raft{Node: 1, Log: api.Log{Base: entry(0, 0, 0, 1), L: []api.Entry{}}, Votes: list(), Peers: []api.Peer{}}, api.OK)
}

// Ra1: what all tell of a state that may not be.
func TestWrongStates(t *testing.T) {
	m := api.Msg{Kind: api.MsgAdd, From: 1, To: 2, Term: 5}
	none := text(api.Raft{}, []api.Msg(nil), 0, api.ErrArg)
	for _, r := range append(wrongAnywhere(), wrongByRole()...) {
		what := text(r)
		a, sent, e := Tick(r)
		equal(t, "Tick: "+what, text(a, sent, 0, e), none)
		m.To = r.Node
		a, sent, e = Step(r, m)
		equal(t, "Step: "+what, text(a, sent, 0, e), none)
		for kind := range api.EntryKinds {
			a, sent, index, e := Propose(r, kind, []byte{1, 2, 3})
			equal(t, "Propose: "+what, text(a, sent, index, e), none)
		}
		for _, index := range []uint64{0, 1, r.Commit, r.Log.Base.Index + 1, top} {
			a, e = Compact(r, index)
			equal(t, "Compact: "+what, text(a, sent, 0, e), none)
		}
		a, e = Restart(r)
		equal(t, "Restart: "+what, text(a, sent, 0, e), none)
	}
}

// rightMsgs is messages that may be.
func rightMsgs() []api.Msg {
	full := but(api.Msg{Kind: api.MsgAdd, From: 1, To: 2, Term: 5, Index: 3, Prev: 2, Commit: 3}, func(m *api.Msg) { m.Entries = many(3, 5, 16) })
	l := []api.Msg{
		full, but(full, func(m *api.Msg) { m.Entries = nil }), but(full, func(m *api.Msg) { m.Entries = behind(3, 2, 2, 4, 5) }), but(full, func(m *api.Msg) { m.Prev = 5 }),
		but(full, func(m *api.Msg) { m.Entries[2] = entry(6, 5, api.EntryConfig, 3, 7) }), but(full, func(m *api.Msg) { m.Entries[0].Data = make([]byte, 4096) }),
		but(full, func(m *api.Msg) { m.Entries[0] = entry(4, 5, api.EntryNone) }),
		{Kind: api.MsgAdd, From: 7, To: 1, Term: high, Index: high, Prev: high, Commit: high, Match: high, Ok: true, Entries: many(high, high, 16)},
		{Kind: api.MsgAdd, From: 1, To: 7, Term: 1}, {Kind: api.MsgAsk, From: 1, To: 2, Term: 1, Index: high, Prev: top}, {Kind: api.MsgAsk, From: 1, To: 2, Term: 3, Prev: 4},
		{Kind: api.MsgVote, From: 1, To: 2, Term: 1, Ok: true}, {Kind: api.MsgAdded, From: 1, To: 2, Term: 1, Match: high, Ok: true},
		{Kind: api.MsgSnap, From: 1, To: 2, Term: 5, Snap: entry(9, 5, 0, 1, 2)}, {Kind: api.MsgSnap, From: 1, To: 2, Term: 5, Snap: entry(0, 0, 0, 7)},
		{Kind: api.MsgSnap, From: 1, To: 2, Term: 5, Snap: entry(high, 0, 0, 1, 2, 3, 4, 5, 6, 7)}, {Kind: api.MsgAdded, From: 1, To: 2, Term: 1, Snap: entry(0, 0, 0, []byte{}...)},
	}
	for kind := 1; kind < 6; kind++ { // whatever a message is, it may have entries and numbers
		m := but(full, func(m *api.Msg) { m.Kind, m.Match, m.Ok = kind, 9, true })
		if kind == api.MsgSnap {
			m.Snap = entry(3, 2, 0, 1)
		}
		l = append(l, m)
	}
	return l
}

// wrongMsgs is messages that may not be.
func wrongMsgs() []api.Msg {
	var turns []func(m *api.Msg)
	for _, n := range append(badNodes(), 0) {
		turns = append(turns, func(m *api.Msg) { m.From = n }, func(m *api.Msg) { m.To = n }, func(m *api.Msg) { m.From, m.To = n, n }, func(m *api.Msg) { m.Kind = n })
		if n > 2 || n < 0 {
			turns = append(turns, func(m *api.Msg) { m.Entries[1].Kind = n })
		}
	}
	for _, b := range badVoters() {
		turns = append(turns, func(m *api.Msg) { m.Entries[1].Kind, m.Entries[1].Data = api.EntryConfig, b })
		turns = append(turns, func(m *api.Msg) { m.Kind, m.Snap = api.MsgSnap, entry(3, 2, 0, b...) })
	}
	for _, n := range []uint64{high + 1, 1 << 63, top} {
		turns = append(turns, func(m *api.Msg) { m.Term = n }, func(m *api.Msg) { m.Commit = n }, func(m *api.Msg) { m.Match = n }, func(m *api.Msg) { m.Prev = n },
			func(m *api.Msg) { m.Index, m.Entries = n, behind(n, 5) }, func(m *api.Msg) { m.Index, m.Entries = n, nil },
			func(m *api.Msg) { m.Kind, m.Snap = api.MsgSnap, entry(n, 2, 0, 1) }, func(m *api.Msg) { m.Entries[2].Term = n })
	}
	turns = append(turns,
		func(m *api.Msg) { m.Kind = api.MsgKinds }, func(m *api.Msg) { m.From = 2 }, func(m *api.Msg) { m.To = 1 }, func(m *api.Msg) { m.Term = 0 }, func(m *api.Msg) { m.Term = 4 },
		func(m *api.Msg) { m.Entries, m.Prev = nil, 6 }, func(m *api.Msg) { m.Prev = 3 }, func(m *api.Msg) { m.Index = 4 }, func(m *api.Msg) { m.Index = 2 },
		func(m *api.Msg) { m.Entries = many(3, 5, 17) }, func(m *api.Msg) { m.Entries = many(3, 5, 5000) }, func(m *api.Msg) { m.Entries[1].Index = 4 },
		func(m *api.Msg) { m.Entries[2].Index = 7 }, func(m *api.Msg) { m.Entries[2].Term = 3 }, func(m *api.Msg) { m.Entries[2].Term = 6 },
		func(m *api.Msg) { m.Entries[0].Data = make([]byte, 4097) }, func(m *api.Msg) { m.Entries[0].Term = 1 },
		func(m *api.Msg) { m.Snap.Index = 1 }, func(m *api.Msg) { m.Snap.Term = 1 }, func(m *api.Msg) { m.Snap.Kind = 1 }, func(m *api.Msg) { m.Snap.Data = []byte{1} },
		func(m *api.Msg) { m.Kind = api.MsgSnap }, func(m *api.Msg) { m.Kind, m.Snap = api.MsgSnap, entry(3, 6, 0, 1) },
		func(m *api.Msg) { m.Kind, m.Snap = api.MsgSnap, entry(3, 2, 1, 1) }, func(m *api.Msg) { m.Kind, m.Snap = api.MsgSnap, entry(3, 2, 2, 1) },
		func(m *api.Msg) { *m = api.Msg{} }, func(m *api.Msg) { m.Kind, m.Index = api.MsgAsk, 4 }, func(m *api.Msg) { m.Kind, m.Prev = api.MsgAsk, 6 },
		func(m *api.Msg) { m.Kind, m.Entries, m.Index = api.MsgAsk, nil, high+1 }, func(m *api.Msg) { m.Kind, m.Snap = api.MsgAsk, entry(3, 2, 0, 1) },
		func(m *api.Msg) { m.Kind, m.Entries, m.Prev = api.MsgVote, nil, 6 }, func(m *api.Msg) { m.Kind, m.Entries, m.Prev = api.MsgAdded, nil, 6 },
		func(m *api.Msg) { m.Kind, m.Snap = api.MsgVote, entry(3, 2, 0, 1) }, func(m *api.Msg) { m.Kind, m.Snap = api.MsgAdded, entry(0, 0, 0, 1) },
	)
	good := api.Msg{Kind: api.MsgAdd, From: 1, To: 2, Term: 5, Index: 3, Prev: 2, Commit: 3, Entries: behind(3, 2, 4, 5)}
	var l []api.Msg
	for _, turn := range turns {
		l = append(l, but(good, turn))
	}
	return l
}

// Ra1: which messages may be.
func TestCheckMsg(t *testing.T) {
	for _, m := range rightMsgs() {
		isMsg(t, "right", m, api.OK)
	}
	for _, m := range wrongMsgs() {
		isMsg(t, "wrong", m, api.ErrArg)
	}
}

// Ra3: a message that may not be, or is not To Node, is refused, whoever it is sent to.
func TestWrongMsgs(t *testing.T) {
	none := text(api.Raft{}, []api.Msg(nil), api.ErrArg)
	for _, r := range []api.Raft{follower(2, 5, 1, 5), candidate(2, 5, list(2), 1, 5), leader(2, 5, 1, 5), follower(2, 9, 9), follower(2, 1, 1)} {
		for _, m := range wrongMsgs() {
			a, sent, e := Step(r, m)
			equal(t, "Step: "+text(m), text(a, sent, e), none)
		}
		for _, m := range rightMsgs() {
			for to := 1; to <= 7; to++ {
				m.To = to
				if to == 2 || to == m.From {
					continue
				}
				a, sent, e := Step(r, m)
				equal(t, "Step: "+text(m), text(a, sent, e), none)
			}
		}
	}
}

// Ra1: a follower of term 0 that has nothing.
func TestNew(t *testing.T) {
	for _, voters := range [][]int{{1}, {1, 2, 3}, {7}, {2, 5}, {1, 2, 3, 4, 5, 6, 7}} {
		for node := 1; node <= 7; node++ {
			r, e := New(node, voters)
			var data []byte
			for _, n := range voters {
				data = append(data, byte(n))
			}
			want := api.Raft{Node: node, Log: api.Log{Base: api.Entry{Data: data}}}
			equal(t, fmt.Sprintf("New(%d, %d)", node, voters), text(r, e), text(want, api.OK))
			is(t, "New", r, api.OK)
		}
		for _, node := range append(badNodes(), 0) {
			r, e := New(node, voters)
			equal(t, fmt.Sprintf("New(%d, %d)", node, voters), text(r, e), text(api.Raft{}, api.ErrArg))
		}
	}
	for _, voters := range [][]int{nil, {}, {0}, {8}, {-1}, {1, 1}, {2, 1}, {1, 2, 3, 4, 5, 6, 7, 8}, {257}, {1, 258}, {1<<32 + 1}, make([]int, 1000)} {
		r, e := New(1, voters)
		equal(t, fmt.Sprintf("New(1, %d)", voters), text(r, e), text(api.Raft{}, api.ErrArg))
	}
}

// Ra1: Restart keeps what the disk has, and nothing else.
func TestRestart(t *testing.T) {
	for _, r := range right() {
		r.Elapsed = 9
		want := api.Raft{Node: r.Node, Term: r.Term, Vote: r.Vote, Log: deep(r).Log, Commit: r.Commit}
		got, e := Restart(r)
		equal(t, "Restart: "+text(r), text(got, e), text(want, api.OK))
		is(t, "Restart", got, api.OK)
	}
}

// Ra1: a log is compacted up to what is committed; all else stays.
func TestCompact(t *testing.T) {
	some := func(r api.Raft) api.Raft {
		return with(r, func(r *api.Raft) { r.Log.L[1], r.Commit, r.Elapsed = entry(2, 3, api.EntryConfig, 1, 2), 3, 1 })
	}
	for _, r := range []api.Raft{
		some(follower(2, 5, 1, 3, 4, 5)), some(candidate(2, 5, list(2, 7), 1, 3, 4, 5)),
		with(some(leader(2, 5, 1, 3, 4, 5)), func(r *api.Raft) { r.Peers = []api.Peer{{Node: 1, Next: 1}, {Node: 2, Next: 5, Match: 4}} }),
	} {
		for _, c := range []struct {
			index, term uint64
			data        []byte
		}{{1, 1, []byte{1, 2, 3}}, {2, 3, []byte{1, 2}}, {3, 4, []byte{1, 2}}} {
			got, e := Compact(r, c.index)
			want := with(r, func(r *api.Raft) { r.Log = api.Log{Base: entry(c.index, c.term, 0, c.data...), L: r.Log.L[c.index:]} })
			equal(t, fmt.Sprintf("Compact(%s, %d)", text(r), c.index), text(got, e), text(want, api.OK))
			is(t, "Compact", got, api.OK)
			for index := range c.index + 1 {
				again, e := Compact(got, index)
				equal(t, "Compact again", text(again, e), text(api.Raft{}, api.ErrOld))
			}
		}
		for _, index := range []uint64{0, 4, 5, high, 1 << 63, top} {
			got, e := Compact(r, index)
			equal(t, fmt.Sprintf("Compact(%s, %d)", text(r), index), text(got, e), text(api.Raft{}, api.ErrOld))
		}
	}
}

// Ra1: states are the same if they are alike in all; nil and an empty list are.
func TestSame(t *testing.T) {
	r := with(leader(2, 5, 1, 3, 4), func(r *api.Raft) { r.Votes, r.Elapsed, r.Commit = list(1, 2), 1, 1 })
	turns := []func(r *api.Raft){
		func(r *api.Raft) { r.Node++ }, func(r *api.Raft) { r.Term++ }, func(r *api.Raft) { r.Vote++ }, func(r *api.Raft) { r.Commit++ }, func(r *api.Raft) { r.Role = 0 },
		func(r *api.Raft) { r.Leads = 0 }, func(r *api.Raft) { r.Elapsed++ }, func(r *api.Raft) { r.Votes = r.Votes[:1] }, func(r *api.Raft) { r.Votes[1]++ },
		func(r *api.Raft) { r.Votes = append(r.Votes, 3) }, func(r *api.Raft) { r.Peers = r.Peers[:2] }, func(r *api.Raft) { r.Peers = nil }, func(r *api.Raft) { r.Peers[2].Node++ },
		func(r *api.Raft) { r.Peers[2].Next++ }, func(r *api.Raft) { r.Peers[0].Match++ }, func(r *api.Raft) { r.Log.L = r.Log.L[:2] }, func(r *api.Raft) { r.Log.L[2].Data[0]++ },
		func(r *api.Raft) { r.Log.L[0].Term = 0 }, func(r *api.Raft) { r.Log.L[0].Kind = 0 }, func(r *api.Raft) { r.Log.L[0].Index = 0 }, func(r *api.Raft) { r.Log.Base.Index = 1 },
		func(r *api.Raft) { r.Log.Base.Term = 1 }, func(r *api.Raft) { r.Log.Base.Data[2] = 4 }, func(r *api.Raft) { r.Log.Base.Kind = 1 }, func(r *api.Raft) { *r = api.Raft{} },
	}
	if !Same(r, deep(r)) || !Same(api.Raft{}, api.Raft{}) {
		t.Error("alike, and not the same")
	}
	for i, turn := range turns {
		if other := with(r, turn); Same(r, other) || Same(other, r) || !Same(other, deep(other)) {
			t.Errorf("turn %d: Same(%s, %s)", i, text(r), text(other))
		}
	}
	for _, r := range right() {
		if !Same(r, deep(r)) {
			t.Errorf("not the same as itself: %s", text(r))
		}
	}
	empty := api.Raft{Votes: list(), Peers: []api.Peer{}, Log: api.Log{Base: api.Entry{Data: []byte{}}, L: []api.Entry{}}}
	if !Same(empty, api.Raft{}) || !Same(api.Raft{}, empty) {
		t.Error("nil and empty are not the same")
	}
}
