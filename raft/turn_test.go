package raft

import (
	"fmt"
	"slices"
	"testing"

	"gudgeon/api"
)

// ticks tells whether Tick tells that.
func ticks(t *testing.T, what string, r, want api.Raft, sent ...api.Msg) {
	t.Helper()
	got, out, e := Tick(r)
	equal(t, what+": Tick of "+text(r), text(got, out, e), text(want, sent, api.OK))
	is(t, what, got, api.OK)
}

// steps tells whether Step tells that.
func steps(t *testing.T, what string, r api.Raft, m api.Msg, want api.Raft, sent ...api.Msg) {
	t.Helper()
	got, out, e := Step(r, m)
	equal(t, what+": Step of "+text(r, m), text(got, out, e), text(want, sent, api.OK))
	is(t, what, got, api.OK)
}

// proposes tells whether Propose tells that.
func proposes(t *testing.T, what string, r api.Raft, kind int, data []byte, want api.Raft, index uint64, sent ...api.Msg) {
	t.Helper()
	got, out, n, e := Propose(r, kind, data)
	equal(t, what+": Propose of "+brief(text(r)), text(got, out, n, e), text(want, sent, index, api.OK))
	is(t, what, got, api.OK)
}

// refuses tells whether Propose tells that error, and nothing beside it.
func refuses(t *testing.T, what string, r api.Raft, kind int, data []byte, code api.Errno) {
	t.Helper()
	got, out, n, e := Propose(r, kind, data)
	equal(t, what+": Propose of "+brief(text(r)), text(got, out, n, e), text(api.Raft{}, []api.Msg(nil), 0, code))
}

// ask is a MsgAsk.
func ask(from, to int, term, index, prev uint64) api.Msg {
	return api.Msg{Kind: api.MsgAsk, From: from, To: to, Term: term, Index: index, Prev: prev}
}

// vote is a MsgVote.
func vote(from, to int, term uint64, ok bool) api.Msg {
	return api.Msg{Kind: api.MsgVote, From: from, To: to, Term: term, Ok: ok}
}

// add is a MsgAdd.
func add(from, to int, term, index, prev, commit uint64, entries ...api.Entry) api.Msg {
	return api.Msg{Kind: api.MsgAdd, From: from, To: to, Term: term, Index: index, Prev: prev, Commit: commit, Entries: entries}
}

// added is a MsgAdded.
func added(from, to int, term uint64, ok bool, match uint64) api.Msg {
	return api.Msg{Kind: api.MsgAdded, From: from, To: to, Term: term, Ok: ok, Match: match}
}

// snap is a MsgSnap as a leader tells it.
func snap(from, to int, term, commit uint64, base api.Entry) api.Msg {
	return api.Msg{Kind: api.MsgSnap, From: from, To: to, Term: term, Index: base.Index, Prev: base.Term, Commit: commit, Snap: base}
}

// behindTicks is a state, and all that it sends, behind so many ticks.
func behindTicks(t *testing.T, r api.Raft, n int) (api.Raft, []api.Msg) {
	t.Helper()
	var all []api.Msg
	for range n {
		next, sent, e := Tick(r)
		if e != api.OK {
			t.Fatalf("Tick(%s): error %d", text(r), e)
		}
		r, all = next, append(all, sent...)
	}
	return r, all
}

// Ra2: the chapter's example: one voter leads behind twelve ticks, and has committed.
func TestOneVoter(t *testing.T) {
	r, _ := New(1, list(1))
	r, sent := behindTicks(t, r, 11)
	equal(t, "eleven ticks", text(r, sent), text(api.Raft{Node: 1, Elapsed: 11, Log: api.Log{Base: entry(0, 0, 0, 1)}}, []api.Msg(nil)))
	r, sent = behindTicks(t, r, 1)
	want := api.Raft{Node: 1, Term: 1, Vote: 1, Log: api.Log{Base: entry(0, 0, 0, 1), L: []api.Entry{entry(1, 1, 0)}}, Commit: 1, Role: api.Leader, Leads: 1,
		Peers: []api.Peer{{Node: 1, Next: 2, Match: 1}}}
	equal(t, "twelve ticks", text(r, sent), text(want, []api.Msg(nil)))
}

// Ra2: any voter asks when Elapsed is 10 and twice its number, whatever it knows; a candidate again.
func TestTickAsks(t *testing.T) {
	for node := 1; node <= 7; node++ {
		r := api.Raft{Node: node, Term: 3, Vote: 2, Leads: 2, Log: log(0, 0, 1, 3), Commit: 1}
		r.Log.Base.Data = []byte{1, 2, 3, 4, 5, 6, 7}
		var asks, more []api.Msg
		for n := 1; n <= 7; n++ {
			if n != node {
				asks, more = append(asks, ask(node, n, 4, 2, 3)), append(more, ask(node, n, 5, 2, 3))
			}
		}
		wait := 10 + 2*node
		before, sent := behindTicks(t, r, wait-1)
		equal(t, "not yet", text(before, sent), text(with(r, func(r *api.Raft) { r.Elapsed = wait - 1 }), []api.Msg(nil)))
		want := with(r, func(r *api.Raft) {
			r.Term, r.Vote, r.Role, r.Leads, r.Elapsed, r.Votes = 4, node, api.Candidate, 0, 0, list(node)
		})
		ticks(t, "it asks", before, want, asks...)
		again := with(want, func(r *api.Raft) { r.Elapsed, r.Votes, r.Leads = wait-1, list(node%7+1), 5 })
		ticks(t, "it asks again", again, with(want, func(r *api.Raft) { r.Term = 5 }), more...)
	}
	// More than enough, too; and the last entry is the base, if there is no other one.
	late := api.Raft{Node: 3, Term: 9, Elapsed: 999, Log: log(6, 4), Commit: 6}
	want := with(late, func(r *api.Raft) { r.Term, r.Vote, r.Role, r.Elapsed, r.Votes = 10, 3, api.Candidate, 0, list(3) })
	ticks(t, "late", late, want, ask(3, 1, 10, 6, 4), ask(3, 2, 10, 6, 4))
	ticks(t, "later", with(late, func(r *api.Raft) { r.Elapsed = 1000 }), want, ask(3, 1, 10, 6, 4), ask(3, 2, 10, 6, 4))
	// The last term but one.
	end := with(follower(1, high-1), func(r *api.Raft) { r.Elapsed = 11 })
	want = candidate(1, high, list(1))
	ticks(t, "the last term", end, want, ask(1, 2, high, 0, 0), ask(1, 3, high, 0, 0))
}

// Ra2: who is no voter, or has come to the last term, asks never; Elapsed stays at 1000.
func TestTickDoesNotAsk(t *testing.T) {
	out := with(follower(1, 4, 4), func(r *api.Raft) { r.Log.L[0] = entry(1, 4, api.EntryConfig, 2, 3) })
	for _, r := range []api.Raft{follower(4, 3, 1), out, follower(1, high, 3), candidate(1, high, list(1, 2), 3), candidate(5, 3, list(5))} {
		for _, n := range []int{0, 1, 11, 12, 23, 24, 500, 998, 999, 1000} {
			want := with(r, func(r *api.Raft) { r.Elapsed = min(n+1, 1000) })
			ticks(t, "nobody asks", with(r, func(r *api.Raft) { r.Elapsed = n }), want)
		}
		got, sent := behindTicks(t, r, 1100)
		equal(t, "long", text(got, sent), text(with(r, func(r *api.Raft) { r.Elapsed = 1000 }), []api.Msg(nil)))
	}
}

// Ra2: one that the log's last voters have asks, though the base has not; and those are asked.
func TestTickByLastVoters(t *testing.T) {
	r := with(follower(5, 4, 4), func(r *api.Raft) { r.Log.L[0], r.Elapsed = entry(1, 4, api.EntryConfig, 3, 5), 19 })
	want := with(r, func(r *api.Raft) { r.Term, r.Vote, r.Role, r.Elapsed, r.Votes = 5, 5, api.Candidate, 0, list(5) })
	ticks(t, "by the last voters", r, want, ask(5, 3, 5, 1, 4))
}

// Ra2: a leader tells all others at each second tick.
func TestTickLeads(t *testing.T) {
	r := with(leader(2, 5, 1, 3, 5), func(r *api.Raft) {
		r.Commit = 2
		r.Peers[0], r.Peers[2] = api.Peer{Node: 1, Next: 2, Match: 1}, api.Peer{Node: 3, Next: 4, Match: 3}
	})
	news := []api.Msg{add(2, 1, 5, 1, 1, 2, behind(1, 3, 5)...), add(2, 3, 5, 3, 5, 2)}
	one := with(r, func(r *api.Raft) { r.Elapsed = 1 })
	ticks(t, "first", r, one)
	ticks(t, "second", one, r, news...)
	for _, n := range []int{2, 3, 24, 999, 1000} {
		ticks(t, "late", with(r, func(r *api.Raft) { r.Elapsed = n }), r, news...)
	}
	// One that is no voter any more leads still.
	out := with(leader(7, 5, 1, 3, 5), func(r *api.Raft) { r.Elapsed = 1 })
	ticks(t, "no voter", out, with(out, func(r *api.Raft) { r.Elapsed = 0 }), add(7, 1, 5, 3, 5, 0), add(7, 2, 5, 3, 5, 0), add(7, 3, 5, 3, 5, 0))
}

// Ra2: a peer whose next entry is compacted is told of the base, others of 16 entries at most, from Next on.
func TestTells(t *testing.T) {
	r := api.Raft{Node: 1, Term: 6, Vote: 1, Leads: 1, Role: api.Leader, Elapsed: 1, Commit: 25, Log: api.Log{Base: entry(5, 4, 0, 1, 2, 3, 4, 5, 6, 7), L: many(5, 6, 20)}}
	nexts := []uint64{26, 1, 5, 6, 7, 10, 26}
	for i, next := range nexts {
		r.Peers = append(r.Peers, api.Peer{Node: i + 1, Next: next, Match: next - 1})
	}
	base := entry(5, 4, 0, 1, 2, 3, 4, 5, 6, 7)
	ticks(t, "told", r, with(r, func(r *api.Raft) { r.Elapsed = 0 }),
		snap(1, 2, 6, 25, base), snap(1, 3, 6, 25, base), add(1, 4, 6, 5, 4, 25, many(5, 6, 16)...), add(1, 5, 6, 6, 6, 25, many(6, 6, 16)...),
		add(1, 6, 6, 9, 6, 25, many(9, 6, 16)...), add(1, 7, 6, 25, 6, 25))
	r.Peers[5].Next, r.Peers[5].Match = 11, 3
	got, sent, e := Tick(r)
	equal(t, "one less", text(sent[4], got.Commit, e), text(add(1, 6, 6, 10, 6, 25, many(10, 6, 15)...), 25, api.OK))
}

// Ra3: what is of a term that is over is refused, and nothing else is done.
func TestStepOld(t *testing.T) {
	full := with(leader(2, 5, 1, 3, 5), func(r *api.Raft) { r.Elapsed = 1 })
	for _, r := range []api.Raft{with(follower(2, 5, 1, 3), func(r *api.Raft) { r.Leads, r.Elapsed = 3, 7 }), with(candidate(2, 5, list(2)), func(r *api.Raft) { r.Elapsed = 9 }), full} {
		for _, term := range []uint64{1, 4} {
			steps(t, "old ask", r, ask(1, 2, term, 99, term), r, vote(2, 1, 5, false))
			steps(t, "old ask", r, ask(1, 2, term, 99, 99), r, vote(2, 1, 5, false))
			steps(t, "old add", r, add(3, 2, term, 0, 0, 9, behind(0, 1)...), r, added(2, 3, 5, false, 0))
			steps(t, "old snap", r, snap(3, 2, term, 9, entry(9, term, 0, 1)), r, added(2, 3, 5, false, 0))
			steps(t, "old vote", r, vote(1, 2, term, true), r)
			steps(t, "old added", r, added(1, 2, term, true, 3), r)
			steps(t, "old added", r, added(1, 2, term, false, 3), r)
		}
	}
}

// Ra3: what is of a later term turns whoever it is into a follower, first; Elapsed stays.
func TestStepFollows(t *testing.T) {
	for _, r := range []api.Raft{
		with(follower(2, 5, 1, 3), func(r *api.Raft) { r.Vote, r.Leads, r.Elapsed, r.Commit = 3, 3, 7, 1 }), with(candidate(2, 5, list(2, 3), 1, 3), func(r *api.Raft) { r.Elapsed = 7 }),
		with(leader(2, 5, 1, 3), func(r *api.Raft) { r.Elapsed = 1 }),
	} {
		after := api.Raft{Node: 2, Term: 8, Log: r.Log, Commit: r.Commit, Elapsed: r.Elapsed}
		heeds := with(after, func(r *api.Raft) { r.Leads, r.Elapsed = 1, 0 })
		steps(t, "vote", r, vote(1, 2, 8, true), after)
		steps(t, "vote", r, vote(1, 2, 8, false), after)
		steps(t, "added", r, added(1, 2, 8, true, 1), after)
		steps(t, "added", r, added(1, 2, 8, false, 1), after)
		steps(t, "ask, granted", r, ask(1, 2, 8, 2, 3), with(after, func(r *api.Raft) { r.Vote, r.Elapsed = 1, 0 }), vote(2, 1, 8, true))
		steps(t, "ask, refused", r, ask(1, 2, 8, 1, 3), after, vote(2, 1, 8, false))
		steps(t, "add", r, add(1, 2, 8, 2, 3, 0, behind(2, 8)...), with(heeds, func(r *api.Raft) { r.Log.L = behind(0, 1, 3, 8) }), added(2, 1, 8, true, 3))
		steps(t, "add at a gap", r, add(1, 2, 8, 7, 3, 0), heeds, added(2, 1, 8, false, 2))
		steps(t, "snap", r, snap(1, 2, 8, 9, entry(9, 7, 0, 1, 2)), with(heeds, func(r *api.Raft) { r.Log, r.Commit = api.Log{Base: entry(9, 7, 0, 1, 2)}, 9 }), added(2, 1, 8, true, 9))
	}
	steps(t, "the last term", follower(2, 5), vote(1, 2, high, true), follower(2, high))
}

// Ra3: a follower grants one vote a term, to who is as new.
func TestStepAsk(t *testing.T) {
	r := with(follower(2, 5, 1, 3, 3), func(r *api.Raft) { r.Elapsed, r.Leads = 7, 0 })
	granted := with(r, func(r *api.Raft) { r.Vote, r.Elapsed = 1, 0 })
	for _, c := range []struct {
		index, term uint64
		ok          bool
	}{
		{3, 3, true}, {4, 3, true}, {high, 3, true}, {2, 3, false}, {0, 3, false}, {3, 2, false}, {9, 2, false}, {high, 0, false}, {0, 4, true}, {1, 5, true}, {3, 5, true},
		{0, 6, true}, {0, top, true}, {0, 0, false},
	} {
		what := fmt.Sprintf("log %d, %d", c.index, c.term)
		if c.ok {
			steps(t, what, r, ask(1, 2, 5, c.index, c.term), granted, vote(2, 1, 5, true))
			steps(t, what+", again", with(r, func(r *api.Raft) { r.Vote = 1 }), ask(1, 2, 5, c.index, c.term), granted, vote(2, 1, 5, true))
		} else {
			steps(t, what, r, ask(1, 2, 5, c.index, c.term), r, vote(2, 1, 5, false))
		}
		for _, other := range []int{2, 3, 7} {
			has := with(r, func(r *api.Raft) { r.Vote = other })
			steps(t, what+", another one has it", has, ask(1, 2, 5, c.index, c.term), has, vote(2, 1, 5, false))
		}
		for _, role := range []api.Raft{candidate(2, 5, list(2), 1, 3, 3), leader(2, 5, 1, 3, 3)} {
			for _, v := range []int{0, 1, 2} {
				role.Vote = v
				steps(t, what+", no follower", role, ask(1, 2, 5, c.index, c.term), role, vote(2, 1, 5, false))
			}
		}
	}
	// Who is no voter is granted a vote, too, and grants one: who asks looks at voters.
	steps(t, "asked by no voter", r, ask(7, 2, 5, 3, 3), with(granted, func(r *api.Raft) { r.Vote = 7 }), vote(2, 7, 5, true))
	out := with(r, func(r *api.Raft) { r.Node = 6 })
	steps(t, "asked of no voter", out, ask(1, 6, 5, 3, 3), with(granted, func(r *api.Raft) { r.Node = 6 }), vote(6, 1, 5, true))
	known := with(r, func(r *api.Raft) { r.Leads = 3 })
	steps(t, "a leader is known", known, ask(1, 2, 5, 3, 3), with(granted, func(r *api.Raft) { r.Leads = 3 }), vote(2, 1, 5, true))
}

// five is a candidate of five voters.
func five(votes ...int) api.Raft {
	r := candidate(3, 5, votes, 1, 3)
	r.Log.Base.Data, r.Elapsed, r.Commit = []byte{1, 2, 3, 4, 5}, 4, 1
	return r
}

// Ra3: votes of voters count, each once; the third of five leads.
func TestStepVote(t *testing.T) {
	steps(t, "the second", five(3), vote(5, 3, 5, true), five(3, 5))
	steps(t, "the second", five(3), vote(1, 3, 5, true), five(1, 3))
	steps(t, "again", five(1, 3), vote(1, 3, 5, true), five(1, 3))
	steps(t, "refused", five(1, 3), vote(2, 3, 5, false), five(1, 3))
	steps(t, "no voter", five(1, 3), vote(6, 3, 5, true), five(1, 3))
	steps(t, "the second that counts", five(3, 6, 7), vote(4, 3, 5, true), five(3, 4, 6, 7))
	leads := with(five(), func(r *api.Raft) {
		r.Role, r.Leads, r.Votes, r.Elapsed = api.Leader, 3, nil, 0
		r.Log.L = append(r.Log.L, entry(3, 5, api.EntryNone))
		r.Peers = []api.Peer{{Node: 1, Next: 3}, {Node: 2, Next: 3}, {Node: 3, Next: 4, Match: 3}, {Node: 4, Next: 3}, {Node: 5, Next: 3}}
	})
	var told []api.Msg
	for _, n := range list(1, 2, 4, 5) {
		told = append(told, add(3, n, 5, 2, 3, 1, entry(3, 5, api.EntryNone)))
	}
	steps(t, "the third", five(1, 3), vote(4, 3, 5, true), leads, told...)
	steps(t, "the third", five(3, 5), vote(2, 3, 5, true), leads, told...)
	steps(t, "the third, with one that counts not", five(3, 5, 7), vote(2, 3, 5, true), leads, told...)
	steps(t, "a majority had it already", five(1, 2, 3), vote(1, 3, 5, true), leads, told...)
	for _, r := range []api.Raft{follower(3, 5, 1, 3), leader(3, 5, 1, 3), leads} {
		steps(t, "no candidate", r, vote(1, 3, 5, true), r)
		steps(t, "no candidate", r, vote(1, 3, 5, false), r)
	}
	// Without the votes of others, and of others' voters: a candidate that is none itself.
	none := with(five(1, 2), func(r *api.Raft) { r.Node, r.Vote = 6, 6 })
	got, sent, e := Step(none, vote(4, 6, 5, true))
	equal(t, "no voter leads", text(got.Role, got.Leads, got.Peers, got.Log.L[2], len(sent), got.Commit, e), text(api.Leader, 6,
		[]api.Peer{{Node: 1, Next: 3}, {Node: 2, Next: 3}, {Node: 3, Next: 3}, {Node: 4, Next: 3}, {Node: 5, Next: 3}}, entry(3, 5, 0), 5, 1, api.OK))
}

// Ra2, Ra3: where the log has no room nobody leads, and nothing else of that is done.
func TestNoRoomToLead(t *testing.T) {
	for _, l := range []api.Log{{Base: entry(0, 0, 0, 1, 2, 3), L: many(0, 2, 4096)}, log(high, 2), log(high, 2, 2, 2), log(high-1, 2, 2)} {
		r := api.Raft{Node: 1, Term: 5, Vote: 1, Role: api.Candidate, Votes: list(1), Elapsed: 3, Log: l, Commit: l.Base.Index}
		steps(t, "no room", r, vote(3, 1, 5, true), with(r, func(r *api.Raft) { r.Votes = list(1, 3) }))
		one := with(r, func(r *api.Raft) { r.Log.Base.Data, r.Role, r.Votes, r.Elapsed = []byte{1}, api.Follower, nil, 11 })
		want := with(r, func(r *api.Raft) { r.Log.Base.Data, r.Term, r.Elapsed = []byte{1}, 6, 0 })
		ticks(t, "no room", one, want)
	}
	r := api.Raft{Node: 1, Term: 5, Vote: 1, Role: api.Candidate, Votes: list(1), Log: log(high-1, 2), Commit: high - 1}
	want := with(r, func(r *api.Raft) {
		r.Role, r.Leads, r.Votes, r.Log.L = api.Leader, 1, nil, []api.Entry{entry(high, 5, 0)}
		r.Peers = []api.Peer{{Node: 1, Next: high + 1, Match: high}, {Node: 2, Next: high}, {Node: 3, Next: high}}
	})
	last := entry(high, 5, 0)
	steps(t, "just room", r, vote(3, 1, 5, true), want, add(1, 2, 5, high-1, 2, high-1, last), add(1, 3, 5, high-1, 2, high-1, last))
}

// Ra3: of a leader, what another one sends as its term's leader does nothing.
func TestStepAddToLeader(t *testing.T) {
	r := with(leader(2, 5, 1, 3, 5), func(r *api.Raft) { r.Elapsed = 1 })
	steps(t, "add", r, add(1, 2, 5, 3, 5, 3), r)
	steps(t, "add", r, add(1, 2, 5, 1, 1, 3, behind(1, 5, 5, 5)...), r)
	steps(t, "snap", r, snap(1, 2, 5, 9, entry(9, 5, 0, 1)), r)
}

// Ra3: entries are merged, and committed as far as the leader says and they go.
func TestStepAdd(t *testing.T) {
	for _, r := range []api.Raft{
		with(follower(2, 5, 1, 1, 3), func(r *api.Raft) { r.Elapsed, r.Commit, r.Vote = 9, 1, 3 }),
		with(follower(2, 5, 1, 1, 3), func(r *api.Raft) { r.Leads, r.Commit = 3, 1 }),
		with(candidate(2, 5, list(2, 3), 1, 1, 3), func(r *api.Raft) { r.Elapsed, r.Commit = 9, 1 }),
	} {
		at := func(commit uint64, terms ...uint64) api.Raft {
			return api.Raft{Node: 2, Term: 5, Vote: r.Vote, Leads: 1, Commit: commit, Log: log(0, 0, terms...)}
		}
		ok := func(match uint64) api.Msg { return added(2, 1, 5, true, match) }
		no := func(match uint64) api.Msg { return added(2, 1, 5, false, match) }
		for _, c := range []struct {
			what string
			m    api.Msg
			want api.Raft
			sent api.Msg
		}{
			{"nothing, at the end", add(1, 2, 5, 3, 3, 0), at(1, 1, 1, 3), ok(3)},
			{"nothing, and commit", add(1, 2, 5, 3, 3, 2), at(2, 1, 1, 3), ok(3)},
			{"nothing, and commit beyond", add(1, 2, 5, 3, 3, 9), at(3, 1, 1, 3), ok(3)},
			{"nothing, ahead of the end: commit goes as far as that", add(1, 2, 5, 2, 1, 9), at(2, 1, 1, 3), ok(2)},
			{"nothing, ahead of commit: it does not fall", add(1, 2, 5, 0, 0, 9), at(1, 1, 1, 3), ok(0)},
			{"one more", add(1, 2, 5, 3, 3, 1, behind(3, 5)...), at(1, 1, 1, 3, 5), ok(4)},
			{"two more, committed", add(1, 2, 5, 3, 3, 9, behind(3, 3, 5)...), at(5, 1, 1, 3, 3, 5), ok(5)},
			{"two more, one committed", add(1, 2, 5, 3, 3, 4, behind(3, 3, 5)...), at(4, 1, 1, 3, 3, 5), ok(5)},
			{"other ones behind", add(1, 2, 5, 2, 1, 3, behind(2, 4, 4)...), at(3, 1, 1, 4, 4), ok(4)},
			{"an other one behind commit", add(1, 2, 5, 1, 1, 0, behind(1, 5)...), at(1, 1, 5), ok(2)},
			{"what it has", add(1, 2, 5, 0, 0, 2, behind(0, 1, 1, 3)...), at(2, 1, 1, 3), ok(3)},
			{"some of what it has: the rest stays", add(1, 2, 5, 0, 0, 9, behind(0, 1, 1)...), at(2, 1, 1, 3), ok(2)},
			{"what it has and more", add(1, 2, 5, 1, 1, 1, behind(1, 1, 3, 5)...), at(1, 1, 1, 3, 5), ok(4)},
			{"a gap", add(1, 2, 5, 4, 3, 9), at(1, 1, 1, 3), no(3)},
			{"a wide gap", add(1, 2, 5, 40, 5, 9, behind(40, 5)...), at(1, 1, 1, 3), no(3)},
			{"another term", add(1, 2, 5, 3, 2, 9), at(1, 1, 1, 3), no(2)},
			{"another term, early", add(1, 2, 5, 2, 2, 9, behind(2, 3)...), at(1, 1, 1, 3), no(1)},
			{"another term, at commit", add(1, 2, 5, 1, 2, 9), at(1, 1, 1, 3), no(0)},
			{"another term, at nothing", add(1, 2, 5, 0, 2, 9), at(1, 1, 1, 3), no(0)},
		} {
			steps(t, c.what, r, c.m, c.want, c.sent)
		}
		steps(t, "what is committed, otherwise", r, add(1, 2, 5, 0, 0, 9, behind(0, 2)...), at(1, 1, 1, 3))
		steps(t, "what is committed, otherwise, and more", r, add(1, 2, 5, 0, 0, 9, behind(0, 2, 2, 3, 5)...), at(1, 1, 1, 3))
	}
}

// Ra3: a base stands for all up to it; what is committed stays, wherever entries begin.
func TestStepAddAtBase(t *testing.T) {
	r := api.Raft{Node: 2, Term: 5, Log: log(4, 2, 2, 3, 3), Commit: 6, Elapsed: 9, Leads: 3}
	heeds := with(r, func(r *api.Raft) { r.Leads, r.Elapsed = 1, 0 })
	steps(t, "old", r, add(1, 2, 5, 3, 2, 9), heeds, added(2, 1, 5, true, 4))
	steps(t, "old", r, add(1, 2, 5, 0, 0, 9, behind(0, 1, 1)...), heeds, added(2, 1, 5, true, 4))
	steps(t, "old, and beyond", r, add(1, 2, 5, 2, 2, 9, behind(2, 2, 2, 2, 3, 3, 5)...), heeds, added(2, 1, 5, true, 4))
	steps(t, "old, another base", r, add(1, 2, 5, 2, 1, 9, behind(2, 1, 1)...), heeds)
	steps(t, "old, other terms ahead of the base alone", r, add(1, 2, 5, 2, 1, 9, behind(2, 1)...), heeds, added(2, 1, 5, true, 4))
	steps(t, "old, others at commit", r, add(1, 2, 5, 3, 2, 9, behind(3, 2, 2, 4)...), heeds)
	steps(t, "old, others above commit", r, add(1, 2, 5, 3, 2, 9, behind(3, 2, 2, 3, 5)...), heeds, added(2, 1, 5, true, 4))
	steps(t, "at the base", r, add(1, 2, 5, 4, 2, 9), heeds, added(2, 1, 5, true, 4))
	steps(t, "at the base, of another term", r, add(1, 2, 5, 4, 1, 9), heeds, added(2, 1, 5, false, 3))
	steps(t, "others at commit", r, add(1, 2, 5, 5, 2, 9, behind(5, 4, 4)...), heeds)
	steps(t, "others at commit, of a gap", r, add(1, 2, 5, 5, 1, 9, behind(5, 2)...), heeds)
	want := with(heeds, func(r *api.Raft) { r.Log.L, r.Commit = behind(4, 2, 3, 5), 7 })
	steps(t, "others behind commit", r, add(1, 2, 5, 6, 3, 9, behind(6, 5)...), want, added(2, 1, 5, true, 7))
	zero := api.Raft{Node: 2, Term: 5, Log: log(0, 3, 3)}
	steps(t, "another base of 0", zero, add(1, 2, 5, 0, 2, 9, behind(0, 5)...), with(zero, func(r *api.Raft) { r.Leads = 1 }), added(2, 1, 5, false, 0))
}

// Ra3: where there is no room for what a leader sends nothing is answered.
func TestStepAddFull(t *testing.T) {
	r := api.Raft{Node: 2, Term: 5, Elapsed: 9, Log: api.Log{Base: entry(0, 0, 0, 1, 2, 3), L: many(0, 2, 4095)}}
	heeds := with(r, func(r *api.Raft) { r.Leads, r.Elapsed = 1, 0 })
	steps(t, "no room", r, add(1, 2, 5, 4095, 2, 9, behind(4095, 2, 2)...), heeds)
	want := with(heeds, func(r *api.Raft) { r.Log.L, r.Commit = many(0, 2, 4096), 9 })
	steps(t, "just room", r, add(1, 2, 5, 4095, 2, 9, behind(4095, 2)...), want, added(2, 1, 5, true, 4096))
	steps(t, "nothing new", want, add(1, 2, 5, 4080, 2, 9, many(4080, 2, 16)...), want, added(2, 1, 5, true, 4096))
}

// Ra3: a snapshot counts, if it is above what is committed: the log behind it stays, if it agrees.
func TestStepSnap(t *testing.T) {
	base := api.Raft{Node: 2, Term: 5, Log: log(4, 2, 2, 3, 3), Commit: 5, Elapsed: 9, Leads: 3, Vote: 3}
	base.Log.L[1] = entry(6, 3, api.EntryConfig, 2, 3)
	for _, r := range []api.Raft{base, with(base, func(r *api.Raft) { r.Role, r.Votes = api.Candidate, list(2, 7) })} {
		heeds := with(base, func(r *api.Raft) { r.Leads, r.Elapsed = 1, 0 })
		for _, index := range []uint64{0, 1, 3, 4, 5} {
			for term := range uint64(6) {
				steps(t, "committed already", r, snap(1, 2, 5, 9, entry(index, term, 0, 6)), heeds, added(2, 1, 5, true, 5))
			}
		}
		kept := with(heeds, func(r *api.Raft) { r.Log, r.Commit = api.Log{Base: entry(6, 3, 0, 2, 3), L: behind(6, 3)}, 6 })
		steps(t, "it agrees", r, snap(1, 2, 5, 9, entry(6, 3, 0, 2, 3)), kept, added(2, 1, 5, true, 6))
		steps(t, "its own voters count", r, snap(1, 2, 5, 9, entry(6, 3, 0, 7)), kept, added(2, 1, 5, true, 6))
		end := with(heeds, func(r *api.Raft) { r.Log, r.Commit = api.Log{Base: entry(7, 3, 0, 2, 3)}, 7 })
		steps(t, "it agrees at the end", r, snap(1, 2, 5, 0, entry(7, 3, 0, 4)), end, added(2, 1, 5, true, 7))
		for _, b := range []api.Entry{entry(6, 2, 0, 5, 7), entry(6, 4, 0, 5, 7), entry(7, 5, 0, 1), entry(8, 3, 0, 1), entry(9, 5, 0, 1, 2), entry(high, 5, 0, 1)} {
			alone := with(heeds, func(r *api.Raft) { r.Log, r.Commit = api.Log{Base: b}, b.Index })
			steps(t, "it does not", r, snap(1, 2, 5, 3, b), alone, added(2, 1, 5, true, b.Index))
			m := snap(1, 2, 5, 3, b) // what stands beside Snap has no meaning
			m.Index, m.Prev, m.Commit, m.Match, m.Ok = 2, 1, high, 3, true
			steps(t, "it does not", r, m, alone, added(2, 1, 5, true, b.Index))
		}
	}
}

// Ra3: a leader hears how far a peer is, and commits what a majority has, of its own term.
func TestStepAddedOk(t *testing.T) {
	r := with(leader(2, 5, 1, 3, 5, 5), func(r *api.Raft) { // 2 is as far as it goes, the others are not
		r.Elapsed = 1
		r.Peers[0], r.Peers[2] = api.Peer{Node: 1, Next: 3, Match: 1}, api.Peer{Node: 3, Next: 2}
	})
	one := func(next, match, commit uint64) api.Raft {
		return with(r, func(r *api.Raft) { r.Peers[0], r.Commit = api.Peer{Node: 1, Next: next, Match: match}, commit })
	}
	steps(t, "all", r, added(1, 2, 5, true, 4), one(5, 4, 4))
	steps(t, "some", r, added(1, 2, 5, true, 3), one(4, 3, 3), add(2, 1, 5, 3, 5, 3, behind(3, 5)...))
	steps(t, "of an older term", r, added(1, 2, 5, true, 2), one(3, 2, 0), add(2, 1, 5, 2, 3, 0, behind(2, 5, 5)...))
	steps(t, "what was known", r, added(1, 2, 5, true, 1), r, add(2, 1, 5, 2, 3, 0, behind(2, 5, 5)...))
	steps(t, "less than was known", r, added(1, 2, 5, true, 0), r, add(2, 1, 5, 2, 3, 0, behind(2, 5, 5)...))
	steps(t, "beyond the end", r, added(1, 2, 5, true, 5), r)
	steps(t, "far beyond the end", r, added(1, 2, 5, true, high), r)
	steps(t, "no peer", r, added(4, 2, 5, true, 4), r)
	steps(t, "no peer", r, added(7, 2, 5, true, 1), r)
	done := one(5, 4, 4)
	steps(t, "again", done, added(1, 2, 5, true, 4), done)
	steps(t, "late", done, added(1, 2, 5, true, 2), done)
	steps(t, "the other one", done, added(3, 2, 5, true, 3), with(done, func(r *api.Raft) { r.Peers[2] = api.Peer{Node: 3, Next: 4, Match: 3} }), add(2, 3, 5, 3, 5, 4, behind(3, 5)...))
	far := one(5, 1, 0) // Next is further than Match says: it does not fall
	steps(t, "Next stays", far, added(1, 2, 5, true, 3), with(far, func(r *api.Raft) { r.Peers[0].Match, r.Commit = 3, 3 }))
	for _, r := range []api.Raft{follower(2, 5, 1, 3), candidate(2, 5, list(2), 1, 3)} {
		steps(t, "no leader", r, added(1, 2, 5, true, 1), r)
		steps(t, "no leader", r, added(1, 2, 5, false, 1), r)
	}
}

// Ra3: a leader goes back to where a peer is, but not below what that has; and not on what is late.
func TestStepAddedNotOk(t *testing.T) {
	r := with(leader(2, 5, 1, 3, 5, 5, 5, 5), func(r *api.Raft) { r.Commit, r.Peers[0] = 3, api.Peer{Node: 1, Next: 6, Match: 2} })
	at := func(next uint64) api.Raft { return with(r, func(r *api.Raft) { r.Peers[0].Next = next }) }
	all := behind(0, 1, 3, 5, 5, 5, 5)
	for _, c := range []struct{ next, match, want uint64 }{
		{6, 4, 5}, {6, 3, 4}, {6, 2, 3}, {6, 1, 3}, {6, 0, 3}, {6, 5, 5}, {6, 6, 5}, {6, 99, 5}, {6, high, 5}, {7, 6, 6}, {7, 99, 6}, {7, 3, 4},
		{4, 3, 3}, {4, 2, 3}, {4, 0, 3}, {4, 99, 3}, {3, 2, 3}, {3, 0, 3}, {3, 99, 3},
	} {
		steps(t, fmt.Sprint(c), at(c.next), added(1, 2, 5, false, c.match), at(c.want), add(2, 1, 5, c.want-1, all[c.want-2].Term, 3, all[c.want-1:]...))
	}
	first := with(r, func(r *api.Raft) { r.Peers[0] = api.Peer{Node: 1, Next: 1} })
	steps(t, "at the beginning", first, added(1, 2, 5, false, 0), first, add(2, 1, 5, 0, 0, 3, all...))
	steps(t, "no peer", r, added(5, 2, 5, false, 0), r)
	base := api.Raft{Node: 2, Term: 5, Role: api.Leader, Log: log(4, 2, 5), Commit: 5, Peers: []api.Peer{{Node: 1, Next: 6}, {Node: 2, Next: 6, Match: 5}, {Node: 3, Next: 6, Match: 5}}}
	want := func(next uint64) api.Raft { return with(base, func(r *api.Raft) { r.Peers[0].Next = next }) }
	steps(t, "at the base", base, added(1, 2, 5, false, 4), want(5), add(2, 1, 5, 4, 2, 5, behind(4, 5)...))
	steps(t, "below the base", base, added(1, 2, 5, false, 3), want(4), snap(2, 1, 5, 5, base.Log.Base))
	steps(t, "at nothing", base, added(1, 2, 5, false, 0), want(1), snap(2, 1, 5, 5, base.Log.Base))
}

// Ra4: an entry is appended, and told to all others.
func TestPropose(t *testing.T) {
	r := with(leader(2, 5, 1, 5), func(r *api.Raft) {
		r.Commit, r.Elapsed, r.Peers[0], r.Peers[2] = 1, 1, api.Peer{Node: 1, Next: 1}, api.Peer{Node: 3, Next: 3, Match: 2}
	})
	for _, data := range [][]byte{nil, {}, []byte("x"), make([]byte, 4096), {9, 9, 0}} {
		e := entry(3, 5, api.EntryOrder, data...)
		want := with(r, func(r *api.Raft) { r.Log.L, r.Peers[1] = append(r.Log.L, e), api.Peer{Node: 2, Next: 4, Match: 3} })
		want.Commit = 2 // by 2 and 3, of this term: what waited is committed
		proposes(t, "an order", r, api.EntryOrder, data, want, 3, add(2, 1, 5, 0, 0, 2, append(behind(0, 1, 5), e)...), add(2, 3, 5, 2, 5, 2, e))
	}
	one := api.Raft{Node: 4, Term: 7, Role: api.Leader, Log: api.Log{Base: entry(high-2, 6, 0, 4)}, Commit: high - 2, Peers: []api.Peer{{Node: 4, Next: high - 1, Match: high - 2}}}
	want := with(one, func(r *api.Raft) {
		r.Log.L, r.Commit, r.Peers[0] = []api.Entry{entry(high-1, 7, 1, 'x')}, high-1, api.Peer{Node: 4, Next: high, Match: high - 1}
	})
	proposes(t, "one voter", one, api.EntryOrder, []byte("x"), want, high-1)
	out := leader(5, 5, 5)
	want = with(out, func(r *api.Raft) { r.Log.L = append(r.Log.L, entry(2, 5, 1, 'x')) })
	news := func(n int) api.Msg { return add(5, n, 5, 1, 5, 0, entry(2, 5, 1, 'x')) }
	proposes(t, "a leader that is no voter", out, api.EntryOrder, []byte("x"), want, 2, news(1), news(2), news(3))
}

// Ra4: what is refused, and what goes ahead of what.
func TestProposeErrors(t *testing.T) {
	full := func(r api.Raft) api.Raft {
		return with(r, func(r *api.Raft) { r.Log.L, r.Commit = many(0, 5, 4096), 4096 })
	}
	high := with(leader(2, 5), func(r *api.Raft) { r.Log, r.Commit = log(high, 5), high })
	for _, r := range []api.Raft{follower(2, 5, 5), candidate(2, 5, list(2), 5), full(follower(2, 5))} {
		for kind := -1; kind < 5; kind++ {
			refuses(t, "no leader", r, kind, []byte{1}, api.ErrNone)
		}
		refuses(t, "no leader", r, api.EntryOrder, make([]byte, 4097), api.ErrNone)
	}
	for _, r := range []api.Raft{leader(2, 5, 5), leader(2, 5, 1), full(leader(2, 5)), high} {
		for _, kind := range append(badNodes(), api.EntryNone, api.EntryKinds, 4) {
			refuses(t, "no such kind", r, kind, []byte{1, 2}, api.ErrArg)
			refuses(t, "no such kind", r, kind, nil, api.ErrArg)
		}
		refuses(t, "too long", r, api.EntryOrder, make([]byte, 4097), api.ErrArg)
		for _, b := range badVoters() {
			refuses(t, "no voters", r, api.EntryConfig, b, api.ErrArg)
		}
	}
	for _, r := range []api.Raft{full(leader(2, 5)), high} {
		refuses(t, "full", r, api.EntryOrder, []byte("x"), api.ErrFull)
		refuses(t, "full", r, api.EntryConfig, []byte{1, 2, 3}, api.ErrFull)
		refuses(t, "full", r, api.EntryConfig, []byte{1, 2}, api.ErrFull)
		refuses(t, "not safe, and full", r, api.EntryConfig, []byte{1}, api.ErrArg)
		r.Term = 6
		refuses(t, "to wait, and full", r, api.EntryConfig, []byte{1, 2}, api.ErrWait)
		refuses(t, "full", r, api.EntryOrder, []byte("x"), api.ErrFull)
	}
}

// Ra4: voters turn by one node at most, and only if no other turn is on its way, and something of this term is committed.
func TestProposeConfigErrors(t *testing.T) {
	ready := with(leader(2, 5, 1, 5, 5), func(r *api.Raft) { r.Commit = 2 })
	for _, b := range [][]byte{{1}, {3}, {1, 4}, {1, 2, 4}, {4, 5, 6}, {1, 2, 3, 4, 5}, {1, 2, 3, 4, 5, 6, 7}} {
		refuses(t, "not safe", ready, api.EntryConfig, b, api.ErrArg)
		refuses(t, "not safe, and to wait", with(ready, func(r *api.Raft) { r.Commit = 1 }), api.EntryConfig, b, api.ErrWait)
	}
	for _, b := range [][]byte{{1, 2}, {1, 2, 3}, {1, 2, 3, 4}} {
		for _, commit := range []uint64{0, 1} {
			refuses(t, "of an older term", with(ready, func(r *api.Raft) { r.Commit = commit }), api.EntryConfig, b, api.ErrWait)
		}
		turning := with(ready, func(r *api.Raft) { r.Log.L[2] = entry(3, 5, api.EntryConfig, 1, 2, 3) })
		refuses(t, "another one above", turning, api.EntryConfig, b, api.ErrWait)
		above := with(ready, func(r *api.Raft) { r.Log.L[1], r.Commit = entry(2, 5, api.EntryConfig, 1, 2, 3), 1 })
		refuses(t, "another one above", above, api.EntryConfig, b, api.ErrWait)
		newer := with(ready, func(r *api.Raft) { r.Term, r.Commit = 6, 3 })
		refuses(t, "nothing of this term", newer, api.EntryConfig, b, api.ErrWait)
	}
	refuses(t, "no voters go ahead of waiting", with(ready, func(r *api.Raft) { r.Commit = 0 }), api.EntryConfig, []byte{2, 1}, api.ErrArg)
}

// Ra4: new voters count from the entry on that names them.
func TestProposeConfig(t *testing.T) {
	ready := with(leader(2, 5, 1, 5, 5), func(r *api.Raft) {
		r.Commit, r.Peers[0], r.Peers[2] = 2, api.Peer{Node: 1, Next: 2, Match: 1}, api.Peer{Node: 3, Next: 4, Match: 3}
	})
	own := api.Peer{Node: 2, Next: 5, Match: 4}
	turned := func(data []byte, commit uint64, peers ...api.Peer) (api.Raft, api.Entry) {
		e := entry(4, 5, api.EntryConfig, data...)
		return with(ready, func(r *api.Raft) { r.Log.L, r.Peers, r.Commit = append(r.Log.L, e), peers, commit }), e
	}
	first, third := ready.Peers[0], ready.Peers[2]
	want, e := turned([]byte{1, 2, 3, 4}, 2, first, own, third, api.Peer{Node: 4, Next: 4})
	tell1 := func(commit uint64) api.Msg { return add(2, 1, 5, 1, 1, commit, append(behind(1, 5, 5), e)...) }
	tell3 := func(commit uint64) api.Msg { return add(2, 3, 5, 3, 5, commit, e) }
	proposes(t, "one more", ready, api.EntryConfig, []byte{1, 2, 3, 4}, want, 4, tell1(2), tell3(2), add(2, 4, 5, 3, 5, 2, e))
	want, e = turned([]byte{1, 2, 3}, 3, first, own, third)
	proposes(t, "the same", ready, api.EntryConfig, []byte{1, 2, 3}, want, 4, tell1(3), tell3(3))
	want, e = turned([]byte{2, 3}, 3, own, third)
	proposes(t, "one less", ready, api.EntryConfig, []byte{2, 3}, want, 4, tell3(3))
	want, e = turned([]byte{1, 3}, 2, first, third)
	proposes(t, "not itself", ready, api.EntryConfig, []byte{1, 3}, want, 4, tell1(2), tell3(2))
	// It commits by the new voters alone, and comes back by its own will.
	two := with(ready, func(r *api.Raft) { r.Log.Base.Data, r.Peers = []byte{1, 2}, r.Peers[:2] })
	alone, _ := turned([]byte{2}, 4, own)
	alone.Log.Base.Data = []byte{1, 2}
	proposes(t, "alone", two, api.EntryConfig, []byte{2}, alone, 4)
	out := with(ready, func(r *api.Raft) { r.Log.Base.Data, r.Peers = []byte{1, 3}, []api.Peer{first, third} })
	back, e := turned([]byte{1, 2, 3}, 3, first, own, third)
	back.Log.Base.Data = []byte{1, 3}
	proposes(t, "back again", out, api.EntryConfig, []byte{1, 2, 3}, back, 4, tell1(3), tell3(3))
	behindBase := with(ready, func(r *api.Raft) { r.Log = api.Log{Base: entry(2, 5, 0, 1, 2, 3), L: behind(2, 5)} })
	got, sent, n, _ := Propose(behindBase, api.EntryConfig, []byte{1, 2, 3, 7})
	equal(t, "behind a base", text(n, got.Peers[3], sent[0], sent[2]), text(4, api.Peer{Node: 7, Next: 4}, snap(2, 1, 5, 2, entry(2, 5, 0, 1, 2, 3)), add(2, 7, 5, 3, 5, 2, entry(4, 5, 2, 1, 2, 3, 7))))
}

// Ra4: behind a turn of voters that is committed the next one may come.
func TestProposeConfigsInTurn(t *testing.T) {
	r, _ := New(1, list(1))
	r, _ = behindTicks(t, r, 12)
	r, _, _, e := Propose(r, api.EntryConfig, []byte{1, 2})
	if e != api.OK || r.Commit != 1 {
		t.Fatalf("Propose: error %d, commit %d", e, r.Commit)
	}
	refuses(t, "on its way", r, api.EntryConfig, []byte{1, 2, 3}, api.ErrWait)
	r, _, e = Step(r, added(2, 1, 1, true, 2))
	if e != api.OK || r.Commit != 2 {
		t.Fatalf("Step: error %d, commit %d", e, r.Commit)
	}
	r, sent, index, e := Propose(r, api.EntryConfig, []byte{1, 2, 3})
	if to := []int{sent[0].To, sent[1].To}; e != api.OK || index != 3 || !slices.Equal(to, list(2, 3)) || r.Commit != 2 {
		t.Errorf("Propose: error %d, index %d, to %d, commit %d", e, index, to, r.Commit)
	}
}
