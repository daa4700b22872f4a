package raft

import (
	"bytes"
	"fmt"
	"math/rand"
	"slices"
	"testing"

	"gudgeon/api"
	"gudgeon/rlog"
)

// group is nodes of one group, what is on its way between them, and what was ever led and committed.
type group struct {
	t         *testing.T
	r         *rand.Rand
	nodes     []api.Raft
	way       []api.Msg
	leaders   map[uint64]int       // who led a term
	committed map[uint64]api.Entry // what was committed at an Index
	n         map[string]int       // what was done, and how often
	down      map[int]int          // nodes that are switched off
	side      map[int]int          // on which side nodes are; what goes to another side is lost
	asked     int
}

// newGroup is nodes that know nothing but their voters.
func newGroup(t *testing.T, seed int64, nodes int, voters []int) *group {
	t.Helper()
	g := &group{t: t, r: rand.New(rand.NewSource(seed)), leaders: map[uint64]int{}, committed: map[uint64]api.Entry{}, n: map[string]int{}, down: map[int]int{}, side: map[int]int{}}
	for i := range nodes {
		r, e := New(i+1, voters)
		if e != api.OK {
			t.Fatalf("New: error %d", e)
		}
		g.nodes = append(g.nodes, r)
	}
	return g
}

// put takes a node's next state, and what it sends.
func (g *group) put(node int, r api.Raft, sent []api.Msg, e api.Errno) {
	g.t.Helper()
	old := g.nodes[node-1]
	if e != api.OK {
		g.t.Fatalf("node %d: error %d", node, e)
	}
	is(g.t, "a node's", r, api.OK)
	if r.Term < old.Term || r.Commit < old.Commit || r.Term == old.Term && old.Vote != 0 && r.Vote != old.Vote {
		g.t.Fatalf("it went back: %s, behind %s", text(r), text(old))
	}
	g.nodes[node-1] = r
	for _, m := range sent {
		isMsg(g.t, "sent", m, api.OK)
		if m.From != node || m.Term != r.Term {
			g.t.Fatalf("node %d of term %d sends %s", node, r.Term, text(m))
		}
		g.n[fmt.Sprint("message ", m.Kind)]++
	}
	g.way = append(g.way, sent...)
	g.watch(node)
}

// alike tells whether entries are.
func alike(a, b api.Entry) bool {
	return a.Index == b.Index && a.Term == b.Term && a.Kind == b.Kind && bytes.Equal(a.Data, b.Data)
}

// watch tells whether a node's state goes with all that ever was: one leader a term, and what is committed.
func (g *group) watch(node int) {
	g.t.Helper()
	r := g.nodes[node-1]
	if r.Role == api.Leader {
		if other, led := g.leaders[r.Term]; led && other != node {
			g.t.Fatalf("%d and %d lead term %d", node, other, r.Term)
		}
		g.leaders[r.Term] = node
	}
	for _, e := range r.Log.L {
		if e.Index > r.Commit {
			break
		}
		was, ok := g.committed[e.Index]
		if ok && !alike(was, e) {
			g.t.Fatalf("node %d has committed %s, another one %s", node, text(e), text(was))
		}
		if !ok {
			g.committed[e.Index] = e
		}
	}
	if base := r.Log.Base; base.Index > 0 && g.committed[base.Index].Term != base.Term {
		g.t.Fatalf("node %d has the base %s, and %s was committed", node, text(base), text(g.committed[base.Index]))
	}
}

// match tells whether all logs match: where the term at one Index is alike, all up to there is, as far as both have it.
func (g *group) match() {
	g.t.Helper()
	for i, a := range g.nodes {
		for _, b := range g.nodes[i+1:] {
			at := map[uint64]api.Entry{}
			for _, e := range a.Log.L {
				at[e.Index] = e
			}
			agree := false
			for _, e := range slices.Backward(b.Log.L) {
				term, ok := rlog.Term(a.Log, e.Index)
				agree = agree || ok && term == e.Term
				if had, both := at[e.Index]; agree && both && !alike(had, e) {
					g.t.Fatalf("nodes %d and %d: %s and %s", a.Node, b.Node, text(had), text(e))
				}
				if agree && ok && term != e.Term {
					g.t.Fatalf("nodes %d and %d: terms %d and %d at %d", a.Node, b.Node, term, e.Term, e.Index)
				}
			}
		}
	}
}

// tick lets a node's time pass.
func (g *group) tick(node int) {
	g.t.Helper()
	r, sent, e := Tick(g.nodes[node-1])
	g.put(node, r, sent, e)
}

// deliver lets a message come.
func (g *group) deliver(m api.Msg) {
	g.t.Helper()
	if g.down[m.To] > 0 || g.side[m.From] != g.side[m.To] {
		return
	}
	old := g.nodes[m.To-1]
	r, sent, e := Step(old, m)
	g.put(m.To, r, sent, e)
	for _, e := range old.Log.L {
		if term, ok := rlog.Term(r.Log, e.Index); e.Index > r.Log.Base.Index && (!ok || term != e.Term) {
			g.n["taken away"]++
		}
	}
}

// some lets a message come that is on its way, whichever; it may come again.
func (g *group) some() {
	g.t.Helper()
	if len(g.way) == 0 {
		return
	}
	i := g.r.Intn(len(g.way))
	m := g.way[i]
	if g.r.Intn(6) > 0 {
		g.way = slices.Delete(g.way, i, i+1)
	}
	g.deliver(m)
}

// propose asks a node for an entry, as a client or one who turns voters would.
func (g *group) propose(node int, config bool) {
	g.t.Helper()
	kind, data := api.EntryOrder, []byte(fmt.Sprint("order ", g.asked))
	if config {
		var voters []int
		for _, n := range rlog.Voters(g.nodes[node-1].Log) {
			voters = append(voters, n)
		}
		n := 1 + g.r.Intn(len(g.nodes))
		if i, in := slices.BinarySearch(voters, n); in {
			voters = slices.Delete(voters, i, i+1)
		} else {
			voters = slices.Insert(voters, i, n)
		}
		kind, data = api.EntryConfig, bytesOf(voters)
	}
	g.asked++
	r, sent, index, e := Propose(g.nodes[node-1], kind, data)
	if e == api.OK {
		if last, _ := rlog.Last(r.Log); index != last {
			g.t.Fatalf("index %d, not %d", index, last)
		}
		g.n[fmt.Sprint("proposed ", kind)]++
		g.put(node, r, sent, e)
	}
}

// restart lets a node forget all that its disk has not.
func (g *group) restart(node int) {
	g.t.Helper()
	r, e := Restart(g.nodes[node-1])
	g.put(node, r, nil, e)
}

// compact lets a node have a snapshot of what it has committed, or some of it.
func (g *group) compact(node int) {
	g.t.Helper()
	r := g.nodes[node-1]
	if r.Commit > r.Log.Base.Index {
		r, e := Compact(r, r.Commit-uint64(g.r.Intn(int(min(r.Commit-r.Log.Base.Index, 3)))))
		g.n["compacted"]++
		g.put(node, r, nil, e)
	}
}

// act is something that happens, by chance; calm is how often nothing is lost.
func (g *group) act(calm int, configs bool) {
	g.t.Helper()
	node := 1 + g.r.Intn(len(g.nodes))
	switch n := g.r.Intn(100); {
	case n < 22:
		g.tick(node)
	case n < 80:
		g.some()
	case n < 88:
		g.propose(node, false)
	case n < 91:
		g.propose(node, configs)
	case n < 93:
		g.compact(node)
	case n < 95 && g.r.Intn(calm) == 0:
		g.restart(node)
	case n < 97 && g.r.Intn(calm) == 0: // what goes to one node is lost
		g.way = slices.DeleteFunc(g.way, func(m api.Msg) bool { return m.To == node || m.From == node })
	case n < 98 && g.r.Intn(calm) == 0:
		g.side[node] = g.r.Intn(2)
	case n == 98 && g.r.Intn(4) == 0:
		clear(g.side)
	case len(g.way) > 60:
		g.way = slices.Delete(g.way, 0, 30)
	}
}

// burst lets all of one side go on for a while, on their own, without loss: they choose a leader, and ask it.
func (g *group) burst(configs bool) {
	g.t.Helper()
	side := g.r.Intn(2)
	for range g.r.Intn(30) {
		for i := range g.nodes {
			if g.side[i+1] == side {
				g.tick(i + 1)
			}
		}
		for range g.r.Intn(30) {
			g.some()
		}
		g.propose(1+g.r.Intn(len(g.nodes)), configs && g.r.Intn(4) == 0)
	}
}

// round is a Tick of all, and delivery of all, the first first, till nothing is on its way.
func (g *group) round() {
	g.t.Helper()
	for i := range g.nodes {
		if g.down[i+1] == 0 {
			g.tick(i + 1)
		}
	}
	g.drain()
}

// drain delivers all that is on its way.
func (g *group) drain() {
	g.t.Helper()
	for n := 0; len(g.way) > 0; n++ {
		m := g.way[0]
		g.way = g.way[1:]
		g.deliver(m)
		if n > 1<<16 {
			g.t.Fatal("it does not come to rest")
		}
	}
}

// led is who leads all voters, as they know, in one term; and the voters. 0: nobody.
func (g *group) led() (int, []int) {
	for _, r := range g.nodes {
		voters := rlog.Voters(r.Log)
		if r.Role != api.Leader {
			continue
		}
		if !slices.ContainsFunc(voters, func(n int) bool { return g.nodes[n-1].Leads != r.Node || g.nodes[n-1].Term != r.Term }) {
			return r.Node, voters
		}
	}
	return 0, nil
}

// Ra5: whatever is delivered, lost, doubled, and whoever restarts, voters stay or turn.
func TestSafety(t *testing.T) {
	done := map[string]int{}
	for seed := range int64(240) {
		size := 2 + int(seed%6)
		voters := list(1, 2, 3, 4, 5, 6, 7)[:size]
		configs := seed%2 == 0
		if configs {
			voters = voters[:1+size/2]
		}
		g := newGroup(t, seed, size, voters)
		for i := range 1200 {
			g.act(1+int(seed%4), configs)
			if i%100 == 0 {
				g.burst(configs)
				g.match()
			}
		}
		g.match()
		for what, n := range g.n {
			done[what] += n
		}
		done["led"] += len(g.leaders)
		done["committed"] += len(g.committed)
		for _, e := range g.committed {
			if e.Kind == api.EntryConfig {
				done["turned voters"]++
			}
		}
	}
	for what, least := range map[string]int{"led": 300, "committed": 3000, "turned voters": 50, "taken away": 20, "compacted": 300,
		"message 1": 1000, "message 2": 1000, "message 3": 1000, "message 4": 1000, "message 5": 100, "proposed 1": 3000, "proposed 2": 50} {
		if done[what] < least {
			t.Errorf("%s: %d times, too few to tell", what, done[what])
		}
	}
}

// asks lets the leader be asked for entries, and tells whether all voters have them committed a few rounds later.
func (g *group) asks(rounds int) {
	g.t.Helper()
	lead, voters := g.led()
	if lead == 0 {
		g.t.Fatalf("nobody leads: %s", brief(text(g.nodes)))
	}
	for range 3 {
		g.propose(lead, false)
	}
	want, _ := rlog.Last(g.nodes[lead-1].Log)
	for range rounds {
		g.round()
	}
	for _, n := range voters {
		if r := g.nodes[n-1]; r.Commit < want || r.Leads != lead {
			g.t.Fatalf("node %d has committed %d of %d, and knows %d, not %d", n, r.Commit, want, r.Leads, lead)
		}
	}
}

// Ra6: nodes that know nothing have a leader behind 400 rounds, and long ahead of that; what it is asked for all have.
func TestProgress(t *testing.T) {
	for size := 1; size <= 7; size++ {
		g := newGroup(t, 1, size, list(1, 2, 3, 4, 5, 6, 7)[:size])
		for i := range 400 {
			g.round()
			if lead, _ := g.led(); i >= 12 && lead != 1 {
				t.Fatalf("%d leads, behind %d rounds", lead, i+1)
			}
		}
		g.asks(2)
		for range 40 { // more than a message's entries
			g.propose(1, false)
		}
		g.asks(2)
		g.match()
	}
}

// Ra6: whatever came ahead, and however many were down: where nothing is lost any more one leads.
func TestProgressBehindTrouble(t *testing.T) {
	unlike := 0
	for seed := range int64(90) {
		size := 1 + int(seed%7)
		g := newGroup(t, seed, size, list(1, 2, 3, 4, 5, 6, 7)[:size])
		for i := range 600 {
			g.act(1+int(seed%3), false)
			if i%100 == 0 {
				g.burst(false)
			}
		}
		for i := range g.nodes { // some were left alone for long
			for range g.r.Intn(40) {
				g.tick(i + 1)
			}
			if g.r.Intn(3) == 0 {
				g.restart(i + 1)
			}
		}
		if g.r.Intn(2) == 0 {
			g.way = nil
		}
		clear(g.side)
		for range 400 {
			g.round()
		}
		if lead, _ := g.led(); lead > 1 {
			unlike++
		}
		g.asks(3)
		g.match()
		last := text(g.nodes[0].Commit, len(g.committed))
		for _, r := range g.nodes {
			equal(t, "committed by all", text(r.Commit, len(g.committed)), last)
		}
	}
	if unlike == 0 {
		t.Error("node 1 led always")
	}
}

// Ra6: a node that is far behind is sent a snapshot, and then what follows.
func TestProgressBySnapshot(t *testing.T) {
	g := newGroup(t, 1, 3, list(1, 2, 3))
	for range 20 {
		g.round()
	}
	for i := range 200 { // node 3 hears nothing
		g.propose(1, false)
		for len(g.way) > 0 {
			m := g.way[0]
			if g.way = g.way[1:]; m.To != 3 && m.From != 3 {
				g.deliver(m)
			}
		}
		if i%40 == 39 {
			g.compact(1)
			g.compact(2)
		}
	}
	if g.nodes[2].Commit > 3 || g.nodes[0].Commit < 200 || g.nodes[0].Log.Base.Index < 100 {
		t.Fatalf("commits %d and %d", g.nodes[0].Commit, g.nodes[2].Commit)
	}
	g.asks(6)
	if g.n["message 5"] == 0 || g.nodes[2].Log.Base.Index < 100 {
		t.Errorf("%d snapshots, and node 3 begins at %d", g.n["message 5"], g.nodes[2].Log.Base.Index)
	}
	g.match()
}

// turn lets the leader turn its voters, switches who is out off, and tells whether the others go on. (Who is out is not
// told so: by its own log it is a voter still, and would ask again and again.)
func (g *group) turn(voters ...int) {
	g.t.Helper()
	lead, old := g.led()
	r, sent, _, e := Propose(g.nodes[lead-1], api.EntryConfig, bytesOf(voters))
	g.put(lead, r, sent, e)
	for _, n := range old {
		if n != lead && !slices.Contains(voters, n) {
			g.down[n] = 1
		}
	}
	for range 4 {
		g.round()
	}
	g.asks(4)
}

// Ra6: voters that turn one by one go on: who is new catches up; a leader that is out leads on, and if it is gone another
// one does.
func TestProgressOfNewVoters(t *testing.T) {
	g := newGroup(t, 1, 7, list(1, 2, 3))
	for range 20 {
		g.round()
	}
	g.turn(1, 2, 3, 4)
	g.compact(1)
	g.turn(1, 2, 3, 4, 5)
	g.turn(1, 2, 4, 5)
	g.turn(1, 2, 4, 5, 6)
	g.turn(2, 4, 5, 6)
	for _, want := range list(1, 2) {
		for range 400 {
			g.round()
		}
		if lead, voters := g.led(); lead != want || !slices.Equal(voters, list(2, 4, 5, 6)) {
			t.Errorf("%d leads %d", lead, voters)
		}
		g.asks(4)
		g.restart(1)
	}
	g.match()
}

// Ra5: a leader of an older term that comes back late, with entries of its own, commits nothing of them.
func TestOldLeader(t *testing.T) {
	g := newGroup(t, 1, 3, list(1, 2, 3))
	for range 13 {
		g.round()
	}
	g.propose(1, false) // nobody hears of it
	lost, _ := rlog.Last(g.nodes[0].Log)
	g.way = nil
	for range 40 { // 1 is alone
		g.tick(2)
		g.tick(3)
		for len(g.way) > 0 {
			m := g.way[0]
			if g.way = g.way[1:]; m.To != 1 && m.From != 1 {
				g.deliver(m)
			}
		}
	}
	if g.nodes[1].Role != api.Leader || g.nodes[0].Role != api.Leader || g.nodes[0].Commit >= lost {
		t.Fatalf("roles %d and %d, commit %d", g.nodes[0].Role, g.nodes[1].Role, g.nodes[0].Commit)
	}
	g.propose(2, false)
	for range 4 {
		g.round()
	}
	if r := g.nodes[0]; r.Role != api.Follower || r.Leads != 2 || r.Commit != g.nodes[1].Commit {
		t.Errorf("node 1: %s", text(r))
	}
	g.asks(3)
	g.match()
}

// Ra5: an entry of an older term is not committed by how many have it: one that never heard of it may win still.
func TestOldEntriesWait(t *testing.T) {
	r := with(leader(1, 4, 2, 4), func(r *api.Raft) { r.Peers[0] = api.Peer{Node: 1, Next: 3, Match: 2} })
	r.Peers[1].Next = 1
	r, _, e := Step(r, added(2, 1, 4, true, 1))
	if e != api.OK || r.Commit != 0 {
		t.Errorf("error %d, commit %d: it is of term 2", e, r.Commit)
	}
	r, _, e = Step(r, added(2, 1, 4, true, 2))
	if e != api.OK || r.Commit != 2 {
		t.Errorf("error %d, commit %d: 2 and all ahead of it", e, r.Commit)
	}
}

// only delivers what goes between some nodes, till nothing of that is on its way; all else is lost.
func (g *group) only(nodes ...int) {
	g.t.Helper()
	for len(g.way) > 0 {
		m := g.way[0]
		if g.way = g.way[1:]; slices.Contains(nodes, m.From) && slices.Contains(nodes, m.To) {
			g.deliver(m)
		}
	}
}

// Ra5: a majority has entries of term 1, by a later leader whose own entry did not come yet; and another one, with an
// entry of a term between, takes them away.
func TestOldEntriesAreTakenAway(t *testing.T) {
	g := newGroup(t, 1, 5, list(1, 2, 3, 4, 5))
	for range 14 {
		g.round()
	}
	for range 20 { // more than a message has
		g.propose(1, false)
	}
	g.only(1, 2)
	for range 20 {
		g.tick(5)
		for len(g.way) > 0 && g.way[0].Kind != api.MsgAdd { // that it leads nobody hears
			m := g.way[0]
			if g.way = g.way[1:]; m.To > 2 {
				g.deliver(m)
			}
		}
	}
	g.way = nil
	g.restart(1)
	for range 24 { // it asks in term 2, which 3 has given to 5, and then in term 3
		g.only(1, 2, 3)
		g.tick(1)
	}
	for len(g.nodes[2].Log.L) < 17 && len(g.way) > 0 { // till 3 has some of them
		m := g.way[0]
		if g.way = g.way[1:]; m.From <= 3 && m.To <= 3 {
			g.deliver(m)
		}
	}
	g.deliver(added(3, 1, 3, true, 17))
	g.way = nil
	if r := g.nodes[0]; r.Role != api.Leader || r.Peers[1].Match != 22 || r.Peers[2].Match != 17 || r.Commit != 1 {
		t.Fatalf("node 1: role %d, peers %v, commit %d", r.Role, r.Peers, r.Commit)
	}
	for range 50 {
		g.tick(5)
		g.only(3, 4, 5)
	}
	if r := g.nodes[2]; r.Leads != 5 || r.Log.L[1].Term != 2 || r.Commit < 2 {
		t.Fatalf("node 3: %s", text(r))
	}
	for range 40 {
		g.round()
	}
	g.asks(3)
	g.match()
}
