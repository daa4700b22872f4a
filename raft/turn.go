package raft

import (
	"slices"

	"gudgeon/api"
	"gudgeon/quorum"
	"gudgeon/rlog"
)

// turn is a state that turns, and what it sends meanwhile.
type turn struct {
	api.Raft
	sent []api.Msg
}

// turnOf begins a turn, in memory of its own: what was handed in stays as it is.
func turnOf(r api.Raft) *turn {
	r.Log, r.Votes, r.Peers = copyOfLog(r.Log), slices.Clone(r.Votes), slices.Clone(r.Peers)
	return &turn{Raft: r}
}

// tick lets time pass. Waits are unlike, by the nodes' numbers, so that nodes which began at once don't ask at once.
func (t *turn) tick() {
	t.Elapsed = min(t.Elapsed+1, mostElapsed)
	switch {
	case t.Role == api.Leader:
		if t.Elapsed >= api.Heartbeat {
			t.Elapsed = 0
			t.tellOthers()
		}
	case t.isVoter(t.Node) && t.Elapsed >= api.Election+2*t.Node && t.Term < most:
		t.ask()
	}
}

// step takes a message: one of a later term is one of its own, once it follows that.
func (t *turn) step(m api.Msg) {
	switch {
	case m.Term > t.Term:
		t.follow(m.Term)
		fallthrough
	case m.Term == t.Term:
		t.take(m)
	default:
		t.refuse(m)
	}
}

// take takes a message of its own term. Whatever a leader sends says that it leads: that counts first, and stays, though
// its entries may be refused.
func (t *turn) take(m api.Msg) {
	switch m.Kind {
	case api.MsgAsk:
		t.grant(m)
	case api.MsgVote:
		t.count(m)
	case api.MsgAdd:
		if t.heed(m.From) {
			t.merge(m)
		}
	case api.MsgSnap:
		if t.heed(m.From) {
			t.restore(m)
		}
	case api.MsgAdded:
		t.hear(m)
	}
}

// refuse answers what is of a term that is over, so that its sender hears of this one.
func (t *turn) refuse(m api.Msg) {
	switch m.Kind {
	case api.MsgAsk:
		t.answer(m, api.MsgVote, false, 0)
	case api.MsgAdd, api.MsgSnap:
		t.answer(m, api.MsgAdded, false, 0)
	}
}

// follow comes to a term of which it knows nothing yet.
func (t *turn) follow(term uint64) {
	t.Term, t.Vote, t.Role, t.Leads, t.Votes, t.Peers = term, 0, api.Follower, 0, nil, nil
}

// ask begins a term, and asks for votes in it.
func (t *turn) ask() {
	t.follow(t.Term + 1)
	t.Vote, t.Role, t.Elapsed, t.Votes = t.Node, api.Candidate, 0, []int{t.Node}
	if t.won() {
		t.lead()
		return
	}
	index, term := rlog.Last(t.Log)
	for _, node := range rlog.Voters(t.Log) {
		if node != t.Node {
			t.send(node, api.Msg{Kind: api.MsgAsk, Index: index, Prev: term})
		}
	}
}

// lead begins to lead, by an entry of its own term: what older terms left is committed with that, and not ahead of it.
func (t *turn) lead() {
	log, e := rlog.Append(t.Log, t.Term, api.EntryNone, nil)
	if e != api.OK {
		return
	}
	t.Role, t.Leads, t.Votes, t.Elapsed = api.Leader, t.Node, nil, 0
	t.grow(log)
}

// grow takes a leader's log with an entry more, which may turn its voters.
func (t *turn) grow(log api.Log) {
	index, _ := rlog.Last(log)
	var peers []api.Peer
	for _, node := range rlog.Voters(log) {
		p := api.Peer{Node: node, Next: index}
		if i := t.peer(node); i >= 0 {
			p = t.Peers[i]
		}
		if node == t.Node {
			p.Next, p.Match = index+1, index
		}
		peers = append(peers, p)
	}
	t.Log, t.Peers = log, peers
	t.commit()
	t.tellOthers()
}

// commit takes what a majority has, if it is of this term: an entry of an older one may be taken away still.
func (t *turn) commit() {
	index := quorum.Commit(rlog.Voters(t.Log), t.Peers)
	if term, ok := rlog.Term(t.Log, index); ok && term == t.Term && index > t.Commit {
		t.Commit = index
	}
}

// tellOthers tells all peers but itself.
func (t *turn) tellOthers() {
	t.tell(func(node int) bool { return node != t.Node })
}

// tell tells those of its peers that it is to.
func (t *turn) tell(whom func(node int) bool) {
	for _, p := range t.Peers {
		if whom(p.Node) {
			t.send(p.Node, t.news(p))
		}
	}
}

// news is what a peer lacks: a snapshot, if what comes next is compacted already.
func (t *turn) news(p api.Peer) api.Msg {
	base := t.Log.Base
	if p.Next <= base.Index {
		return api.Msg{Kind: api.MsgSnap, Index: base.Index, Prev: base.Term, Commit: t.Commit, Snap: copyOfEntry(base)}
	}
	term, _ := rlog.Term(t.Log, p.Next-1)
	return api.Msg{Kind: api.MsgAdd, Index: p.Next - 1, Prev: term, Commit: t.Commit, Entries: rlog.Slice(t.Log, p.Next, api.MaxBatch)}
}

// grant answers who asks for a vote.
func (t *turn) grant(m api.Msg) {
	ok := t.Role == api.Follower && (t.Vote == 0 || t.Vote == m.From) && rlog.Fresh(t.Log, m.Index, m.Prev)
	if ok {
		t.Vote, t.Elapsed = m.From, 0
	}
	t.answer(m, api.MsgVote, ok, 0)
}

// count takes a vote, and leads if that is enough.
func (t *turn) count(m api.Msg) {
	if t.Role != api.Candidate || !m.Ok || !t.isVoter(m.From) {
		return
	}
	if i, had := slices.BinarySearch(t.Votes, m.From); !had {
		t.Votes = slices.Insert(t.Votes, i, m.From)
	}
	if t.won() {
		t.lead()
	}
}

// heed knows who leads; false: it does itself.
func (t *turn) heed(leader int) bool {
	if t.Role == api.Leader {
		return false
	}
	t.Role, t.Votes, t.Leads, t.Elapsed = api.Follower, nil, leader, 0
	return true
}

// merge takes a leader's entries.
func (t *turn) merge(m api.Msg) {
	if t.undone(m.Entries) {
		return
	}
	log, last, e := rlog.Merge(t.Log, m.Index, m.Prev, m.Entries)
	switch e {
	case api.OK:
		t.Log, t.Commit = log, max(t.Commit, min(m.Commit, last))
		t.answer(m, api.MsgAdded, true, last)
	case api.ErrOld:
		t.answer(m, api.MsgAdded, true, t.Log.Base.Index)
	case api.ErrGap:
		t.answer(m, api.MsgAdded, false, t.ahead(m.Index))
	}
}

// undone tells whether entries would take away what is committed: no leader sends such ones.
func (t *turn) undone(entries []api.Entry) bool {
	return slices.ContainsFunc(entries, func(e api.Entry) bool {
		term, ok := rlog.Term(t.Log, e.Index)
		return ok && term != e.Term && e.Index <= t.Commit
	})
}

// ahead is where a leader may try next, whose entries do not stand behind an index here.
func (t *turn) ahead(index uint64) uint64 {
	if index == 0 {
		return 0
	}
	return min(t.last(), index-1)
}

// restore takes a leader's snapshot. Entries behind it stay only where the log agrees with it.
func (t *turn) restore(m api.Msg) {
	index := m.Snap.Index
	if index <= t.Commit {
		t.answer(m, api.MsgAdded, true, t.Commit)
		return
	}
	log := api.Log{Base: copyOfEntry(m.Snap)}
	if term, ok := rlog.Term(t.Log, index); ok && term == m.Snap.Term {
		log, _ = rlog.Compact(t.Log, index) // it is above Commit, and there: Compact takes it
	}
	t.Log, t.Commit = log, index
	t.answer(m, api.MsgAdded, true, index)
}

// hear takes what a peer says of its log. Only a leader has peers. What comes late may say less than was known:
// Match never falls, and Next not below it.
func (t *turn) hear(m api.Msg) {
	i, last := t.peer(m.From), t.last()
	if i < 0 || m.Ok && m.Match > last {
		return
	}
	p := &t.Peers[i]
	if m.Ok {
		p.Match, p.Next = max(p.Match, m.Match), max(p.Next, m.Match+1)
		t.commit()
	} else {
		p.Next = max(p.Match+1, min(m.Match+1, p.Next-1))
	}
	if !m.Ok || p.Next <= last {
		t.tell(func(node int) bool { return node == m.From })
	}
}

// answer sends what a message asks for to where it came from.
func (t *turn) answer(m api.Msg, kind int, ok bool, match uint64) {
	t.send(m.From, api.Msg{Kind: kind, Ok: ok, Match: match})
}

// send puts a message on its way.
func (t *turn) send(to int, m api.Msg) {
	m.From, m.To, m.Term = t.Node, to, t.Term
	t.sent = append(t.sent, m)
}

// won tells whether a majority granted.
func (t *turn) won() bool {
	return quorum.Won(rlog.Voters(t.Log), t.Votes)
}

// isVoter tells whether a node is one of its voters.
func (t *turn) isVoter(node int) bool {
	return slices.Contains(rlog.Voters(t.Log), node)
}

// peer is where a node is among its peers; -1: nowhere.
func (t *turn) peer(node int) int {
	return slices.IndexFunc(t.Peers, func(p api.Peer) bool { return p.Node == node })
}

// last is the last Index.
func (t *turn) last() uint64 {
	index, _ := rlog.Last(t.Log)
	return index
}
