package raft

import (
	"fmt"
	"math/rand"
	"slices"
	"testing"

	"gudgeon/api"
	"gudgeon/rlog"
)

// nodes tells whether numbers are nodes, rising, by counting each one.
func nodes(l []int) bool {
	var rising []int
	for n := 1; n <= 7; n++ {
		if slices.Contains(l, n) {
			rising = append(rising, n)
		}
	}
	return slices.Equal(l, rising)
}

// may tells whether a state may be, by the chapter's words, one by one.
func may(r api.Raft) bool {
	if r.Node < 1 || r.Node > 7 || r.Term > high || r.Vote < 0 || r.Vote > 7 || r.Leads < 0 || r.Leads > 7 || r.Elapsed < 0 || r.Elapsed > 1000 {
		return false
	}
	all := append([]api.Entry{r.Log.Base}, r.Log.L...)
	last := all[len(all)-1]
	if rlog.Check(r.Log) != api.OK || last.Term > r.Term || r.Commit < all[0].Index || r.Commit > last.Index {
		return false
	}
	var peers []int
	for _, p := range r.Peers {
		peers = append(peers, p.Node)
		if p.Match >= p.Next || p.Next > last.Index+1 {
			return false
		}
	}
	switch r.Role {
	case api.Follower:
		return len(r.Votes)+len(r.Peers) == 0
	case api.Candidate:
		return nodes(r.Votes) && len(r.Peers) == 0
	case api.Leader:
		return len(r.Votes) == 0 && slices.Equal(peers, rlog.Voters(r.Log))
	}
	return false
}

// mayMsg tells whether a message may be, by the chapter's words.
func mayMsg(m api.Msg) bool {
	if m.Kind < 1 || m.Kind > 5 || m.From < 1 || m.From > 7 || m.To < 1 || m.To > 7 || m.From == m.To || m.Term < 1 || m.Term > high {
		return false
	}
	if len(m.Entries) > 16 || m.Index > high || m.Match > high || m.Commit > high || m.Prev > m.Term && m.Kind != api.MsgAsk {
		return false
	}
	term := m.Prev
	for i, e := range m.Entries {
		if e.Index != m.Index+uint64(i)+1 || e.Term < term || e.Term > m.Term || e.Kind < 0 || e.Kind > 2 || len(e.Data) > 4096 {
			return false
		}
		if e.Kind == api.EntryConfig && (len(e.Data) == 0 || !nodes(nodesOf(e.Data))) {
			return false
		}
		term = e.Term
	}
	if m.Kind == api.MsgSnap {
		return m.Snap.Index <= high && m.Snap.Term <= m.Term && m.Snap.Kind == 0 && len(m.Snap.Data) > 0 && nodes(nodesOf(m.Snap.Data))
	}
	return text(m.Snap) == text(api.Entry{})
}

// word is a state that turns by the chapter's words, and what it said.
type word struct {
	r    api.Raft
	said []api.Msg
	had  map[string]int // what was done, and how often
}

// end is the last entry.
func (w *word) end() api.Entry {
	return append([]api.Entry{w.r.Log.Base}, w.r.Log.L...)[len(w.r.Log.L)]
}

// at is the term at an Index; -1: there is none.
func (w *word) at(index uint64) int {
	for _, e := range append([]api.Entry{w.r.Log.Base}, w.r.Log.L...) {
		if e.Index == index {
			return int(e.Term)
		}
	}
	return -1
}

// majority tells whether more than half of the voters are so.
func (w *word) majority(so func(node int) bool) bool {
	n := 0
	for _, node := range rlog.Voters(w.r.Log) {
		if so(node) {
			n++
		} else {
			n--
		}
	}
	return n > 0
}

// say sends a message.
func (w *word) say(to int, m api.Msg) {
	m.From, m.To, m.Term = w.r.Node, to, w.r.Term
	w.said = append(w.said, m)
}

// commits: it commits.
func (w *word) commits() {
	for index := w.end().Index; index > w.r.Commit; index-- {
		has := w.majority(func(node int) bool {
			return slices.ContainsFunc(w.r.Peers, func(p api.Peer) bool { return p.Node == node && p.Match >= index })
		})
		if has { // the greatest one that a majority has: no lower one is looked at
			if w.at(index) == int(w.r.Term) {
				w.had["commit"]++
				w.r.Commit = index
			} else {
				w.had["no commit"]++
			}
			return
		}
	}
}

// tells: it tells a peer.
func (w *word) tells(node int) {
	i := slices.IndexFunc(w.r.Peers, func(p api.Peer) bool { return p.Node == node })
	next, l := w.r.Peers[i].Next, w.r.Log
	if next <= l.Base.Index {
		w.had["tell snap"]++
		w.say(node, api.Msg{Kind: api.MsgSnap, Snap: l.Base, Index: l.Base.Index, Prev: l.Base.Term, Commit: w.r.Commit})
		return
	}
	m := api.Msg{Kind: api.MsgAdd, Index: next - 1, Prev: uint64(w.at(next - 1)), Commit: w.r.Commit}
	for _, e := range l.L {
		if e.Index >= next && e.Index < next+16 {
			m.Entries = append(m.Entries, e)
		}
	}
	w.had[fmt.Sprint("tell ", min(len(m.Entries), 2))]++
	w.say(node, m)
}

// tellsAll: it tells all others.
func (w *word) tellsAll() {
	for _, node := range rlog.Voters(w.r.Log) {
		if node != w.r.Node {
			w.tells(node)
		}
	}
}

// has takes an entry more, and what follows of it for a leader.
func (w *word) has(kind int, data []byte) uint64 {
	e := api.Entry{Index: w.end().Index + 1, Term: w.r.Term, Kind: kind, Data: data}
	w.r.Log.L = append(slices.Clone(w.r.Log.L), e)
	old := w.r.Peers
	w.r.Peers = nil
	for _, node := range rlog.Voters(w.r.Log) {
		p := api.Peer{Node: node, Next: e.Index}
		for _, q := range old {
			if q.Node == node {
				p = q
			}
		}
		if node == w.r.Node {
			p = api.Peer{Node: node, Next: e.Index + 1, Match: e.Index}
		}
		w.r.Peers = append(w.r.Peers, p)
	}
	w.commits()
	w.tellsAll()
	return e.Index
}

// room tells whether the log has room.
func (w *word) room() bool {
	return len(w.r.Log.L) < 4096 && w.end().Index < high
}

// leads: it leads, if a majority granted, and there is room.
func (w *word) leads() bool {
	if !w.majority(func(node int) bool { return slices.Contains(w.r.Votes, node) }) {
		return false
	}
	if w.room() {
		w.had["lead"]++
		w.r.Role, w.r.Leads, w.r.Votes, w.r.Elapsed = api.Leader, w.r.Node, nil, 0
		w.has(api.EntryNone, nil)
	}
	return true
}

// tick is Tick by the chapter's words.
func (w *word) tick() {
	r := &w.r
	if r.Elapsed < 1000 {
		r.Elapsed++
	}
	if r.Role == api.Leader {
		if r.Elapsed > 1 {
			w.had["heartbeat"]++
			r.Elapsed = 0
			w.tellsAll()
		}
		return
	}
	if !slices.Contains(rlog.Voters(r.Log), r.Node) || r.Elapsed < 10+r.Node+r.Node || r.Term == high {
		return
	}
	w.had["ask"]++
	*r = api.Raft{Node: r.Node, Term: r.Term + 1, Vote: r.Node, Role: api.Candidate, Votes: list(r.Node), Log: r.Log, Commit: r.Commit}
	if w.leads() {
		return
	}
	for _, node := range rlog.Voters(r.Log) {
		if node != r.Node {
			w.say(node, api.Msg{Kind: api.MsgAsk, Index: w.end().Index, Prev: w.end().Term})
		}
	}
}

// step is Step by the chapter's words.
func (w *word) step(m api.Msg) {
	r := &w.r
	if m.Term > r.Term {
		w.had["follow"]++
		*r = api.Raft{Node: r.Node, Term: m.Term, Log: r.Log, Commit: r.Commit, Elapsed: r.Elapsed}
	}
	switch {
	case m.Term < r.Term && m.Kind == api.MsgAsk:
		w.say(m.From, api.Msg{Kind: api.MsgVote})
	case m.Term < r.Term && (m.Kind == api.MsgAdd || m.Kind == api.MsgSnap):
		w.say(m.From, api.Msg{Kind: api.MsgAdded})
	case m.Term < r.Term:
	case m.Kind == api.MsgAsk:
		newer := m.Prev > w.end().Term || m.Prev == w.end().Term && m.Index >= w.end().Index
		ok := r.Role == api.Follower && (r.Vote == 0 || r.Vote == m.From) && newer
		if ok {
			r.Vote, r.Elapsed = m.From, 0
		}
		w.had[fmt.Sprint("vote ", ok)]++
		w.say(m.From, api.Msg{Kind: api.MsgVote, Ok: ok})
	case m.Kind == api.MsgVote:
		if r.Role == api.Candidate && m.Ok && slices.Contains(rlog.Voters(r.Log), m.From) {
			r.Votes = append(slices.DeleteFunc(slices.Clone(r.Votes), func(n int) bool { return n == m.From }), m.From)
			slices.Sort(r.Votes)
			w.leads()
		}
	case m.Kind == api.MsgAdded:
		w.added(m)
	case r.Role == api.Leader:
		w.had["a leader's to a leader"]++
	default:
		r.Role, r.Votes, r.Leads, r.Elapsed = api.Follower, nil, m.From, 0
		w.sent(m)
	}
}

// added is what a leader does with MsgAdded.
func (w *word) added(m api.Msg) {
	for i, p := range w.r.Peers {
		switch {
		case w.r.Role != api.Leader || p.Node != m.From:
		case m.Ok && m.Match <= w.end().Index:
			if m.Match > p.Match {
				p.Match = m.Match
			}
			if p.Match+1 > p.Next {
				p.Next = p.Match + 1
			}
			w.r.Peers = slices.Replace(slices.Clone(w.r.Peers), i, i+1, p)
			w.commits()
			if p.Next <= w.end().Index {
				w.had["more"]++
				w.tells(p.Node)
			}
		case !m.Ok:
			if p.Next--; m.Match+1 < p.Next {
				p.Next = m.Match + 1
			}
			if p.Next <= p.Match {
				p.Next = p.Match + 1
			}
			w.r.Peers = slices.Replace(slices.Clone(w.r.Peers), i, i+1, p)
			w.had["back"]++
			w.tells(p.Node)
		}
	}
}

// sent is what a follower does with MsgAdd and MsgSnap.
func (w *word) sent(m api.Msg) {
	r := &w.r
	if m.Kind == api.MsgSnap {
		if m.Snap.Index > r.Commit {
			left := []api.Entry(nil)
			base := m.Snap
			if w.at(m.Snap.Index) == int(m.Snap.Term) {
				w.had["snap, and entries"]++
				base.Data = nil
				for _, n := range rlog.Voters(api.Log{Base: r.Log.Base, L: slices.DeleteFunc(slices.Clone(r.Log.L), func(e api.Entry) bool { return e.Index > base.Index })}) {
					base.Data = append(base.Data, byte(n))
				}
				left = slices.DeleteFunc(slices.Clone(r.Log.L), func(e api.Entry) bool { return e.Index <= base.Index })
			} else {
				w.had["snap alone"]++
			}
			r.Log, r.Commit = api.Log{Base: base, L: left}, base.Index
		}
		w.say(m.From, api.Msg{Kind: api.MsgAdded, Ok: true, Match: r.Commit})
		return
	}
	for _, e := range m.Entries {
		if had := w.at(e.Index); e.Index <= r.Commit && had >= 0 && had != int(e.Term) {
			w.had["undone"]++
			return
		}
	}
	l, last, e := rlog.Merge(r.Log, m.Index, m.Prev, m.Entries)
	w.had[fmt.Sprint("merge ", e)]++
	switch e {
	case api.OK:
		r.Log = l
		if to := min(last, m.Commit); to > r.Commit {
			r.Commit = to
		}
		w.say(m.From, api.Msg{Kind: api.MsgAdded, Ok: true, Match: last})
	case api.ErrOld:
		w.say(m.From, api.Msg{Kind: api.MsgAdded, Ok: true, Match: r.Log.Base.Index})
	case api.ErrGap:
		m.Index = max(m.Index, 1)
		w.say(m.From, api.Msg{Kind: api.MsgAdded, Match: min(w.end().Index, m.Index-1)})
	}
}

// propose is Propose by the chapter's words; the error, or the Index.
func (w *word) propose(kind int, data []byte) (uint64, api.Errno) {
	voters := kind == api.EntryConfig
	above := slices.ContainsFunc(w.r.Log.L, func(e api.Entry) bool { return e.Index > w.r.Commit && e.Kind == api.EntryConfig })
	unlike := 0
	for n := 1; n <= 7; n++ {
		if slices.Contains(rlog.Voters(w.r.Log), n) != slices.Contains(nodesOf(data), n) {
			unlike++
		}
	}
	switch {
	case w.r.Role != api.Leader:
		return 0, api.ErrNone
	case kind < 1 || kind > 2 || len(data) > 4096 || voters && (len(data) == 0 || !nodes(nodesOf(data))):
		return 0, api.ErrArg
	case voters && (w.at(w.r.Commit) != int(w.r.Term) || above):
		return 0, api.ErrWait
	case voters && unlike > 1:
		return 0, api.ErrArg
	case !w.room():
		return 0, api.ErrFull
	}
	return w.has(kind, data), api.OK
}

// someVoters is voters by chance, as bytes; now and then none.
func someVoters(r *rand.Rand) []byte {
	var data []byte
	for n := byte(1); n <= 4; n++ {
		if r.Intn(4) > 0 {
			data = append(data, n)
		}
	}
	if r.Intn(60) == 0 {
		return [][]byte{nil, {0}, {8}, {1, 1}, {2, 1}}[r.Intn(5)]
	}
	if len(data) == 0 {
		return []byte{2}
	}
	return data
}

// someEntries is entries by chance behind an index and a term, of terms up to most.
func someEntries(r *rand.Rand, n int, index, term, most uint64) []api.Entry {
	var l []api.Entry
	for i := range n {
		if r.Intn(3) == 0 && term < most {
			term++
		}
		e := entry(index+uint64(i)+1, term, r.Intn(2), byte(r.Intn(256)))
		if r.Intn(9) == 0 {
			e.Kind, e.Data = api.EntryConfig, someVoters(r)
		}
		l = append(l, e)
	}
	return l
}

// someState is a state by chance, right but now and then.
func someState(r *rand.Rand) api.Raft {
	s := api.Raft{Node: 1 + r.Intn(4), Term: 1 + uint64(r.Intn(5)), Vote: r.Intn(5), Role: r.Intn(3), Leads: r.Intn(5), Elapsed: r.Intn(20)}
	base := entry(uint64(r.Intn(4)), uint64(r.Intn(2)), 0, someVoters(r)...)
	n := r.Intn(8)
	if r.Intn(10) == 0 {
		n = 14 + r.Intn(8)
	}
	if r.Intn(20) == 0 {
		s.Term, base.Index = high-uint64(r.Intn(2)), high-uint64(r.Intn(8))
	}
	s.Log = api.Log{Base: base, L: someEntries(r, n, base.Index, base.Term, s.Term)}
	s.Commit = base.Index + uint64(r.Intn(n+1))
	switch s.Role {
	case api.Candidate:
		s.Votes = slices.DeleteFunc(list(1, 2, 3, 4, 5), func(int) bool { return r.Intn(2) == 0 })
	case api.Leader:
		last := base.Index + uint64(n)
		for _, node := range rlog.Voters(s.Log) {
			p := api.Peer{Node: node, Next: last + 1 - uint64(r.Intn(int(min(last, 10))+1))}
			p.Match = p.Next - 1 - uint64(r.Intn(int(min(p.Next-1, 4))+1))
			s.Peers = append(s.Peers, p)
		}
	}
	spoilState(r, &s)
	return s
}

// spoilState makes a state now and then one that may not be, or lies at an edge.
func spoilState(r *rand.Rand, s *api.Raft) {
	switch r.Intn(100) {
	case 0:
		s.Node = r.Intn(10) - 1
	case 1:
		s.Vote, s.Leads = r.Intn(10)-1, r.Intn(10)-1
	case 2:
		s.Elapsed = []int{-1, 998, 999, 1000, 1001}[r.Intn(5)]
	case 3:
		s.Role = r.Intn(6) - 1
	case 4:
		s.Commit = s.Log.Base.Index + uint64(r.Intn(8)) - 1
	case 5:
		s.Votes = append(s.Votes, r.Intn(9))
	case 6:
		s.Peers = append(s.Peers, api.Peer{Node: r.Intn(9), Next: 1})
	case 7:
		if len(s.Peers) > 0 {
			s.Peers[0].Next, s.Peers[0].Match = uint64(r.Intn(9)), uint64(r.Intn(9))
		}
	case 8:
		s.Term = uint64(r.Intn(4))
	}
}

// someMsg is a message by chance that a state may be sent, right but now and then.
func someMsg(r *rand.Rand, s api.Raft) api.Msg {
	m := api.Msg{Kind: 1 + r.Intn(5), From: 1 + r.Intn(5), To: s.Node, Term: s.Term + uint64(r.Intn(8)/5) - uint64(r.Intn(8)/7), Ok: r.Intn(3) > 0}
	m.Index = s.Log.Base.Index + uint64(r.Intn(10))
	if r.Intn(4) == 0 {
		m.Index -= uint64(r.Intn(4))
	}
	m.Prev, _ = rlog.Term(s.Log, m.Index)
	if r.Intn(4) == 0 {
		m.Prev = uint64(r.Intn(6))
	}
	m.Match, m.Commit = s.Log.Base.Index+uint64(r.Intn(10)), s.Log.Base.Index+uint64(r.Intn(12))
	if m.Kind == api.MsgAdd {
		m.Entries = rlog.Slice(s.Log, m.Index+1, r.Intn(4))
		if r.Intn(2) == 0 {
			m.Entries = someEntries(r, r.Intn(5), m.Index, m.Prev, m.Term)
		}
	}
	if m.Kind == api.MsgSnap {
		m.Snap = entry(m.Index, m.Prev, 0, someVoters(r)...)
	}
	switch r.Intn(60) {
	case 0:
		m.From, m.To = r.Intn(9), r.Intn(9)
	case 1:
		m.Term = uint64(r.Intn(2)) * (high + uint64(r.Intn(2)))
	case 2:
		m.Snap = entry(uint64(r.Intn(9)), uint64(r.Intn(5)), r.Intn(2), someVoters(r)...)
	case 3:
		m.Index, m.Match, m.Commit = high+uint64(r.Intn(2)), high+uint64(r.Intn(2)), high+uint64(r.Intn(2))
	case 4:
		m.Kind = r.Intn(9) - 1
	case 5:
		m.Entries = someEntries(r, r.Intn(20), m.Index, m.Prev, m.Term+1)
	}
	return m
}

// Ra1 to Ra4: states and messages by chance, many of them right, held against the chapter's words.
func TestAllByWords(t *testing.T) {
	had := map[string]int{}
	for seed := range int64(60000) {
		r := rand.New(rand.NewSource(seed))
		s := someState(r)
		m := someMsg(r, s)
		if e := CheckMsg(m); (e == api.OK) != mayMsg(m) {
			t.Fatalf("CheckMsg(%s): error %d", text(m), e)
		}
		if e := Check(s); (e == api.OK) != may(s) {
			t.Fatalf("Check(%s): error %d", text(s), e)
		}
		if !may(s) {
			had["wrong"]++
			continue
		}
		tickByWords(t, s, had)
		stepByWords(t, s, m, had)
		proposeByWords(t, r, s, had)
	}
	for _, what := range []string{"wrong", "wrong message", "lead", "commit", "no commit", "tell snap", "tell 0", "tell 1", "tell 2", "heartbeat", "ask", "follow",
		"vote true", "vote false", "a leader's to a leader", "more", "back", "snap, and entries", "snap alone", "undone", "merge error 0", "merge error 7", "merge error 12",
		"propose error 0", "propose error 1", "propose error 2", "propose error 4", "propose error 9"} {
		if had[what] < 30 {
			t.Errorf("%s: %d times", what, had[what])
		}
	}
}

// tickByWords holds Tick against the words.
func tickByWords(t *testing.T, s api.Raft, had map[string]int) {
	t.Helper()
	w := &word{r: deep(s), had: had}
	w.tick()
	got, sent, e := Tick(s)
	equal(t, "Tick of "+text(s), text(got, sent, e), text(w.r, w.said, api.OK))
}

// stepByWords holds Step against the words.
func stepByWords(t *testing.T, s api.Raft, m api.Msg, had map[string]int) {
	t.Helper()
	w := &word{r: deep(s), had: had}
	code := api.OK
	if mayMsg(m) && m.To == s.Node {
		w.step(m)
	} else {
		had["wrong message"]++
		w.r, code = api.Raft{}, api.ErrArg
	}
	got, sent, e := Step(s, m)
	equal(t, "Step of "+text(s, m), text(got, sent, e), text(w.r, w.said, code))
	if e == api.OK {
		is(t, "Step", got, api.OK)
	}
}

// proposeByWords holds Propose against the words.
func proposeByWords(t *testing.T, r *rand.Rand, s api.Raft, had map[string]int) {
	t.Helper()
	w := &word{r: deep(s), had: had}
	kind, data := r.Intn(5)-1, someVoters(r)
	index, code := w.propose(kind, data)
	had[fmt.Sprint("propose ", code)]++
	if code != api.OK {
		w.r = api.Raft{}
	}
	got, sent, n, e := Propose(s, kind, data)
	equal(t, "Propose of "+text(s, kind, data), text(got, sent, n, e), text(w.r, w.said, index, code))
}

// R4: the same calls tell the same.
func TestSameAgain(t *testing.T) {
	told := func() string {
		var all []any
		for seed := range int64(2000) {
			r := rand.New(rand.NewSource(seed))
			s := someState(r)
			a, sentA, e := Tick(s)
			b, sentB, f := Step(s, someMsg(r, s))
			c, sentC, n, g := Propose(s, 1+r.Intn(2), someVoters(r))
			d, h := Compact(s, s.Log.Base.Index+1)
			x, y := Restart(s)
			all = append(all, a, sentA, e, b, sentB, f, c, sentC, n, g, d, h, x, y)
		}
		return text(all...)
	}
	if told() != told() {
		t.Error("the same calls told otherwise")
	}
}
