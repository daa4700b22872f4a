package conf

import (
	"math/rand"
	"slices"
	"testing"

	"gudgeon/api"
	"gudgeon/quorum"
	"gudgeon/raft"
)

// set is which nodes are had: the lowest bit is node 1.
type set uint

// everything is how many sets there are.
const everything = set(1) << api.MaxNodes

// nodes is a set's, rising.
func (s set) nodes() []int {
	var l []int
	for node := 1; node <= api.MaxNodes; node++ {
		if s>>(node-1)&1 == 1 {
			l = append(l, node)
		}
	}
	return l
}

// steps is a way's sets, by the chapter's words: each bit of to that is missing, from the lowest on, then each that is too much.
func steps(from, to set) [][]int {
	l := lists(from.nodes())
	for bit := set(1); bit < everything; bit <<= 1 {
		if to&^from&bit != 0 {
			from |= bit
			l = append(l, from.nodes())
		}
	}
	for bit := set(1); bit < everything; bit <<= 1 {
		if from&^to&bit != 0 {
			from &^= bit
			l = append(l, from.nodes())
		}
	}
	return l
}

// pairs calls do with all voters, from and to.
func pairs(do func(from, to set)) {
	for from := set(1); from < everything; from++ {
		for to := set(1); to < everything; to++ {
			do(from, to)
		}
	}
}

// Co1: all voters, and all others.
func TestWayByWords(t *testing.T) {
	pairs(func(from, to set) {
		goes(t, from.nodes(), to.nodes(), steps(from, to)...)
		if got, want := Learners(from.nodes(), to.nodes()), (to &^ from).nodes(); !slices.Equal(got, want) {
			t.Errorf("Learners(%d, %d): %d, not %d", from.nodes(), to.nodes(), got, want)
		}
	})
}

// Co2: each of a way may follow the one ahead, and is another one; it begins and ends where it should.
func TestWayIsSafe(t *testing.T) {
	pairs(func(from, to set) {
		way, e := Way(from.nodes(), to.nodes())
		if e != api.OK || !slices.Equal(way[0], from.nodes()) || !slices.Equal(way[len(way)-1], to.nodes()) {
			t.Fatalf("Way(%d, %d): %d, error %d", from.nodes(), to.nodes(), way, e)
		}
		for i := 1; i < len(way); i++ {
			if !quorum.Safe(way[i-1], way[i]) || slices.Equal(way[i-1], way[i]) {
				t.Errorf("Way(%d, %d): %d may not follow %d", from.nodes(), to.nodes(), way[i], way[i-1])
			}
		}
	})
}

// unlike is how many nodes one has and the other one has not.
func unlike(a, b []int) int {
	n := 0
	for node := 1; node <= api.MaxNodes; node++ {
		if slices.Contains(a, node) != slices.Contains(b, node) {
			n++
		}
	}
	return n
}

// Co2: steps from from on come to to, as many as nodes are unlike; and they are those of the way, though each asks anew.
func TestStepsComeToTheEnd(t *testing.T) {
	pairs(func(from, to set) {
		at, want := from.nodes(), to.nodes()
		way, _ := Way(at, want)
		n := 0
		for ; n <= 2*api.MaxNodes; n++ {
			next, more, e := Step(at, want)
			if e != api.OK || n < len(way) && !slices.Equal(at, way[n]) {
				t.Fatalf("step %d from %d to %d: at %d, error %d, not as %d", n, from.nodes(), want, at, e, way)
			}
			if !more {
				break
			}
			at = next
		}
		if !slices.Equal(at, want) || n != unlike(from.nodes(), want) || len(way) != n+1 {
			t.Fatalf("%d steps from %d to %d end at %d; the way is %d", n, from.nodes(), want, at, way)
		}
	})
}

// Co2: a leader that stays takes each step of a way as its next voters.
func TestLeaderTakesTheWay(t *testing.T) {
	for to := set(1); to < everything; to += 2 { // node 1 is in
		r, _ := raft.New(1, list(1))
		for range 12 {
			r, _, _ = raft.Tick(r)
		}
		way, _ := Way(list(1), to.nodes())
		back, _ := Way(to.nodes(), list(1))
		for _, voters := range slices.Concat(way[1:], back[1:]) {
			var data []byte
			for _, node := range voters {
				data = append(data, byte(node))
			}
			next, _, index, e := raft.Propose(r, api.EntryConfig, data)
			if e != api.OK {
				t.Fatalf("to %d and back: %d is refused by %d", to.nodes(), voters, e)
			}
			r = acknowledged(t, next, voters, index)
		}
	}
}

// acknowledged is a leader whose other voters have all up to an entry, so that it is committed.
func acknowledged(t *testing.T, r api.Raft, voters []int, index uint64) api.Raft {
	t.Helper()
	for _, node := range voters {
		if node != r.Node {
			r, _, _ = raft.Step(r, api.Msg{Kind: api.MsgAdded, From: node, To: r.Node, Term: r.Term, Ok: true, Match: index})
		}
	}
	if r.Commit != index {
		t.Fatalf("%d is committed, not %d", r.Commit, index)
	}
	return r
}

// Co1: chance numbers near one another, at both ends of what a number may be, held against the words by counting.
func TestCaughtByWords(t *testing.T) {
	r := rand.New(rand.NewSource(15))
	for range 20000 {
		base := [...]uint64{0, 1 << 32, 1<<63 - 10, top - 40}[r.Intn(4)]
		match, commit, last := base+uint64(r.Intn(40)), base+uint64(r.Intn(40)), base+uint64(r.Intn(40))
		behind := 0
		for i := match; i < last && behind < 100; i++ {
			behind++
		}
		node := 1 + r.Intn(api.MaxNodes)
		p := []api.Peer{{Node: node%api.MaxNodes + 1, Match: top}, {Node: node, Match: match}, {Node: node, Match: commit}}
		caughtUp(t, p, node, commit, last, match >= commit || behind <= 8)
	}
}

// R4: the same calls tell the same, whatever was asked meanwhile.
func TestSameAgain(t *testing.T) {
	first, _ := Way(list(1, 2, 3), list(3, 4, 5))
	pairs(func(from, to set) { Step(from.nodes(), to.nodes()) })
	if again, e := Way(list(1, 2, 3), list(3, 4, 5)); e != api.OK || !same(first, again) {
		t.Errorf("Way: %d, then %d, error %d", first, again, e)
	}
}
