package conf

import (
	"fmt"
	"math"
	"slices"
	"testing"

	"gudgeon/api"
)

// top is the greatest number that a Match, a Commit or an Index may be here.
const top = math.MaxUint64

// list is nodes.
func list(nodes ...int) []int {
	return nodes
}

// lists is voters, one behind the other.
func lists(l ...[]int) [][]int {
	return l
}

// peers is peers by their nodes and Matches. Their Nexts say nothing: they fall where Matches rise.
func peers(numbers ...uint64) []api.Peer {
	var l []api.Peer
	for i := 0; i+1 < len(numbers); i += 2 {
		l = append(l, api.Peer{Node: int(numbers[i]), Next: ^numbers[i+1], Match: numbers[i+1]})
	}
	return l
}

// wrong is what are no voters.
func wrong() [][]int {
	l := lists(
		nil, list(), list(1, 1), list(7, 7), list(1, 1, 2), list(1, 2, 2), list(1, 2, 3, 3),
		list(2, 1), list(7, 1), list(1, 3, 2), list(3, 2, 1), list(2, 3, 1), list(7, 6, 5, 4, 3, 2, 1),
		list(1, 2, 3, 4, 5, 6, 7, 7), list(1, 2, 3, 4, 5, 6, 7, 8), list(0, 1, 2, 3, 4, 5, 6, 7), list(0, 1, 2, 3, 4, 5, 6), list(2, 3, 4, 5, 6, 7, 8),
		list(math.MinInt, 1, math.MaxInt), make([]int, 100), slices.Repeat(list(1, 2, 3), 100000),
	)
	for _, node := range list(0, -1, 8, 9, -7, 255, 257, 1<<32+1, math.MaxInt, math.MinInt) {
		l = append(l, list(node), list(1, node), list(node, 1), list(node, 7), list(7, node), list(1, 2, 3, node))
	}
	return l
}

// same tells whether two are the same lists.
func same(a, b [][]int) bool {
	return slices.EqualFunc(a, b, slices.Equal)
}

// goes tells whether Way, and Step by it, tell that.
func goes(t *testing.T, from, to []int, want ...[]int) {
	t.Helper()
	if way, e := Way(from, to); e != api.OK || !same(way, want) {
		t.Errorf("Way(%d, %d): %d, error %d, not %d", from, to, way, e, want)
	}
	second, more := want[0], len(want) > 1
	if more {
		second = want[1]
	}
	if next, is, e := Step(from, to); e != api.OK || is != more || !slices.Equal(next, second) {
		t.Errorf("Step(%d, %d): %d, %t, error %d, not %d, %t", from, to, next, is, e, second, more)
	}
}

// refused tells whether all calls refuse, and tell nothing beside.
func refused(t *testing.T, from, to []int) {
	t.Helper()
	if way, e := Way(from, to); e != api.ErrArg || len(way) != 0 {
		t.Errorf("Way(%d, %d): %d, error %d, not ErrArg", from, to, way, e)
	}
	if next, more, e := Step(from, to); e != api.ErrArg || more || len(next) != 0 {
		t.Errorf("Step(%d, %d): %d, %t, error %d, not ErrArg", from, to, next, more, e)
	}
	if nodes := Learners(from, to); len(nodes) != 0 {
		t.Errorf("Learners(%d, %d): %d, not none", from, to, nodes)
	}
}

// Co1: first all that are new come in, by rising numbers, then all that are old come out, by rising numbers.
func TestWay(t *testing.T) {
	goes(t, list(1, 2, 3), list(2, 3, 4), list(1, 2, 3), list(1, 2, 3, 4), list(2, 3, 4)) // the chapter's example
	goes(t, list(1, 2, 3), list(2, 3, 4, 5), list(1, 2, 3), list(1, 2, 3, 4), list(1, 2, 3, 4, 5), list(2, 3, 4, 5))
	goes(t, list(3), list(1, 2), list(3), list(1, 3), list(1, 2, 3), list(1, 2))
	goes(t, list(1, 2), list(3), list(1, 2), list(1, 2, 3), list(2, 3), list(3))
	goes(t, list(2, 3, 4), list(1, 2, 3), list(2, 3, 4), list(1, 2, 3, 4), list(1, 2, 3))
	goes(t, list(1), list(2), list(1), list(1, 2), list(2))
	goes(t, list(7), list(1), list(7), list(1, 7), list(1))
	goes(t, list(4), list(4, 5), list(4), list(4, 5))
	goes(t, list(4, 5), list(5), list(4, 5), list(5))
	goes(t, list(2, 4, 6), list(1, 4, 7), list(2, 4, 6), list(1, 2, 4, 6), list(1, 2, 4, 6, 7), list(1, 4, 6, 7), list(1, 4, 7))
	// All nodes there are have room at once.
	goes(t, list(1, 2, 3, 4), list(5, 6, 7), list(1, 2, 3, 4), list(1, 2, 3, 4, 5), list(1, 2, 3, 4, 5, 6), list(1, 2, 3, 4, 5, 6, 7),
		list(2, 3, 4, 5, 6, 7), list(3, 4, 5, 6, 7), list(4, 5, 6, 7), list(5, 6, 7))
	goes(t, list(4), list(1, 2, 3, 4, 5, 6, 7), list(4), list(1, 4), list(1, 2, 4), list(1, 2, 3, 4), list(1, 2, 3, 4, 5), list(1, 2, 3, 4, 5, 6),
		list(1, 2, 3, 4, 5, 6, 7))
	goes(t, list(1, 2, 3, 4, 5, 6, 7), list(4), list(1, 2, 3, 4, 5, 6, 7), list(2, 3, 4, 5, 6, 7), list(3, 4, 5, 6, 7), list(4, 5, 6, 7),
		list(4, 6, 7), list(4, 7), list(4))
}

// Co1: a way from voters to themselves is they alone, and there is no step.
func TestAlike(t *testing.T) {
	for _, l := range lists(list(1), list(7), list(1, 2, 3), list(2, 4, 6), list(1, 2, 3, 4, 5, 6, 7)) {
		goes(t, l, slices.Clone(l), l)
		goes(t, l, l, l)
	}
}

// Co1: the nodes of to that from has not, rising.
func TestLearners(t *testing.T) {
	for _, c := range []struct{ from, to, want []int }{
		{list(1, 2, 3), list(2, 3, 4), list(4)}, {list(1), list(1, 6), list(6)}, {list(2, 3), list(1, 2, 3), list(1)},
		{list(1, 2, 3), list(1, 2, 3), nil}, {list(1, 2, 3), list(2), nil}, {list(1, 2), list(3), list(3)},
		{list(4), list(1, 2, 3, 4, 5, 6, 7), list(1, 2, 3, 5, 6, 7)}, {list(1, 2, 3, 4, 5, 6, 7), list(4), nil},
		{list(2, 4, 6), list(1, 3, 5, 7), list(1, 3, 5, 7)}, {list(1, 3, 5, 7), list(2, 3, 6, 7), list(2, 6)},
	} {
		if got := Learners(c.from, c.to); !slices.Equal(got, c.want) {
			t.Errorf("Learners(%d, %d): %d, not %d", c.from, c.to, got, c.want)
		}
	}
}

// Co1: of what are no voters there is no way, no step and nobody new, whichever of the two they are.
func TestWrong(t *testing.T) {
	for _, l := range wrong() {
		for _, other := range lists(list(1), list(7), list(1, 2, 3), list(1, 2, 3, 4, 5, 6, 7)) {
			refused(t, l, other)
			refused(t, other, l)
		}
		refused(t, l, l)
		refused(t, l, nil)
		refused(t, nil, l)
	}
}

// Co1: a Match that is Commit or more has caught up, and one that is 8 behind the last Index or less.
func TestCaught(t *testing.T) {
	for _, c := range []struct {
		match, commit, last uint64
		want                bool
	}{
		{5, 9, 13, true}, {5, 9, 14, false}, {5, 9, 12, true}, {5, 6, 14, false}, {5, 6, 13, true},
		{5, 5, 14, true}, {5, 4, 14, true}, {5, 5, 1000, true}, {5, 6, 1000, false}, {5, 0, top, true},
		{0, 0, 0, true}, {0, 0, 9, true}, {0, 1, 8, true}, {0, 1, 9, false}, {0, 1, 1, true}, {1, 2, 9, true}, {1, 2, 10, false},
		{8, 100, 16, true}, {8, 100, 17, false}, {91, 99, 100, false}, {92, 99, 100, true}, {99, 99, 200, true}, {98, 99, 200, false},
		// A Match beyond the last Index is not behind, and nothing wraps.
		{20, 30, 10, true}, {10, 30, 10, true}, {20, 30, 0, true}, {1, 2, 0, true}, {top, top, 0, true}, {1 << 63, top, 1, true},
		{top - 1, top, 0, true}, {top - 9, top, top, false}, {top - 8, top, top, true}, {0, top, top, false}, {0, top, 8, true},
		{3, top, top, false}, {7, top, top - 1, false}, {0, 1, 1 << 63, false}, {1<<63 - 1, 1 << 63, 1<<63 + 7, true},
		{1<<63 - 1, 1 << 63, 1<<63 + 8, false}, {top, 0, top, true}, {0, 0, top, true},
	} {
		for _, p := range [][]api.Peer{peers(4, c.match), peers(1, top, 2, 0, 4, c.match, 7, top), peers(5, 0, 4, c.match, 3, 0)} {
			caughtUp(t, p, 4, c.commit, c.last, c.want)
		}
	}
}

// caughtUp tells whether Caught tells that.
func caughtUp(t *testing.T, p []api.Peer, node int, commit, last uint64, want bool) {
	t.Helper()
	if got := Caught(p, node, commit, last); got != want {
		t.Errorf("Caught(%v, %d, %d, %d): %t, not %t", p, node, commit, last, got, want)
	}
}

// Co1: who is no peer has not caught up, though nothing is to be caught up with.
func TestCaughtNobody(t *testing.T) {
	for _, p := range [][]api.Peer{nil, {}, peers(4, 0), peers(4, top), peers(1, 9, 2, 9, 4, 9, 5, 9, 6, 9, 7, 9)} {
		for _, node := range list(3, 0, -1, 8, 4+1<<32, math.MaxInt, math.MinInt) {
			caughtUp(t, p, node, 0, 0, false)
			caughtUp(t, p, node, 5, 5, false)
		}
	}
	room := peers(1, 9, 3, 9)
	caughtUp(t, room[:1], 3, 0, 0, false) // what lies behind the list's end is no peer
}

// Co1: the first peer of a node counts, whether it has more or less; peers are asked by their number, whatever it is.
func TestCaughtFirst(t *testing.T) {
	caughtUp(t, peers(4, 5, 4, 50), 4, 50, 50, false)
	caughtUp(t, peers(4, 50, 4, 5), 4, 50, 50, true)
	caughtUp(t, peers(1, 50, 4, 5, 1, 0, 4, 50, 4, 50), 4, 50, 50, false)
	caughtUp(t, peers(1, 0, 4, 50, 1, 0, 4, 5, 4, 5), 4, 50, 50, true)
	for _, node := range list(0, -1, 8, 1000, math.MaxInt, math.MinInt) {
		caughtUp(t, []api.Peer{{Node: 1, Match: 5}, {Node: node, Match: 50}}, node, 50, 50, true)
		caughtUp(t, []api.Peer{{Node: 1, Match: 50}, {Node: node, Match: 5}}, node, 50, 50, false)
	}
	long := slices.Repeat(peers(1, 50), 1<<20)
	caughtUp(t, append(long, api.Peer{Node: 2, Match: 50}), 2, 50, 50, true)
}

// R3: what is handed in is not changed, nor what lies behind it.
func TestArgumentsStay(t *testing.T) {
	for _, c := range [][2][]int{{list(1, 2, 3), list(2, 3, 4)}, {list(2, 4), list(2, 4)}, {list(1, 2), list(5)}, {list(2, 1), list(3)}, {list(3), list(1, 2, 3, 4)}} {
		a, b := append(c[0], -1, -2, -3, -4), append(c[1], -5, -6, -7, -8)
		p := peers(6, 5, 3, 9, 2, 1, 1, 4)
		wasA, wasB, wasP := slices.Clone(a), slices.Clone(b), slices.Clone(p)
		from, to := a[:len(c[0])], b[:len(c[1])]
		Way(from, to)
		Step(from, to)
		Learners(from, to)
		Caught(p[:2], 2, 5, 5)
		Caught(p[:2], 3, 5, 5)
		if !slices.Equal(a, wasA) || !slices.Equal(b, wasB) || !slices.Equal(p, wasP) {
			t.Errorf("from %d to %d: changed: %d, %d, %v", c[0], c[1], a, b, p)
		}
	}
}

// spoil changes nodes, and the room behind them.
func spoil(l []int) {
	l = l[:cap(l)]
	for i := range l {
		l[i] = 99
	}
}

// R3: no two lists of an answer share memory, and no answer shares any with an argument or with another answer.
func TestMemory(t *testing.T) {
	for _, c := range [][2][]int{{list(1, 2, 3), list(2, 3, 4)}, {list(2, 4), list(2, 4)}, {list(1), list(1)}, {list(1, 2), list(5)}, {list(3), list(1, 2, 3, 4)}, {list(1, 2, 3, 4, 5), list(5)}} {
		from, to := append(c[0], -1, -2, -3, -4)[:len(c[0])], append(c[1], -1, -2, -3, -4)[:len(c[1])]
		way, _ := Way(from, to)
		next, _, _ := Step(from, to)
		answers := append(slices.Clone(way), next, Learners(from, to))
		again, _ := Way(from, to)
		all := append(answers, from, to)
		all = append(all, again...)
		apart(t, fmt.Sprintf("from %d to %d", c[0], c[1]), all)
	}
}

// apart tells whether lists share no memory: each one is spoilt, and those behind it, and ahead of it, stay.
func apart(t *testing.T, what string, all [][]int) {
	t.Helper()
	for i, l := range all {
		var was [][]int
		for _, other := range all {
			was = append(was, slices.Clone(other[:cap(other)]))
		}
		spoil(l)
		for j, other := range all {
			if i != j && !slices.Equal(other[:cap(other)], was[j]) {
				t.Errorf("%s: lists %d and %d share memory", what, i, j)
			}
		}
		copy(l[:cap(l)], was[i])
	}
}
