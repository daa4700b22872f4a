package quorum

import (
	"fmt"
	"math"
	"slices"
	"testing"

	"gudgeon/api"
)

// top is the greatest Match that may be.
const top = math.MaxUint64

// list is nodes.
func list(nodes ...int) []int {
	return nodes
}

// peers is peers by their nodes and Matches. Their Nexts say nothing: they fall where Matches rise.
func peers(numbers ...uint64) []api.Peer {
	var l []api.Peer
	for i := 0; i+1 < len(numbers); i += 2 {
		l = append(l, api.Peer{Node: int(numbers[i]), Next: ^numbers[i+1], Match: numbers[i+1]})
	}
	return l
}

// right is all voters.
func right() [][]int {
	var l [][]int
	for had := set(1); had < everything; had++ {
		l = append(l, had.nodes())
	}
	return l
}

// badNodes is numbers that no node has.
func badNodes() []int {
	return list(0, -1, 8, 9, -7, 255, 257, 1<<32, 1<<32+1, 1<<32+7, math.MaxInt, math.MinInt, math.MinInt+1)
}

// wrong is what are no voters.
func wrong() [][]int {
	l := [][]int{
		nil, {},
		{1, 1}, {7, 7}, {1, 1, 2}, {1, 2, 2}, {1, 2, 2, 3}, {1, 2, 3, 3}, {3, 3, 3},
		{2, 1}, {7, 1}, {1, 3, 2}, {3, 2, 1}, {2, 3, 1}, {2, 1, 3}, {1, 2, 1}, {7, 6, 5, 4, 3, 2, 1},
		{1, 2, 3, 4, 5, 6, 7, 7}, {1, 2, 3, 4, 5, 6, 7, 8}, {0, 1, 2, 3, 4, 5, 6, 7}, {1, 1, 2, 3, 4, 5, 6, 7}, {0, 1, 2, 3, 4, 5, 6},
		{2, 3, 4, 5, 6, 7, 8}, {math.MinInt, 1, math.MaxInt},
		make([]int, 100), slices.Repeat(list(1, 2, 3), 1000),
	}
	for _, node := range badNodes() {
		l = append(l, list(node), list(1, node), list(node, 1), list(node, 7), list(7, node), list(1, node, 7), list(1, 2, 3, node))
	}
	return l
}

// says tells whether a call told that.
func says(t *testing.T, what string, got, want bool) {
	t.Helper()
	if got != want {
		t.Errorf("%s: %t, not %t", what, got, want)
	}
}

// commits tells whether Commit tells that.
func commits(t *testing.T, voters []int, p []api.Peer, want uint64) {
	t.Helper()
	if got := Commit(voters, p); got != want {
		t.Errorf("Commit(%d, %v): %d, not %d", voters, p, got, want)
	}
}

// follows tells whether Next tells that; none beside an error.
func follows(t *testing.T, voters []int, node int, in bool, want []int, code api.Errno) {
	t.Helper()
	if got, e := Next(voters, node, in); !slices.Equal(got, want) || e != code {
		t.Errorf("Next(%d, %d, %t): %d, error %d, not %d, error %d", voters, node, in, got, e, want, code)
	}
}

// Qu1: voters are nodes, 1 to 7, rising, each once, and not none.
func TestCheck(t *testing.T) {
	for _, l := range right() {
		says(t, fmt.Sprintf("Check(%d)", l), Check(l), true)
	}
	for _, l := range wrong() {
		says(t, fmt.Sprintf("Check(%d)", l), Check(l), false)
	}
}

// Qu1: a majority is half, rounded down, and one; 0 of nobody.
func TestNeed(t *testing.T) {
	for n, want := range list(0, 1, 2, 2, 3, 3, 4, 4, 5, 5, 6) {
		if got := Need(n); got != want {
			t.Errorf("Need(%d): %d, not %d", n, got, want)
		}
	}
	for _, c := range []struct{ n, want int }{
		{-1, 0}, {-2, 0}, {-3, 0}, {-100, 0}, {math.MinInt, 0}, {math.MinInt + 1, 0}, {-math.MaxInt, 0},
		{1000, 501}, {1001, 501}, {math.MaxInt, 1 << 62}, {math.MaxInt - 1, 1 << 62}, {math.MaxInt - 2, 1<<62 - 1},
		{1 << 31, 1<<30 + 1}, {1<<32 - 1, 1 << 31}, {1 << 62, 1<<61 + 1},
	} {
		if got := Need(c.n); got != c.want {
			t.Errorf("Need(%d): %d, not %d", c.n, got, c.want)
		}
	}
}

// Qu1: a majority of the voters is in granted; others, and doubled ones, do not count.
func TestWon(t *testing.T) {
	for _, c := range []struct {
		voters, granted []int
		want            bool
	}{
		{list(1), nil, false}, {list(1), list(1), true}, {list(1), list(2), false}, {list(7), list(1, 2, 3, 7), true},
		{list(1, 2), list(1), false}, {list(1, 2), list(1, 1), false}, {list(1, 2), list(2, 1), true},
		{list(1, 2, 3), nil, false}, {list(1, 2, 3), list(3), false}, {list(1, 2, 3), list(3, 1), true}, {list(1, 2, 3), list(3, 3), false},
		{list(1, 2, 3), list(3, 3, 9), false}, {list(1, 2, 3), list(4, 5, 6, 7), false}, {list(1, 2, 3), list(4, 5, 1, 6), false},
		{list(1, 2, 3), list(4, 2, 5, 1), true}, {list(1, 2, 3), list(1, 2, 3), true}, {list(1, 2, 3), list(0, -1, 8), false},
		{list(2, 5, 7), list(1, 3, 5), false}, {list(2, 5, 7), list(7, 6, 5), true},
		{list(1, 2, 3, 4), list(1, 2), false}, {list(1, 2, 3, 4), list(4, 2, 2, 4), false}, {list(1, 2, 3, 4), list(4, 2, 1), true},
		{list(1, 2, 3, 4, 5), list(5, 4), false}, {list(1, 2, 3, 4, 5), list(5, 4, 3), true},
		{list(1, 2, 3, 4, 5, 6), list(1, 2, 3), false}, {list(1, 2, 3, 4, 5, 6), list(3, 4, 5, 6), true},
		{list(1, 2, 3, 4, 5, 6, 7), list(1, 2, 3), false}, {list(1, 2, 3, 4, 5, 6, 7), list(1, 2, 3, 7), true},
		{list(1, 2, 3), slices.Repeat(list(1, 9), 5000), false}, {list(1, 2, 3), append(slices.Repeat(list(1, 9), 5000), 3), true},
	} {
		says(t, fmt.Sprintf("Won(%d, %d)", c.voters, c.granted), Won(c.voters, c.granted), c.want)
	}
}

// Qu1: so many voters are in refused that the others are no majority.
func TestLost(t *testing.T) {
	for _, c := range []struct {
		voters, refused []int
		want            bool
	}{
		{list(1), nil, false}, {list(1), list(1), true}, {list(1), list(2), false}, {list(7), list(1, 2, 3), false},
		{list(1, 2), nil, false}, {list(1, 2), list(1), true}, {list(1, 2), list(2, 2), true}, {list(1, 2), list(3), false},
		{list(1, 2, 3), nil, false}, {list(1, 2, 3), list(2), false}, {list(1, 2, 3), list(1, 2), true}, {list(1, 2, 3), list(2, 2), false},
		{list(1, 2, 3), list(2, 8, 0, -1, 4), false}, {list(1, 2, 3), list(3, 8, 2), true}, {list(1, 2, 3), list(4, 5, 6, 7), false},
		{list(2, 5, 7), list(1, 5, 6), false}, {list(2, 5, 7), list(7, 2), true},
		{list(1, 2, 3, 4), list(4), false}, {list(1, 2, 3, 4), list(4, 4), false}, {list(1, 2, 3, 4), list(4, 1), true},
		{list(1, 2, 3, 4, 5), list(4, 1), false}, {list(1, 2, 3, 4, 5), list(4, 1, 5), true},
		{list(1, 2, 3, 4, 5, 6), list(1, 2), false}, {list(1, 2, 3, 4, 5, 6), list(1, 2, 3), true},
		{list(1, 2, 3, 4, 5, 6, 7), list(1, 2, 3), false}, {list(1, 2, 3, 4, 5, 6, 7), list(1, 2, 3, 4), true},
		{list(1, 2, 3), slices.Repeat(list(1, 9), 5000), false}, {list(1, 2, 3), append(slices.Repeat(list(1, 9), 5000), 3), true},
	} {
		says(t, fmt.Sprintf("Lost(%d, %d)", c.voters, c.refused), Lost(c.voters, c.refused), c.want)
	}
}

// Qu1: the greatest number that a majority has at least.
func TestCommit(t *testing.T) {
	for _, c := range []struct {
		voters []int
		peers  []api.Peer
		want   uint64
	}{
		{list(1, 2, 3), peers(1, 5, 2, 7, 3, 2), 5}, // the chapter's example
		{list(1, 2, 3), peers(3, 2, 2, 7, 1, 5), 5},
		{list(1, 2, 3), peers(1, 5, 2, 5, 3, 5), 5},
		{list(1, 2, 3), peers(1, 5, 2, 5, 3, 9), 5},
		{list(1, 2, 3), peers(1, 5, 2, 9, 3, 9), 9},
		{list(1), peers(1, 4), 4}, {list(1), nil, 0}, {list(1), peers(2, 4), 0}, {list(7), peers(1, 9, 7, 3), 3},
		{list(1, 2), peers(1, 4, 2, 6), 4}, {list(1, 2), peers(1, 6, 2, 4), 4}, {list(1, 2), peers(1, 6), 0},
		{list(1, 2, 3, 4), peers(1, 1, 2, 2, 3, 3, 4, 4), 2}, {list(1, 2, 3, 4), peers(1, 4, 2, 4, 3, 1, 4, 1), 1},
		{list(1, 2, 3, 4, 5), peers(1, 1, 2, 2, 3, 3, 4, 4, 5, 5), 3},
		{list(1, 2, 3, 4, 5, 6), peers(1, 1, 2, 2, 3, 3, 4, 4, 5, 5, 6, 6), 3},
		{list(1, 2, 3, 4, 5, 6, 7), peers(1, 1, 2, 2, 3, 3, 4, 4, 5, 5, 6, 6, 7, 7), 4},
		// The first peer of a node counts, whether it has more or less.
		{list(1, 2, 3), peers(1, 5, 2, 7, 3, 2, 3, 9), 5}, {list(1, 2, 3), peers(3, 9, 1, 5, 3, 2, 2, 7), 7},
		{list(1, 2, 3), peers(1, 5, 1, 5, 1, 5), 0}, {list(1, 2), peers(1, 0, 2, 6, 1, 6), 0},
		// Who is no voter does not count, a voter without a peer has 0.
		{list(1, 2, 3), peers(4, 9, 5, 9, 6, 9, 1, 3), 0}, {list(1, 2, 3), peers(4, 9, 5, 9, 2, 4, 1, 3), 3},
		{list(2, 4, 6), peers(1, 9, 2, 1, 3, 9, 4, 2, 5, 9, 6, 3, 7, 9), 2},
		{list(1, 2, 3), peers(0, 9, 8, 9, top, 9, 1, 1), 0}, {list(1, 2, 3), nil, 0}, {list(1, 2, 3), []api.Peer{}, 0},
		// Numbers at the end, which no sign may turn.
		{list(1, 2, 3), peers(1, top, 2, top, 3, 0), top}, {list(1, 2, 3), peers(1, top, 2, 1<<63, 3, 1<<63-1), 1 << 63},
		{list(1, 2), peers(1, top, 2, 1), 1}, {list(1), peers(1, top), top}, {list(1, 2, 3), peers(1, 1<<63, 2, 1, 3, 2), 2},
	} {
		commits(t, c.voters, c.peers, c.want)
	}
}

// Qu2: the voters with a node, or without it.
func TestNext(t *testing.T) {
	for _, c := range []struct {
		voters []int
		node   int
		in     bool
		want   []int
		code   api.Errno
	}{
		{list(1, 2, 3), 5, true, list(1, 2, 3, 5), api.OK}, {list(2, 5), 1, true, list(1, 2, 5), api.OK}, {list(2, 5), 3, true, list(2, 3, 5), api.OK},
		{list(2, 5), 7, true, list(2, 5, 7), api.OK}, {list(1, 2, 3, 5, 6, 7), 4, true, list(1, 2, 3, 4, 5, 6, 7), api.OK},
		{list(1, 2, 3), 1, false, list(2, 3), api.OK}, {list(1, 2, 3), 2, false, list(1, 3), api.OK}, {list(1, 2, 3), 3, false, list(1, 2), api.OK},
		{list(1, 7), 1, false, list(7), api.OK}, {list(1, 2, 3, 4, 5, 6, 7), 4, false, list(1, 2, 3, 5, 6, 7), api.OK},
		{list(1, 2, 3), 2, true, nil, api.ErrSame}, {list(1, 2, 3), 4, false, nil, api.ErrSame}, {list(2), 2, true, nil, api.ErrSame},
		{list(2), 1, false, nil, api.ErrSame}, {list(2), 3, false, nil, api.ErrSame}, {list(1, 2, 3, 4, 5, 6, 7), 7, true, nil, api.ErrSame},
		{list(1), 1, false, nil, api.ErrNone}, {list(2), 2, false, nil, api.ErrNone}, {list(7), 7, false, nil, api.ErrNone},
		{nil, 1, true, nil, api.ErrArg}, {nil, 1, false, nil, api.ErrArg}, {list(1, 2, 3), 0, true, nil, api.ErrArg}, {list(1, 2, 3), 8, true, nil, api.ErrArg},
		{list(1, 2, 3), 0, false, nil, api.ErrArg}, {list(1, 2, 3), 8, false, nil, api.ErrArg}, {list(2, 1), 3, true, nil, api.ErrArg},
		{list(1, 8), 8, true, nil, api.ErrArg}, {list(8), 8, false, nil, api.ErrArg}, {list(1, 1), 1, false, nil, api.ErrArg},
	} {
		follows(t, c.voters, c.node, c.in, c.want, c.code)
	}
}

// Qu2: both are voters, and differ by one node at most; one in place of another one is two.
func TestSafe(t *testing.T) {
	for _, c := range []struct {
		a, b []int
		want bool
	}{
		{list(1), list(1), true}, {list(1), list(2), false}, {list(1), list(1, 2), true}, {list(1), list(1, 2, 3), false}, {list(1), list(2, 3), false},
		{list(1, 2, 3), list(1, 2, 3), true}, {list(1, 2, 3), list(1, 2, 3, 5), true}, {list(1, 2, 3), list(1, 3), true}, {list(1, 2, 3), list(2, 3), true},
		{list(1, 2, 3), list(1, 4), false}, {list(1, 2, 3), list(1, 2, 4), false}, {list(1, 2, 3), list(2), false}, {list(1, 2, 3), list(2, 3, 4), false},
		{list(1, 2, 3), list(1, 2, 3, 4, 5), false}, {list(1, 2, 3), list(2, 3, 4, 5), false}, {list(1, 2, 3), list(4, 5, 6), false},
		{list(1, 2, 3, 4, 5, 6, 7), list(1, 2, 3, 5, 6, 7), true}, {list(2, 3, 4, 5, 6, 7), list(1, 2, 3, 4, 5, 6, 7), true},
		{list(1, 2, 3, 4, 5, 6), list(2, 3, 4, 5, 6, 7), false},
		{nil, nil, false}, {nil, list(1), false}, {list(1), nil, false}, {list(8), list(8), false}, {list(1), list(1, 8), false},
		{list(1, 1), list(1), false}, {list(1), list(1, 1), false}, {list(2, 1), list(2, 1), false}, {list(0, 1), list(1), false},
	} {
		says(t, fmt.Sprintf("Safe(%d, %d)", c.a, c.b), Safe(c.a, c.b), c.want)
		says(t, fmt.Sprintf("Safe(%d, %d)", c.b, c.a), Safe(c.b, c.a), c.want)
	}
}

// Qu2: two lists have a node in common, in whatever order, voters or not.
func TestMeet(t *testing.T) {
	for _, c := range []struct {
		a, b []int
		want bool
	}{
		{nil, nil, false}, {nil, list(1), false}, {list(), list(1, 2, 3), false},
		{list(1), list(1), true}, {list(1), list(2), false}, {list(1, 2), list(2, 3), true}, {list(1, 2), list(3, 4), false},
		{list(1, 3, 5, 7), list(2, 4, 6), false}, {list(1, 3, 5, 7), list(2, 4, 6, 7), true}, {list(1, 2, 3), list(3, 4, 5), true},
		{list(1, 2, 3), list(4, 5, 1), true}, {list(3, 1, 2), list(6, 3, 4), true}, {list(3, 1, 2), list(6, 5, 4), false},
		{list(7, 7, 6), list(5, 6, 5), true}, {list(2, 2), list(2, 2), true}, {list(2, 2), list(1, 1), false},
		{list(5, 1, 4, 2), list(7, 6, 3, 1), true}, {list(9, 1), list(8, 1), true}, {list(1<<32 + 1), list(1), false},
	} {
		says(t, fmt.Sprintf("Meet(%d, %d)", c.a, c.b), Meet(c.a, c.b), c.want)
		says(t, fmt.Sprintf("Meet(%d, %d)", c.b, c.a), Meet(c.b, c.a), c.want)
	}
	for _, node := range badNodes() {
		says(t, fmt.Sprintf("Meet at %d", node), Meet(list(3, node), list(node, 1)), true)
	}
}

// Qu1, Qu2: what are no voters nobody wins or loses, nothing is committed by, nobody follows.
func TestWrong(t *testing.T) {
	all := peers(1, 9, 2, 9, 3, 9, 4, 9, 5, 9, 6, 9, 7, 9, 0, 9, 8, 9)
	for _, l := range wrong() {
		for _, other := range [][]int{nil, l, list(1), list(1, 2, 3, 4, 5, 6, 7), append(badNodes(), 1, 2, 3, 4, 5, 6, 7)} {
			says(t, fmt.Sprintf("Won(%d, %d)", l, other), Won(l, other), false)
			says(t, fmt.Sprintf("Lost(%d, %d)", l, other), Lost(l, other), false)
			says(t, fmt.Sprintf("Safe(%d, %d)", l, other), Safe(l, other), false)
			says(t, fmt.Sprintf("Safe(%d, %d)", other, l), Safe(other, l), false)
		}
		for _, node := range l {
			all = append(all, api.Peer{Node: node, Match: 9})
		}
		commits(t, l, all, 0)
		for node := -1; node <= 9; node++ {
			follows(t, l, node, true, nil, api.ErrArg)
			follows(t, l, node, false, nil, api.ErrArg)
		}
	}
	for _, l := range right() {
		for _, node := range badNodes() {
			follows(t, l, node, true, nil, api.ErrArg)
			follows(t, l, node, false, nil, api.ErrArg)
		}
	}
}

// Qu1, Qu2: lists that are long end the calls, too, and soon.
func TestLong(t *testing.T) {
	const n = 1 << 20
	var even, odd []int
	var p []api.Peer
	for i := range n {
		even, odd = append(even, 2*(n-i)), append(odd, 2*i+1)
		p = append(p, api.Peer{Node: 2 * (n - i), Match: uint64(i)})
	}
	says(t, "Meet of even and odd", Meet(even, odd), false)
	says(t, "Meet at the last one", Meet(append(even, 2*n-1), odd), true)
	says(t, "Check", Check(odd), false)
	says(t, "Won by even", Won(list(1, 2, 4), even), true)
	says(t, "Lost by odd", Lost(list(1, 2, 4), odd), false)
	commits(t, list(1, 2, 4), p, n-2)
}

// R3: what is handed in is not changed, nor what lies behind it, and no answer shares its memory, nor another answer's.
func TestMemory(t *testing.T) {
	for _, c := range []struct {
		node int
		in   bool
	}{{1, true}, {4, true}, {7, true}, {2, false}, {3, false}, {6, false}, {8, true}, {3, true}} {
		room := list(2, 3, 6, -1, -2, -3, -4)
		was := slices.Clone(room)
		voters := room[:3]
		first, e := Next(voters, c.node, c.in)
		second, _ := Next(voters, c.node, c.in)
		want := slices.Clone(second)
		if !slices.Equal(room, was) {
			t.Fatalf("Next(%d, %t) changed %d", c.node, c.in, room)
		}
		spoil(first)
		if !slices.Equal(room, was) || !slices.Equal(second, want) {
			t.Errorf("Next(%d, %t), error %d: answers share memory", c.node, c.in, e)
		}
		spoil(room)
		if !slices.Equal(second, want) {
			t.Errorf("Next(%d, %t), error %d: the answer shares the argument's memory", c.node, c.in, e)
		}
	}
}

// R3: lists that are asked about stay as they are, and in their order.
func TestMemoryOfOthers(t *testing.T) {
	a, b := list(2, 3, 6, -1, -2), list(6, 3, 1, 3, -5, -3)
	p := peers(6, 5, 3, 9, 2, 1, 1, 4, 7, 2)
	wasA, wasB, wasP := slices.Clone(a), slices.Clone(b), slices.Clone(p)
	Check(a[:3])
	Won(a[:3], b[:4])
	Lost(a[:3], b[:4])
	Commit(a[:3], p[:3])
	Safe(a[:3], b[:1])
	Meet(a[:3], b[:4])
	Meet(b[:4], a[:3])
	if !slices.Equal(a, wasA) || !slices.Equal(b, wasB) || !slices.Equal(p, wasP) {
		t.Errorf("changed: %d, %d, %v", a, b, p)
	}
}

// spoil changes nodes, and the room behind them.
func spoil(l []int) {
	l = l[:cap(l)]
	for i := range l {
		l[i] = 99
	}
}
