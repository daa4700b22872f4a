package quorum

import (
	"fmt"
	"math/bits"
	"math/rand"
	"slices"
	"testing"

	"gudgeon/api"
)

// set is which nodes are had: the lowest bit is node 1.
type set uint

// everything is all sets.
const everything = set(1) << 7

// nodes is a set's, rising.
func (s set) nodes() []int {
	var l []int
	for node := 1; node <= 7; node++ {
		if s.has(node) {
			l = append(l, node)
		}
	}
	return l
}

// has tells whether a set has a node.
func (s set) has(node int) bool {
	return s>>(node-1)&1 == 1
}

// size is how many nodes a set has.
func (s set) size() int {
	return bits.OnesCount(uint(s))
}

// majority tells whether a set has more than half of some voters.
func (s set) majority(voters set) bool {
	return 2*(s&voters).size() > voters.size()
}

// mixed is a set's nodes in some order, some of them doubled, with numbers that no node has among them.
func mixed(r *rand.Rand, s set) []int {
	l := s.nodes()
	for _, node := range s.nodes() {
		if r.Intn(2) == 0 {
			l = append(l, node)
		}
	}
	for range r.Intn(4) {
		l = append(l, badNodes()[r.Intn(len(badNodes()))])
	}
	r.Shuffle(len(l), func(i, j int) { l[i], l[j] = l[j], l[i] })
	return l
}

// Qu1: each list of up to four numbers from -1 to 9 is voters if it is the one of its nodes.
func TestCheckByWords(t *testing.T) {
	var ends func(l []int)
	ends = func(l []int) {
		var had set
		for _, node := range l {
			if node >= 1 && node <= 7 {
				had |= 1 << (node - 1)
			}
		}
		says(t, fmt.Sprintf("Check(%d)", l), Check(l), len(l) > 0 && slices.Equal(l, had.nodes()))
		if len(l) == 4 {
			return
		}
		for node := -1; node <= 9; node++ {
			ends(append(slices.Clone(l), node))
		}
	}
	ends(nil)
}

// Qu1: a majority is the least number that is more than half.
func TestNeedByWords(t *testing.T) {
	for n := 1; n <= 10000; n++ {
		if got := Need(n); 2*got <= n || 2*(got-1) > n {
			t.Errorf("Need(%d): %d", n, got)
		}
	}
}

// Qu1, Qu3: all voters, and all that may have granted or refused. What is won is not lost by the others.
func TestVotesByWords(t *testing.T) {
	r := rand.New(rand.NewSource(1))
	for voters := set(1); voters < everything; voters++ {
		for had := range everything {
			won, lost := had.majority(voters), !(voters &^ had).majority(voters)
			for _, l := range [][]int{had.nodes(), mixed(r, had)} {
				says(t, fmt.Sprintf("Won(%d, %d)", voters.nodes(), l), Won(voters.nodes(), l), won)
				says(t, fmt.Sprintf("Lost(%d, %d)", voters.nodes(), l), Lost(voters.nodes(), l), lost)
			}
			others := (voters &^ had).nodes()
			if Won(voters.nodes(), had.nodes()) == Lost(voters.nodes(), others) {
				t.Errorf("of %d: won by %d, lost by %d, or neither", voters.nodes(), had.nodes(), others)
			}
		}
	}
}

// committed is the greatest number that more than half of the voters have at least, by trying each one that there is.
func committed(voters set, peers []api.Peer) uint64 {
	var has [8]uint64
	for _, p := range slices.Backward(peers) {
		if p.Node >= 1 && p.Node <= 7 {
			has[p.Node] = p.Match
		}
	}
	var greatest uint64
	for _, n := range has {
		var had set
		for node := 1; node <= 7; node++ {
			if has[node] >= n {
				had |= 1 << (node - 1)
			}
		}
		if had.majority(voters) {
			greatest = max(greatest, n)
		}
	}
	return greatest
}

// Qu1: all voters, and peers by chance: some are missing, some are doubled, some are of others.
func TestCommitByWords(t *testing.T) {
	above := 0
	for seed := range int64(300) {
		r := rand.New(rand.NewSource(seed))
		for voters := set(1); voters < everything; voters++ {
			var p []api.Peer
			for range r.Intn(16) {
				match := uint64(r.Intn(6))
				if r.Intn(8) == 0 {
					match = top - match
				}
				p = append(p, api.Peer{Node: r.Intn(9), Next: r.Uint64(), Match: match})
			}
			want := committed(voters, p)
			commits(t, voters.nodes(), p, want)
			if want > 0 {
				above++
			}
		}
	}
	if above == 0 {
		t.Error("nothing was committed")
	}
}

// Qu2: all voters, and all nodes. What follows is safe, and the way back is there.
func TestNextByWords(t *testing.T) {
	for voters := set(1); voters < everything; voters++ {
		l := voters.nodes()
		for node := 1; node <= 7; node++ {
			is := voters.has(node)
			follows(t, l, node, is, nil, api.ErrSame)
			turned := (voters ^ 1<<(node-1)).nodes()
			if len(turned) == 0 {
				follows(t, l, node, false, nil, api.ErrNone)
				continue
			}
			follows(t, l, node, !is, turned, api.OK)
			follows(t, turned, node, is, l, api.OK)
			says(t, fmt.Sprintf("Safe(%d, %d)", l, turned), Safe(l, turned), true)
		}
	}
}

// Qu2: all two sets.
func TestPairsByWords(t *testing.T) {
	r := rand.New(rand.NewSource(2))
	for a := range everything {
		for b := range everything {
			safe := a != 0 && b != 0 && (a^b).size() <= 1
			says(t, fmt.Sprintf("Safe(%d, %d)", a.nodes(), b.nodes()), Safe(a.nodes(), b.nodes()), safe)
			says(t, fmt.Sprintf("Meet(%d, %d)", a.nodes(), b.nodes()), Meet(a.nodes(), b.nodes()), a&b != 0)
			x, y := mixed(r, a), mixed(r, b)
			met := slices.ContainsFunc(x, func(node int) bool { return slices.Contains(y, node) })
			says(t, fmt.Sprintf("Meet(%d, %d)", x, y), Meet(x, y), met)
		}
	}
}

// winners is all sets of voters that win among them.
func winners(voters set) [][]int {
	var l [][]int
	for had := range everything {
		if had&^voters == 0 && Won(voters.nodes(), had.nodes()) {
			l = append(l, had.nodes())
		}
	}
	return l
}

// Qu3: any majority of voters, and any of those that are safe with them, have a node in common.
func TestMajoritiesMeet(t *testing.T) {
	pairs := 0
	for a := set(1); a < everything; a++ {
		for b := set(1); b < everything; b++ {
			if !Safe(a.nodes(), b.nodes()) {
				continue
			}
			for _, x := range winners(a) {
				for _, y := range winners(b) {
					pairs++
					says(t, fmt.Sprintf("Meet(%d, %d) of %d, %d", x, y, a.nodes(), b.nodes()), Meet(x, y), true)
				}
			}
		}
	}
	if pairs == 0 {
		t.Error("no voters are safe with others")
	}
}

// Qu3: what a majority has committed, any majority of voters that are safe with those has somebody who has it.
func TestCommittedIsKnown(t *testing.T) {
	r := rand.New(rand.NewSource(3))
	for a := set(1); a < everything; a++ {
		var p []api.Peer
		for node := 1; node <= 7; node++ {
			p = append(p, api.Peer{Node: node, Match: uint64(r.Intn(5))})
		}
		n := Commit(a.nodes(), p)
		for node := 1; node <= 7; node++ {
			b := a ^ 1<<(node-1)
			for _, l := range winners(b) {
				if !slices.ContainsFunc(l, func(node int) bool { return a.has(node) && p[node-1].Match >= n }) {
					t.Errorf("%d of %d: nobody of %d has it, of %d", n, a.nodes(), l, b.nodes())
				}
			}
		}
	}
}

// R4: the same calls tell the same.
func TestSameAgain(t *testing.T) {
	run := func() string {
		r := rand.New(rand.NewSource(4))
		var told []byte
		for voters := range everything {
			l, p := voters.nodes(), peers(3, 8, 1, 5, 7, 2, 3, 1, 4, 4)
			for node := range 9 {
				in, e := Next(l, node, true)
				out, f := Next(l, node, false)
				told = fmt.Append(told, in, e, out, f, Won(l, mixed(r, 0x55)), Lost(l, mixed(r, 0x2a)), Commit(l, p), Meet(l, in), Safe(l, out))
			}
		}
		return string(told)
	}
	if run() != run() {
		t.Error("the same calls told otherwise")
	}
}
