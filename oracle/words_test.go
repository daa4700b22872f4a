package oracle

import (
	"fmt"
	"math/big"
	"math/rand"
	"strings"
	"testing"

	"gudgeon/api"
)

// Numbers without an end: in the words nothing wraps, so neither does it here.
var (
	one = big.NewInt(1)
	end = new(big.Int).SetUint64(last)
)

// number is a token as one of those.
func number(n uint64) *big.Int {
	return new(big.Int).SetUint64(n)
}

// may tells whether a window may be, by the words.
func may(w api.Window) bool {
	next, limit := number(w.Next), number(w.Limit)
	if next.Sign() == 0 || new(big.Int).Add(limit, one).Cmp(next) < 0 {
		return false
	}
	return !w.Spent || next.Cmp(end) == 0 && limit.Cmp(end) == 0
}

// left is how many tokens a window has, by the words.
func left(w api.Window) *big.Int {
	if w.Spent {
		return new(big.Int)
	}
	n := new(big.Int).Sub(number(w.Limit), number(w.Next))
	return n.Add(n, one)
}

// extend is what Extend must tell.
func extend(w api.Window, n int) (api.Window, api.Errno) {
	if !may(w) || n <= 0 || n >= 65537 {
		return none, api.ErrArg
	}
	if number(w.Limit).Cmp(end) == 0 {
		return none, api.ErrExhausted
	}
	limit := new(big.Int).Add(number(w.Limit), big.NewInt(int64(n)))
	if limit.Cmp(end) > 0 {
		limit = end
	}
	return of(w.Next, limit.Uint64()), api.OK
}

// take is what Take must tell.
func take(w api.Window) (api.Window, uint64, api.Errno) {
	if !may(w) {
		return none, 0, api.ErrArg
	}
	if w.Spent {
		return none, 0, api.ErrExhausted
	}
	if left(w).Sign() == 0 {
		return none, 0, api.ErrWait
	}
	if number(w.Next).Cmp(end) == 0 {
		return api.Window{Next: w.Next, Limit: w.Limit, Spent: true}, w.Next, api.OK
	}
	next := new(big.Int).Add(number(w.Next), one)
	return of(next.Uint64(), w.Limit), w.Next, api.OK
}

// takeOn is what Recover must tell.
func takeOn(w api.Window) (api.Window, api.Errno) {
	if !may(w) {
		return none, api.ErrArg
	}
	if number(w.Limit).Cmp(end) == 0 {
		return spent, api.OK
	}
	next := new(big.Int).Add(number(w.Limit), one)
	return of(next.Uint64(), w.Limit), api.OK
}

// byWords tells whether all functions tell of a window what the words say.
func byWords(t *testing.T, w api.Window) {
	t.Helper()
	is(t, fmt.Sprintf("Check(%v)", w), Check(w), map[bool]api.Errno{true: api.OK, false: api.ErrArg}[may(w)])
	if may(w) && number(Left(w)).Cmp(left(w)) != 0 || !may(w) && Left(w) != 0 {
		t.Errorf("Left(%v): %d", w, Left(w))
	}
	for _, n := range []int{-1, 0, 1, 2, 3, 65535, 65536, 65537} {
		want, code := extend(w, n)
		got, e := Extend(w, n)
		tells(t, fmt.Sprintf("Extend(%v, %d)", w, n), got, e, want, code)
	}
	behind, token, code := take(w)
	takes(t, w, behind, token, code)
	want, code := takeOn(w)
	got, e := Recover(w)
	tells(t, fmt.Sprintf("Recover(%v)", w), got, e, want, code)
	again(t, bytesOf(w))
	got, e = Decode(bytesOf(w))
	if may(w) {
		tells(t, fmt.Sprintf("Decode(%x)", bytesOf(w)), got, e, w, api.OK)
	} else {
		tells(t, fmt.Sprintf("Decode(%x)", bytesOf(w)), got, e, none, api.ErrText)
	}
}

// edges is numbers at which something turns, and those beside them.
func edges() []uint64 {
	var l []uint64
	for _, n := range []uint64{0, 127, 65536, 1 << 31, 1 << 32, 1 << 63, last - 65536} {
		for by := range uint64(7) {
			l = append(l, n+by-3)
		}
	}
	return l
}

// Or1, Or2: all windows of numbers at the edges.
func TestEdges(t *testing.T) {
	for _, next := range edges() {
		for _, limit := range edges() {
			byWords(t, of(next, limit))
			byWords(t, api.Window{Next: next, Limit: limit, Spent: true})
		}
	}
}

// Or1, Or2: windows by chance, of many sizes.
func TestWords(t *testing.T) {
	r := rand.New(rand.NewSource(1))
	for range 20000 {
		next := r.Uint64() >> r.Intn(64)
		limit := next + r.Uint64()>>r.Intn(64) - uint64(r.Intn(3))
		byWords(t, api.Window{Next: next, Limit: limit, Spent: r.Intn(8) == 0})
	}
}

// walk is a window on its way, by chance, as of leaders that come and go.
type walk struct {
	t     *testing.T
	r     *rand.Rand
	w     api.Window
	taken []uint64
	codes map[api.Errno]int
}

// extends lets the window have some more, at times far more than is left of all numbers.
func (k *walk) extends() {
	n := 1 + k.r.Intn(4)
	if k.r.Intn(200) == 0 {
		n = 65536
	}
	k.keep(Extend(k.w, n))
}

// takes takes a token, and holds it against the ones ahead.
func (k *walk) takes() {
	w, token, e := Take(k.w)
	k.keep(w, e)
	if e != api.OK {
		if token != 0 {
			k.t.Fatalf("a token beside error %d: %d", e, token)
		}
		return
	}
	if n := len(k.taken); token == 0 || n > 0 && token <= k.taken[n-1] {
		k.t.Fatalf("%d behind %v", token, k.taken)
	}
	k.taken = append(k.taken, token)
}

// recovers lets another leader take it on, as it lies on its disk.
func (k *walk) recovers() {
	b, e := Encode(k.w)
	is(k.t, "Encode", e, api.OK)
	w, e := Decode(b)
	tells(k.t, "Decode", w, e, k.w, api.OK)
	k.keep(Recover(w))
}

// keep goes on with a window, if it is one.
func (k *walk) keep(w api.Window, e api.Errno) {
	k.codes[e]++
	if e != api.OK {
		if w != none {
			k.t.Fatalf("a window beside error %d: %v", e, w)
		}
		return
	}
	if Check(w) != api.OK || w.Next < k.w.Next || w.Limit < k.w.Limit || k.w.Spent && !w.Spent {
		k.t.Fatalf("%v behind %v", w, k.w)
	}
	k.w = w
}

// step is one of the three, by chance.
func (k *walk) step() {
	switch k.r.Intn(8) {
	case 0, 1:
		k.extends()
	case 2:
		k.recovers()
	default:
		k.takes()
	}
}

// begin is a walk from a token on.
func begin(t *testing.T, seed int64, next uint64) *walk {
	t.Helper()
	w, e := New(next)
	is(t, "New", e, api.OK)
	return &walk{t: t, r: rand.New(rand.NewSource(seed)), w: w, codes: make(map[api.Errno]int)}
}

// Or3: whatever is extended, taken and recovered, tokens rise strictly.
func TestTokensRise(t *testing.T) {
	for seed := range int64(40) {
		for _, next := range []uint64{1, 100, 1 << 32, 1<<63 - 50} {
			k := begin(t, seed, next)
			for range 1000 {
				k.step()
			}
			if len(k.taken) < 100 || k.codes[api.ErrWait] < 20 || k.codes[api.ErrExhausted] > 0 || k.taken[0] < next {
				t.Errorf("seed %d, from %d on: %d tokens, %v", seed, next, len(k.taken), k.codes)
			}
		}
	}
}

// Or3: at the end Take tells ErrExhausted for ever, and no token comes once more.
func TestEnd(t *testing.T) {
	reached := 0
	for seed := range int64(200) {
		k := begin(t, seed, last-uint64(seed))
		for range 3000 {
			k.step()
		}
		if !k.w.Spent {
			t.Fatalf("seed %d: it does not end: %v", seed, k.w)
		}
		n := len(k.taken)
		if n > 0 && k.taken[n-1] == last {
			reached++
		}
		for range 100 {
			takes(t, k.w, none, 0, api.ErrExhausted)
			k.step()
		}
		if len(k.taken) != n || k.w != spent {
			t.Errorf("seed %d: behind its end: %v, %v", seed, k.w, k.taken[n:])
		}
	}
	if reached < 20 || reached > 180 {
		t.Errorf("the last token was taken in %d of 200 ways: too few of a kind", reached)
	}
}

// Or3: without another leader each token is taken, one behind the other, up to the last.
func TestEachToken(t *testing.T) {
	for _, next := range []uint64{1, 1<<63 - 40, last - 149} {
		w, _ := New(next)
		for i := range uint64(150) {
			if i%7 == 0 {
				w, _ = Extend(w, 7)
			}
			var token uint64
			var e api.Errno
			if w, token, e = Take(w); token != next+i || e != api.OK {
				t.Fatalf("from %d on, token %d: %d, error %d", next, i, token, e)
			}
		}
	}
}

// R4: the same calls tell the same.
func TestSameAgain(t *testing.T) {
	run := func() string {
		var b strings.Builder
		for _, next := range []uint64{1, last - 100} {
			k := begin(t, 3, next)
			for range 500 {
				k.step()
				text, e := Encode(k.w)
				fmt.Fprint(&b, k.w, Left(k.w), text, e)
			}
			fmt.Fprint(&b, k.taken)
		}
		return b.String()
	}
	if run() != run() {
		t.Error("the same calls told otherwise")
	}
}
