package lease

import (
	"fmt"
	"math"
	"slices"
	"strings"
	"testing"

	"gudgeon/api"
)

// The last time, and the longest that a lease lasts.
const (
	end  = 1<<31 - 1
	long = 1 << 20
)

// The longest key, and what is too long to be one.
var (
	longest = strings.Repeat("k", 64)
	tooLong = strings.Repeat("k", 65)
)

// of is a hold.
func of(key string, token uint64, until int) api.Hold {
	return api.Hold{Key: key, Token: token, Until: until}
}

// list is holds.
func list(l ...api.Hold) []api.Hold {
	return l
}

// mark is a mark.
func mark(key string, token uint64) api.Mark {
	return api.Mark{Key: key, Token: token}
}

// marks is marks.
func marks(l ...api.Mark) []api.Mark {
	return l
}

// name is the key of a place in many: they rise.
func name(i int) string {
	return fmt.Sprintf("k%05d", 2*i)
}

// many is n holds.
func many(n int) []api.Hold {
	var l []api.Hold
	for i := range n {
		l = append(l, of(name(i), uint64(i+1), i))
	}
	return l
}

// marksOf is marks with the keys and tokens of holds.
func marksOf(l []api.Hold) []api.Mark {
	var m []api.Mark
	for _, h := range l {
		m = append(m, mark(h.Key, h.Token))
	}
	return m
}

// right is holds that may be; what they are marked with may be, too.
func right() [][]api.Hold {
	return [][]api.Hold{
		nil, {}, list(of("", 1, 0)), list(of("a", 1, end)), list(of(longest, math.MaxUint64, end-1)), list(of("\x00", 1<<63, 1)),
		list(of("", 1, 0), of("\x00", 1, 0)), list(of("a", 5, 3), of("b", 5, 3)), list(of("a", 9, 3), of("aa", 2, 1), of("b", 3, 2)),
		list(of("Z", 1, 1), of("a", 1, 1)), list(of("a\x00", 1, 1), of("a\x01", 1, 1), of("b", 1, 1)), list(of("\x7f", 1, 1), of("\x80", 1, 1), of("\xff", 1, 1)),
		list(of("10", 1, 1), of("9", 1, 1)), list(of(longest[:63], 1, 1), of(longest, 1, 1)), many(3), many(1023), many(1024),
	}
}

// badKeys is holds whose keys may not be, or don't rise; they are no marks either.
func badKeys() [][]api.Hold {
	l := [][]api.Hold{
		list(of(tooLong, 1, 1)), list(of(strings.Repeat("k", 1<<20), 1, 1)), list(of("a", 1, 1), of("a", 1, 1)), list(of("a", 1, 1), of("a", 2, 2)),
		list(of("", 1, 1), of("", 1, 1)), list(of("b", 1, 1), of("a", 1, 1)), list(of("a", 1, 1), of("", 1, 1)), list(of("a", 1, 1), of("Z", 1, 1)),
		list(of("9", 1, 1), of("10", 1, 1)), list(of("\x80", 1, 1), of("\x7f", 1, 1)), list(of("aa", 1, 1), of("a", 1, 1)),
		list(of("a", 1, 1), of("b", 1, 1), of("a", 1, 1)), list(of("a", 1, 1), of("c", 1, 1), of("b", 1, 1)), list(of("b", 1, 1), of("a", 1, 1), of("c", 1, 1)),
		many(1025), many(1 << 16), slices.Repeat(many(1), 1025),
	}
	// A key that may not be, or is one of its neighbours' or beyond them, at each place but the ends.
	for i := 1; i < 7; i++ {
		for _, key := range []string{tooLong, "", name(i - 1), name(i + 1), "z"} {
			turned := many(8)
			turned[i].Key = key
			l = append(l, turned)
		}
	}
	return l
}

// wrong is holds that may not be.
func wrong() [][]api.Hold {
	l := append(badKeys(), list(api.Hold{}), make([]api.Hold, 1024), make([]api.Hold, 1<<16))
	for i := range 5 {
		for _, h := range badHolds(name(i)) {
			turned := many(5)
			turned[i] = h
			l = append(l, turned)
		}
	}
	return l
}

// badHolds is holds of a key that may not be among others.
func badHolds(key string) []api.Hold {
	return []api.Hold{
		of(key, 0, 1), of(key, 1, -1), of(key, 1, end+1), of(key, 1, math.MaxInt), of(key, 1, math.MinInt), of(key, 1, 1<<32),
		of(key, 0, 0), of(key, 0, -1), of(tooLong, 1, 1), of(strings.Repeat("k", 256), 1, 1),
	}
}

// wrongMarks is marks that may not be.
func wrongMarks() [][]api.Mark {
	l := [][]api.Mark{marks(mark("", 0)), marks(mark("a", 0)), make([]api.Mark, 1024), make([]api.Mark, 1<<16)}
	for _, bad := range badKeys() {
		l = append(l, marksOf(bad))
	}
	for i := range 5 {
		turned := marksOf(many(5))
		turned[i].Token = 0
		l = append(l, turned)
	}
	return l
}

// badTimes is times that may not be.
var badTimes = []int{-1, end + 1, math.MaxInt, math.MinInt, 1 << 32}

// is tells whether a code is that.
func is(t *testing.T, what string, got, want api.Errno) {
	t.Helper()
	if got != want {
		t.Errorf("%.400s: error %d, not %d", what, got, want)
	}
}

// tells tells whether holds or marks and a code are those.
func tells[T comparable](t *testing.T, what string, got []T, e api.Errno, want []T, code api.Errno) {
	t.Helper()
	if e != code || !slices.Equal(got, want) {
		t.Errorf("%.400s: %.400s, error %d, not %.400s, error %d", what, fmt.Sprint(got), e, fmt.Sprint(want), code)
	}
}

// sets tells whether Set tells that.
func sets(t *testing.T, l []api.Hold, h api.Hold, want []api.Hold, code api.Errno) {
	t.Helper()
	got, e := Set(l, h)
	tells(t, fmt.Sprintf("Set of %v in %v", h, l), got, e, want, code)
}

// keeps tells whether Mark tells that.
func keeps(t *testing.T, l []api.Mark, key string, token uint64, want []api.Mark, code api.Errno) {
	t.Helper()
	got, e := Mark(l, key, token)
	tells(t, fmt.Sprintf("Mark of %q, %d in %v", key, token, l), got, e, want, code)
}

// finds tells whether Find tells that.
func finds(t *testing.T, l []api.Hold, key string, want api.Hold, has bool) {
	t.Helper()
	if got, ok := Find(l, key); got != want || ok != has {
		t.Errorf("Find of %q in %.400s: %v, %t, not %v, %t", key, fmt.Sprint(l), got, ok, want, has)
	}
}

// Le1: which holds may be.
func TestCheck(t *testing.T) {
	for _, l := range right() {
		is(t, fmt.Sprintf("Check(%v)", l), Check(l), api.OK)
	}
	for _, l := range wrong() {
		is(t, fmt.Sprintf("Check(%v)", l), Check(l), api.ErrArg)
	}
}

// Le1: which marks may be.
func TestCheckMarks(t *testing.T) {
	for _, l := range right() {
		is(t, fmt.Sprintf("CheckMarks(%v)", marksOf(l)), CheckMarks(marksOf(l)), api.OK)
	}
	for _, l := range wrongMarks() {
		is(t, fmt.Sprintf("CheckMarks(%v)", l), CheckMarks(l), api.ErrArg)
	}
}

// Le1: till when a lease lasts, as far as time goes.
func TestUntil(t *testing.T) {
	for _, c := range []struct {
		now, ttl, want int
		code           api.Errno
	}{
		{5, 10, 15, api.OK}, {0, 1, 1, api.OK}, {0, long, long, api.OK}, {7, long, long + 7, api.OK},
		{end, 1, end, api.OK}, {end, long, end, api.OK}, {end - 1, 1, end, api.OK}, {end - 1, 2, end, api.OK}, {end - 2, 1, end - 1, api.OK},
		{end - long, long, end, api.OK}, {end - long, long - 1, end - 1, api.OK}, {end - long + 1, long, end, api.OK}, {end - long - 1, long, end - 1, api.OK},
		{0, 0, 0, api.ErrArg}, {5, 0, 0, api.ErrArg}, {5, -1, 0, api.ErrArg}, {5, long + 1, 0, api.ErrArg}, {5, math.MaxInt, 0, api.ErrArg},
		{5, math.MinInt, 0, api.ErrArg}, {-1, 1, 0, api.ErrArg}, {-1, 10, 0, api.ErrArg}, {end + 1, 1, 0, api.ErrArg}, {math.MaxInt, 1, 0, api.ErrArg},
		{math.MinInt, 1, 0, api.ErrArg}, {1 << 32, 1, 0, api.ErrArg}, {-1, 0, 0, api.ErrArg}, {end, 0, 0, api.ErrArg}, {5, 1<<32 + 1, 0, api.ErrArg},
	} {
		if n, e := Until(c.now, c.ttl); n != c.want || e != c.code {
			t.Errorf("Until(%d, %d): %d, error %d, not %d, error %d", c.now, c.ttl, n, e, c.want, c.code)
		}
	}
}

// Le1: a key's hold, the first one.
func TestFind(t *testing.T) {
	for _, l := range right() {
		for _, h := range l {
			finds(t, l, h.Key, h, true)
		}
		for _, key := range []string{"?", "k00001", tooLong, "a\x02", "k99999"} {
			finds(t, l, key, api.Hold{}, false)
		}
	}
	finds(t, list(of("a", 1, 1)), "", api.Hold{}, false)
	finds(t, list(of("", 1, 1)), "", of("", 1, 1), true)
	// Of lists that may not be, too: keys that don't rise, that are there often, that are too long.
	l := list(of("c", 1, 1), of("a", 2, 2), of(tooLong, 3, 3), of("a", 4, 4), of("", 0, -1), of("b", 0, -5), of("b", 1, 1))
	finds(t, l, "c", of("c", 1, 1), true)
	finds(t, l, "a", of("a", 2, 2), true)
	finds(t, l, tooLong, of(tooLong, 3, 3), true)
	finds(t, l, "", of("", 0, -1), true)
	finds(t, l, "b", of("b", 0, -5), true)
	finds(t, l, "d", api.Hold{}, false)
	finds(t, many(1<<16), name(1<<16-1), of(name(1<<16-1), 1<<16, 1<<16-1), true)
}

// Le1: a hold comes in its key's place; the others stay.
func TestSet(t *testing.T) {
	sets(t, nil, of("b", 2, 16), list(of("b", 2, 16)), api.OK)
	sets(t, nil, of("", 1, 0), list(of("", 1, 0)), api.OK)
	sets(t, nil, of(longest, math.MaxUint64, end), list(of(longest, math.MaxUint64, end)), api.OK)
	l := list(of("b", 2, 16), of("d", 4, 18))
	sets(t, l, of("a", 1, 15), list(of("a", 1, 15), of("b", 2, 16), of("d", 4, 18)), api.OK)
	sets(t, l, of("c", 1, 15), list(of("b", 2, 16), of("c", 1, 15), of("d", 4, 18)), api.OK)
	sets(t, l, of("e", 1, 15), list(of("b", 2, 16), of("d", 4, 18), of("e", 1, 15)), api.OK)
	// Another token and time in its place, later or not.
	sets(t, l, of("b", 1, 0), list(of("b", 1, 0), of("d", 4, 18)), api.OK)
	sets(t, l, of("d", 9, end), list(of("b", 2, 16), of("d", 9, end)), api.OK)
	sets(t, l, of("d", 4, 18), l, api.OK)
	for i := range 9 {
		without := slices.Delete(many(9), i, i+1)
		sets(t, without, of(name(i), uint64(i+1), i), many(9), api.OK)
		turned := many(9)
		turned[i] = of(name(i), 77, 88)
		sets(t, many(9), of(name(i), 77, 88), turned, api.OK)
	}
}

// Le1: one more than 1024 is too many, but in a key's place there is always room.
func TestSetFull(t *testing.T) {
	full := many(1024)
	for _, key := range []string{"", "k", "k00001", "k00003", "k99999", longest} {
		sets(t, full, of(key, 1, 1), nil, api.ErrFull)
	}
	for _, i := range []int{0, 1, 512, 1022, 1023} {
		turned := many(1024)
		turned[i] = of(name(i), 77, 88)
		sets(t, full, of(name(i), 77, 88), turned, api.OK)
		sets(t, slices.Delete(many(1024), i, i+1), of(name(i), uint64(i+1), i), full, api.OK)
	}
	// A hold that can't be is told first.
	for _, h := range badHolds("a") {
		sets(t, full, h, nil, api.ErrArg)
	}
}

// Le1: holds that may not be are refused.
func TestSetWrong(t *testing.T) {
	for _, l := range wrong() {
		sets(t, l, of("a", 1, 1), nil, api.ErrArg)
		sets(t, l, of(name(2), 1, 1), nil, api.ErrArg)
	}
	for _, l := range right() {
		for _, key := range []string{"a", name(0), name(2)} {
			for _, h := range badHolds(key) {
				sets(t, l, h, nil, api.ErrArg)
			}
		}
	}
}

// Le1: holds of a key are dropped, all of them; the others stay.
func TestDrop(t *testing.T) {
	drops := func(l []api.Hold, key string, want []api.Hold) {
		t.Helper()
		tells(t, fmt.Sprintf("Drop of %q in %v", key, l), Drop(l, key), api.OK, want, api.OK)
	}
	for _, l := range right() {
		for _, key := range []string{"?", "k00001", tooLong} {
			drops(l, key, l)
		}
		for i, h := range l[:min(len(l), 20)] {
			drops(l, h.Key, slices.Concat(l[:i], l[i+1:]))
		}
	}
	l := list(of("c", 1, 1), of("a", 2, 2), of(tooLong, 3, 3), of("a", 4, 4), of("", 0, -1), of("a", 5, 5))
	drops(l, "a", list(of("c", 1, 1), of(tooLong, 3, 3), of("", 0, -1)))
	drops(l, tooLong, list(of("c", 1, 1), of("a", 2, 2), of("a", 4, 4), of("", 0, -1), of("a", 5, 5)))
	drops(l, "", list(of("c", 1, 1), of("a", 2, 2), of(tooLong, 3, 3), of("a", 4, 4), of("a", 5, 5)))
	drops(l, "b", l)
	drops(slices.Repeat(many(1), 3000), name(0), nil)
	drops(many(3000), name(2999), many(2999))
}

// dueAt tells whether Due tells that.
func dueAt(t *testing.T, l []api.Hold, now int, wantDue, wantLive []api.Hold, code api.Errno) {
	t.Helper()
	due, live, e := Due(l, now)
	tells(t, fmt.Sprintf("Due at %d of %v: due", now, l), due, e, wantDue, code)
	tells(t, fmt.Sprintf("Due at %d of %v: live", now, l), live, e, wantLive, code)
}

// Le1: a hold is due if its time is not above now.
func TestDue(t *testing.T) {
	l := list(of("a", 1, 15), of("b", 2, 16), of("c", 3, 0), of("d", 4, end), of("e", 5, 15))
	dueAt(t, l, 0, l[2:3], list(l[0], l[1], l[3], l[4]), api.OK)
	dueAt(t, l, 14, l[2:3], list(l[0], l[1], l[3], l[4]), api.OK)
	dueAt(t, l, 15, list(l[0], l[2], l[4]), list(l[1], l[3]), api.OK)
	dueAt(t, l, 16, list(l[0], l[1], l[2], l[4]), l[3:4], api.OK)
	dueAt(t, l, end-1, list(l[0], l[1], l[2], l[4]), l[3:4], api.OK)
	dueAt(t, l, end, l, nil, api.OK)
	dueAt(t, nil, 0, nil, nil, api.OK)
	dueAt(t, many(1024), 500, many(501), many(1024)[501:], api.OK)
	dueAt(t, list(of("a", 1, 15)), 15, list(of("a", 1, 15)), nil, api.OK)
	dueAt(t, list(of("a", 1, 15)), 14, nil, list(of("a", 1, 15)), api.OK)
}

// Le1, Le2: what may not be is refused, with nothing beside.
func TestTurnWrong(t *testing.T) {
	refused := func(l []api.Hold, now int) {
		t.Helper()
		dueAt(t, l, now, nil, nil, api.ErrArg)
		packs(t, l, now, nil, api.ErrArg)
		unpacks(t, l, now, nil, api.ErrArg)
	}
	for _, l := range wrong() {
		refused(l, 0)
		refused(l, 5)
		refused(l, end)
		refused(l, -1)
	}
	for _, l := range right() {
		for _, now := range badTimes {
			refused(l, now)
		}
	}
}

// packs tells whether Pack tells that.
func packs(t *testing.T, l []api.Hold, now int, want []api.Hold, code api.Errno) {
	t.Helper()
	got, e := Pack(l, now)
	tells(t, fmt.Sprintf("Pack at %d of %v", now, l), got, e, want, code)
}

// unpacks tells whether Unpack tells that.
func unpacks(t *testing.T, l []api.Hold, now int, want []api.Hold, code api.Errno) {
	t.Helper()
	got, e := Unpack(l, now)
	tells(t, fmt.Sprintf("Unpack at %d of %v", now, l), got, e, want, code)
}

// Le2: how long each lasts still, 0 at least.
func TestPack(t *testing.T) {
	l := list(of("a", 1, 15), of("b", 2, 16), of("c", 3, 0), of("d", 4, end))
	packs(t, l, 0, l, api.OK)
	packs(t, l, 10, list(of("a", 1, 5), of("b", 2, 6), of("c", 3, 0), of("d", 4, end-10)), api.OK)
	packs(t, l, 15, list(of("a", 1, 0), of("b", 2, 1), of("c", 3, 0), of("d", 4, end-15)), api.OK)
	packs(t, l, 17, list(of("a", 1, 0), of("b", 2, 0), of("c", 3, 0), of("d", 4, end-17)), api.OK)
	packs(t, l, end-1, list(of("a", 1, 0), of("b", 2, 0), of("c", 3, 0), of("d", 4, 1)), api.OK)
	packs(t, l, end, list(of("a", 1, 0), of("b", 2, 0), of("c", 3, 0), of("d", 4, 0)), api.OK)
	packs(t, nil, 5, nil, api.OK)
	packs(t, many(1024), 0, many(1024), api.OK)
}

// Le2: till when each lasts, MaxTime at most.
func TestUnpack(t *testing.T) {
	l := list(of("a", 1, 5), of("b", 2, 0), of("c", 3, end), of("d", 4, end-10))
	unpacks(t, l, 0, l, api.OK)
	unpacks(t, l, 1, list(of("a", 1, 6), of("b", 2, 1), of("c", 3, end), of("d", 4, end-9)), api.OK)
	unpacks(t, l, 10, list(of("a", 1, 15), of("b", 2, 10), of("c", 3, end), of("d", 4, end)), api.OK)
	unpacks(t, l, 11, list(of("a", 1, 16), of("b", 2, 11), of("c", 3, end), of("d", 4, end)), api.OK)
	unpacks(t, l, end-6, list(of("a", 1, end-1), of("b", 2, end-6), of("c", 3, end), of("d", 4, end)), api.OK)
	unpacks(t, l, end-5, list(of("a", 1, end), of("b", 2, end-5), of("c", 3, end), of("d", 4, end)), api.OK)
	unpacks(t, l, end, list(of("a", 1, end), of("b", 2, end), of("c", 3, end), of("d", 4, end)), api.OK)
	unpacks(t, nil, 5, nil, api.OK)
	unpacks(t, many(1024), 0, many(1024), api.OK)
}

// Le2: a key's mark is the greater one of its own and the token; the others stay.
func TestMark(t *testing.T) {
	keeps(t, nil, "a", 7, marks(mark("a", 7)), api.OK)
	keeps(t, nil, "", 1, marks(mark("", 1)), api.OK)
	keeps(t, nil, longest, math.MaxUint64, marks(mark(longest, math.MaxUint64)), api.OK)
	l := marks(mark("b", 7), mark("d", 1<<63))
	keeps(t, l, "b", 5, l, api.OK)
	keeps(t, l, "b", 1, l, api.OK)
	keeps(t, l, "b", 7, l, api.OK)
	keeps(t, l, "b", 8, marks(mark("b", 8), mark("d", 1<<63)), api.OK)
	keeps(t, l, "b", math.MaxUint64, marks(mark("b", math.MaxUint64), mark("d", 1<<63)), api.OK)
	keeps(t, l, "d", 1<<63-1, l, api.OK)
	keeps(t, l, "d", 1<<63+1, marks(mark("b", 7), mark("d", 1<<63+1)), api.OK)
	keeps(t, l, "a", 3, marks(mark("a", 3), mark("b", 7), mark("d", 1<<63)), api.OK)
	keeps(t, l, "c", 3, marks(mark("b", 7), mark("c", 3), mark("d", 1<<63)), api.OK)
	keeps(t, l, "e", 3, marks(mark("b", 7), mark("d", 1<<63), mark("e", 3)), api.OK)
}

// Le2: one more than 1024 is too many, but in a key's place there is always room.
func TestMarkFull(t *testing.T) {
	full := marksOf(many(1024))
	for _, key := range []string{"", "k", "k00001", "k00003", "k99999", longest} {
		keeps(t, full, key, 1, nil, api.ErrFull)
		keeps(t, full, key, 0, nil, api.ErrArg)
	}
	keeps(t, full, tooLong, 1, nil, api.ErrArg)
	for _, i := range []int{0, 1, 512, 1022, 1023} {
		turned := marksOf(many(1024))
		turned[i].Token = 5000
		keeps(t, full, name(i), 5000, turned, api.OK)
		keeps(t, full, name(i), 1, full, api.OK)
		keeps(t, slices.Delete(marksOf(many(1024)), i, i+1), name(i), uint64(i+1), full, api.OK)
	}
}

// Le2: marks that may not be are refused, and a token of 0, though the key have a mark.
func TestMarkWrong(t *testing.T) {
	for _, l := range wrongMarks() {
		keeps(t, l, "a", 1, nil, api.ErrArg)
		keeps(t, l, name(2), 9, nil, api.ErrArg)
		keeps(t, l, tooLong, 0, nil, api.ErrArg)
	}
	for _, holds := range right() {
		l := marksOf(holds)
		for _, key := range []string{"", "a", name(0), longest} {
			keeps(t, l, key, 0, nil, api.ErrArg)
		}
		keeps(t, l, tooLong, 1, nil, api.ErrArg)
		keeps(t, l, strings.Repeat("k", 256), 1, nil, api.ErrArg)
	}
}

// Le2: a key's mark, the first one's; 0: it has none.
func TestLast(t *testing.T) {
	lasts := func(l []api.Mark, key string, want uint64) {
		t.Helper()
		if got := Last(l, key); got != want {
			t.Errorf("Last of %q in %.400s: %d, not %d", key, fmt.Sprint(l), got, want)
		}
	}
	for _, l := range right() {
		for _, h := range l {
			lasts(marksOf(l), h.Key, h.Token)
		}
		for _, key := range []string{"?", "k00001", tooLong, "a\x02", "k99999"} {
			lasts(marksOf(l), key, 0)
		}
	}
	l := marks(mark("c", 1), mark("a", 2), mark(tooLong, 3), mark("a", 4), mark("b", 0), mark("b", 6))
	lasts(l, "c", 1)
	lasts(l, "a", 2)
	lasts(l, tooLong, 3)
	lasts(l, "b", 0)
	lasts(l, "", 0)
	lasts(l, "d", 0)
	lasts(marksOf(many(1<<16)), name(1<<16-1), 1<<16)
}

// The chapter's example.
func TestExample(t *testing.T) {
	until, e := Until(5, 10)
	is(t, "Until", e, api.OK)
	if until != 15 {
		t.Errorf("Until(5, 10): %d", until)
	}
	dueAt(t, list(of("a", 1, until)), 15, list(of("a", 1, 15)), nil, api.OK)
}

// roomy is a copy of a list, with spare room behind it that is not empty.
func roomy[T any](l []T, behind T) []T {
	return append(slices.Clip(slices.Clone(l)), slices.Repeat([]T{behind}, 8)...)[:len(l)]
}

// spoil changes a list, and the room behind it.
func spoil[T any](l []T, by T) {
	l = l[:cap(l)]
	for i := range l {
		l[i] = by
	}
}

// apart tells whether holds that are told by a call share no memory, and leave what is handed in as it was.
func apart(t *testing.T, what string, tell func(l []api.Hold) [][]api.Hold) {
	t.Helper()
	room := of("z", 7, 7)
	for _, l := range [][]api.Hold{nil, many(1), many(5), many(1023), many(1024)} {
		given := roomy(l, room)
		was := slices.Clone(given[:cap(given)])
		told, want := tell(given), tell(slices.Clone(l))
		told = append(told, tell(given)...)
		want = append(want, want...)
		if !slices.Equal(given[:cap(given)], was) {
			t.Fatalf("%s: changed what is handed in", what)
		}
		spoil(given, of("!", 0, -9))
		for i := range told {
			if !slices.Equal(told[i], want[i]) {
				t.Fatalf("%s: answer %d of %d holds shares memory", what, i, len(l))
			}
			spoil(told[i], of("?", 0, -8))
		}
		if !slices.Equal(given[:cap(given)], slices.Repeat(list(of("!", 0, -9)), cap(given))) {
			t.Fatalf("%s: an answer shares the argument's memory", what)
		}
	}
}

// R3: what is handed in is not changed, nor what lies behind it, and no answer shares its memory, nor another answer's.
func TestMemory(t *testing.T) {
	for _, key := range []string{"", name(0), name(2), "k00005", name(4), "k99999"} {
		apart(t, "Set", func(l []api.Hold) [][]api.Hold {
			got, _ := Set(l, of(key, 3, 4))
			return [][]api.Hold{got}
		})
		apart(t, "Drop", func(l []api.Hold) [][]api.Hold { return [][]api.Hold{Drop(l, key)} })
	}
	for _, now := range []int{0, 2, end} {
		apart(t, "Due", func(l []api.Hold) [][]api.Hold {
			due, live, _ := Due(l, now)
			return [][]api.Hold{due, live}
		})
		apart(t, "Pack", func(l []api.Hold) [][]api.Hold {
			got, _ := Pack(l, now)
			return [][]api.Hold{got}
		})
		apart(t, "Unpack", func(l []api.Hold) [][]api.Hold {
			got, _ := Unpack(l, now)
			return [][]api.Hold{got}
		})
	}
}

// R3: Mark's likewise; a mark that does not rise is told in new memory, too.
func TestMarkMemory(t *testing.T) {
	for _, n := range []int{0, 1, 5, 1023, 1024} {
		for _, key := range []string{"", name(0), name(4), "k00005", "k99999"} {
			for _, token := range []uint64{1, 9000} {
				l := marksOf(many(n))
				given := roomy(l, mark("z", 7))
				was := slices.Clone(given[:cap(given)])
				want, _ := Mark(l, key, token)
				first, _ := Mark(given, key, token)
				second, _ := Mark(given, key, token)
				if !slices.Equal(given[:cap(given)], was) {
					t.Fatalf("Mark of %q, %d among %d: changed what is handed in", key, token, n)
				}
				spoil(first, mark("?", 0))
				if !slices.Equal(given[:cap(given)], was) {
					t.Fatalf("Mark of %q, %d among %d: shares the argument's memory", key, token, n)
				}
				if !slices.Equal(second, want) {
					t.Fatalf("Mark of %q, %d among %d: shares another answer's memory", key, token, n)
				}
			}
		}
	}
}
