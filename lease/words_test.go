package lease

import (
	"fmt"
	"math/rand"
	"slices"
	"sort"
	"strings"
	"testing"

	"gudgeon/api"
)

// held is who holds which key, till when; noted is keys' marks. Neither leans on an order.
type (
	held  map[string]api.Hold
	noted map[string]uint64
)

// list is the holds, by rising keys.
func (m held) list() []api.Hold {
	var l []api.Hold
	for _, h := range m {
		l = append(l, h)
	}
	sort.Slice(l, func(i, j int) bool { return l[i].Key < l[j].Key })
	return l
}

// list is the marks, by rising keys.
func (m noted) list() []api.Mark {
	var l []api.Mark
	for key, token := range m {
		l = append(l, mark(key, token))
	}
	sort.Slice(l, func(i, j int) bool { return l[i].Key < l[j].Key })
	return l
}

// may tells whether a hold may be, by the chapter's words.
func may(h api.Hold) bool {
	return len(h.Key) <= 64 && h.Token > 0 && int64(h.Until) >= 0 && int64(h.Until) <= 2147483647
}

// set is what Set must tell; what it tells is kept.
func (m held) set(h api.Hold) ([]api.Hold, api.Errno) {
	if !may(h) {
		return nil, api.ErrArg
	}
	if _, has := m[h.Key]; !has && len(m) == 1024 {
		return nil, api.ErrFull
	}
	m[h.Key] = h
	return m.list(), api.OK
}

// mark is what Mark must tell; what it tells is kept.
func (m noted) mark(key string, token uint64) ([]api.Mark, api.Errno) {
	if len(key) > 64 || token == 0 {
		return nil, api.ErrArg
	}
	own, has := m[key]
	if !has && len(m) == 1024 {
		return nil, api.ErrFull
	}
	if !has || token > own {
		m[key] = token
	}
	return m.list(), api.OK
}

// chance is a hold by chance: now and then one that may not be.
func chance(r *rand.Rand, keys int) api.Hold {
	h := of(fmt.Sprint(r.Intn(keys)), uint64(1+r.Intn(50)), r.Intn(100))
	switch r.Intn(30) {
	case 0:
		h.Key = tooLong
	case 1:
		h.Token = 0
	case 2:
		h.Until = badTimes[r.Intn(len(badTimes))]
	case 3:
		h.Key = strings.Repeat(string(rune('0'+r.Intn(10))), r.Intn(65))
	case 4:
		h.Until = end - r.Intn(3)
	case 5:
		h.Token = 1<<64 - 1 - uint64(r.Intn(3))
	}
	return h
}

// Le1: many holds set and dropped, and all else that is told of them, of few keys and of more than there is room for.
func TestWords(t *testing.T) {
	counts := make(map[api.Errno]int)
	for seed := range int64(30) {
		r := rand.New(rand.NewSource(seed))
		keys := []int{5, 20, 100}[seed%3]
		m := make(held)
		var l []api.Hold
		if seed%5 == 0 {
			l = many(1020)
			for _, h := range l {
				m[h.Key] = h
			}
		}
		for range 200 {
			h := chance(r, keys)
			want, code := m.set(h)
			got, e := Set(l, h)
			tells(t, fmt.Sprintf("seed %d: Set of %v", seed, h), got, e, want, code)
			counts[code]++
			if code == api.OK {
				l = got
			}
			if r.Intn(6) == 0 {
				key := fmt.Sprint(r.Intn(keys))
				delete(m, key)
				l = Drop(l, key)
				tells(t, "Drop", l, api.OK, m.list(), api.OK)
			}
			is(t, fmt.Sprintf("seed %d: Check", seed), Check(l), api.OK)
			own, has := m[h.Key]
			finds(t, l, h.Key, own, has)
			parts(t, l, r.Intn(100))
		}
	}
	if counts[api.OK] < 100 || counts[api.ErrFull] < 100 || counts[api.ErrArg] < 100 {
		t.Errorf("too few of a kind: %v", counts)
	}
}

// parts tells whether Due parts holds by their times: each is in one of both, in order.
func parts(t *testing.T, l []api.Hold, now int) {
	t.Helper()
	var over, still []api.Hold
	for _, h := range l {
		if h.Until > now {
			still = append(still, h)
		} else {
			over = append(over, h)
		}
	}
	dueAt(t, l, now, over, still, api.OK)
}

// Le2, Le3: many marks; each is the greatest token of its key, whatever comes, and none ever falls.
func TestMarksNeverFall(t *testing.T) {
	counts := make(map[api.Errno]int)
	for seed := range int64(20) {
		r := rand.New(rand.NewSource(seed))
		keys := []int{5, 20, 100}[seed%3]
		m := make(noted)
		var l []api.Mark
		if seed%5 == 0 {
			l = marksOf(many(1020))
			for _, one := range l {
				m[one.Key] = one.Token
			}
		}
		for range 200 {
			h := chance(r, keys)
			before := Last(l, h.Key)
			want, code := m.mark(h.Key, h.Token)
			got, e := Mark(l, h.Key, h.Token)
			tells(t, fmt.Sprintf("seed %d: Mark of %q, %d", seed, h.Key, h.Token), got, e, want, code)
			counts[code]++
			if code != api.OK {
				continue
			}
			if after := Last(got, h.Key); after < before || after < h.Token || after != before && after != h.Token {
				t.Fatalf("seed %d: Mark of %q, %d: from %d to %d", seed, h.Key, h.Token, before, after)
			}
			for _, one := range l {
				if Last(got, one.Key) < one.Token {
					t.Fatalf("seed %d: the mark of %q fell", seed, one.Key)
				}
			}
			l = got
			is(t, "CheckMarks", CheckMarks(l), api.OK)
		}
	}
	if counts[api.OK] < 100 || counts[api.ErrFull] < 20 || counts[api.ErrArg] < 100 {
		t.Errorf("too few of a kind: %v", counts)
	}
}

// times is times at the edges of what may be, and some between.
var times = []int{0, 1, 2, 15, 1 << 16, 1 << 20, 1 << 30, 1<<30 + 1, end/2 + 1, end - 15, end - 2, end - 1, end}

// Le3: what is packed at one time and unpacked at another lasts as long as it did, as far as MaxTime goes.
func TestLastsAsLong(t *testing.T) {
	var l []api.Hold
	for i, until := range times {
		l = append(l, of(name(i), uint64(i+1), until))
	}
	for _, from := range times {
		packed, e := Pack(l, from)
		is(t, "Pack", e, api.OK)
		is(t, "Check of what is packed", Check(packed), api.OK)
		for _, to := range times {
			got, e := Unpack(packed, to)
			var want []api.Hold
			for _, h := range l {
				left := max(int64(h.Until)-int64(from), 0)
				want = append(want, of(h.Key, h.Token, int(min(int64(to)+left, end))))
			}
			tells(t, fmt.Sprintf("packed at %d, unpacked at %d", from, to), got, e, want, api.OK)
			is(t, "Check of what is unpacked", Check(got), api.OK)
			if to == from {
				sameTime(t, l, got, from)
			}
		}
	}
}

// sameTime tells whether holds that are not due were packed and unpacked as they were, and those that are due are due still.
func sameTime(t *testing.T, l, got []api.Hold, now int) {
	t.Helper()
	_, live, _ := Due(l, now)
	_, stays, _ := Due(got, now)
	if !slices.Equal(live, stays) {
		t.Errorf("at %d: %v are live, %v behind Pack and Unpack", now, live, stays)
	}
}

// Le3: on a way of many moves a hold is due as many ticks behind its beginning as it would be without them.
func TestManyMoves(t *testing.T) {
	for seed := range int64(200) {
		r := rand.New(rand.NewSource(seed))
		now, ttl := r.Intn(1000), 1+r.Intn(200)
		until, _ := Until(now, ttl)
		l := list(of("a", 1, until))
		for left := ttl; left > 0; left-- {
			if due, _, _ := Due(l, now); len(due) != 0 {
				t.Fatalf("seed %d: due with %d of %d left", seed, left, ttl)
			}
			if r.Intn(4) == 0 {
				packed, _ := Pack(l, now)
				now = r.Intn(1 << 30)
				l, _ = Unpack(packed, now)
			}
			now++
		}
		if due, _, _ := Due(l, now); len(due) != 1 {
			t.Errorf("seed %d: not due behind all of %d", seed, ttl)
		}
	}
}

// Le1: all pairs of a time and a ttl at the edges.
func TestUntilByWords(t *testing.T) {
	for _, now := range append(slices.Clone(times), badTimes...) {
		for _, ttl := range []int{-1 << 40, -1, 0, 1, 2, 15, 16, long - 1, long, long + 1, end, 1 << 40} {
			want, code := 0, api.ErrArg
			if slices.Contains(times, now) && ttl > 0 && ttl < long+1 {
				want, code = int(min(int64(now)+int64(ttl), end)), api.OK
			}
			if got, e := Until(now, ttl); got != want || e != code {
				t.Errorf("Until(%d, %d): %d, error %d, not %d, error %d", now, ttl, got, e, want, code)
			}
		}
	}
}

// Le1: all lists of up to three holds, of few keys, tokens and times, at the edges and between.
func TestCheckByWords(t *testing.T) {
	var grow func(l []api.Hold)
	grow = func(l []api.Hold) {
		good, goodMarks := true, true
		for i, h := range l {
			for _, ahead := range l[:i] {
				good = good && strings.Compare(ahead.Key, h.Key) < 0
			}
			good = good && len(h.Key) <= 64
		}
		goodMarks = good
		for _, h := range l {
			good, goodMarks = good && may(h), goodMarks && h.Token != 0
		}
		if good != (Check(l) == api.OK) {
			t.Errorf("Check(%v): error %d", l, Check(l))
		}
		if goodMarks != (CheckMarks(marksOf(l)) == api.OK) {
			t.Errorf("CheckMarks(%v): error %d", marksOf(l), CheckMarks(marksOf(l)))
		}
		if len(l) == 3 {
			return
		}
		for _, key := range []string{"", "a", "b", longest, tooLong} {
			for _, token := range []uint64{0, 1, 1<<64 - 1} {
				for _, until := range []int{-1, 0, end, end + 1} {
					grow(append(slices.Clone(l), of(key, token, until)))
				}
			}
		}
	}
	grow(nil)
}

// R4: the same calls tell the same.
func TestSameAgain(t *testing.T) {
	run := func() string {
		var b strings.Builder
		r := rand.New(rand.NewSource(1))
		var l []api.Hold
		var m []api.Mark
		for range 200 {
			h := chance(r, 30)
			set, e := Set(l, h)
			noted, f := Mark(m, h.Key, h.Token)
			if e == api.OK {
				l = set
			}
			if f == api.OK {
				m = noted
			}
			due, live, g := Due(l, h.Until)
			packed, p := Pack(l, h.Until)
			unpacked, u := Unpack(l, h.Until)
			fmt.Fprint(&b, set, e, noted, f, due, live, g, packed, p, unpacked, u, Drop(l, h.Key), Last(m, h.Key))
		}
		return b.String()
	}
	if run() != run() {
		t.Error("the same calls told otherwise")
	}
}
