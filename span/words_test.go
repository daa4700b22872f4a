package span

import (
	"fmt"
	"math/rand"
	"slices"
	"strings"
	"testing"

	"gudgeon/api"
)

// keys is some that rise. Spans whose ends are among them are told apart by which of them they have: where a span's
// keys begin, or end, one of these stands.
var keys = []string{"", "\x00", "a", "a\x00", "b", strings.Repeat("k", 64), "\xff", strings.Repeat("\xff", 64)}

// set is which keys are had: a bit each.
type set uint

// everything is all sets.
const everything = set(1) << 8

// all is spans by their ends, whether they may be or not; some ends are too long.
func all() []api.Span {
	var l []api.Span
	for _, from := range append(slices.Clone(keys), strings.Repeat("a", 65)) {
		for _, to := range append(slices.Clone(keys), strings.Repeat("k", 65)) {
			l = append(l, of(from, to))
		}
	}
	return l
}

// setOf is a span's keys, by the chapter's words; false: it may not be.
func setOf(s api.Span) (set, bool) {
	if len(s.From) > 64 || len(s.To) > 64 || s.To != "" && strings.Compare(s.To, s.From) <= 0 {
		return 0, false
	}
	var had set
	for i, k := range keys {
		if strings.Compare(s.From, k) <= 0 && (s.To == "" || strings.Compare(k, s.To) < 0) {
			had |= 1 << i
		}
	}
	return had, true
}

// runs is a set's list in form: there is just one.
func runs(had set) []api.Span {
	var l []api.Span
	for i, k := range keys {
		was := i > 0 && had>>(i-1)&1 == 1
		is := had>>i&1 == 1
		if is && !was {
			l = append(l, of(k, ""))
		}
		if was && !is {
			l[len(l)-1].To = k
		}
	}
	return l
}

// Sp1, Sp3: each span, and each key.
func TestSpansByKeys(t *testing.T) {
	for _, s := range all() {
		had, ok := setOf(s)
		says(t, fmt.Sprintf("Check(%q)", s), Check(s) == api.OK, ok)
		for i, k := range keys {
			says(t, fmt.Sprintf("Has(%q, %q)", s, k), Has(s, k), had>>i&1 == 1)
			low, high, e := Split(s, k)
			if e != api.OK {
				if ok && had>>i&1 == 1 && k != s.From {
					t.Errorf("Split(%q, %q): error %d", s, k, e)
				}
				continue
			}
			lowHad, _ := setOf(low)
			highHad, _ := setOf(high)
			if lowHad != had&(1<<i-1) || highHad != had&^(1<<i-1) || lowHad == 0 || highHad == 0 {
				t.Errorf("Split(%q, %q): %q, %q", s, k, low, high)
			}
			if back, e := Join(low, high); e != api.OK || back != s {
				t.Errorf("Join(%q, %q): %q, error %d, not %q", low, high, back, e, s)
			}
		}
	}
}

// Sp1, Sp3: each two spans.
func TestPairsByKeys(t *testing.T) {
	for _, a := range all() {
		had, ok := setOf(a)
		for _, b := range all() {
			more, too := setOf(b)
			both, met := Meet(a, b)
			l := []api.Span{both}
			if !met {
				l = nil
			}
			if !slices.Equal(l, runs(had&more)) || !met && both != (api.Span{}) {
				t.Errorf("Meet(%q, %q): %q, %t", a, b, both, met)
			}
			one, e := Join(a, b)
			switch {
			case !ok || !too:
				is(t, fmt.Sprintf("Join(%q, %q)", a, b), e, api.ErrArg)
			case had&more == 0 && len(runs(had|more)) == 1 && a.From < b.From:
				if e != api.OK || one != runs(had | more)[0] {
					t.Errorf("Join(%q, %q): %q, error %d", a, b, one, e)
				}
			default:
				is(t, fmt.Sprintf("Join(%q, %q)", a, b), e, api.ErrRange)
			}
		}
	}
}

// Sp2, Sp3: each list in form, and each span and key.
func TestListsByKeys(t *testing.T) {
	for have := range everything {
		l := runs(have)
		says(t, fmt.Sprintf("Form(%q)", l), Form(l), true)
		for i, k := range keys {
			says(t, fmt.Sprintf("In(%q, %q)", l, k), In(l, k), have>>i&1 == 1)
		}
		for _, s := range all() {
			had, ok := setOf(s)
			says(t, fmt.Sprintf("Covers(%q, %q)", l, s), Covers(l, s), ok && had&^have == 0)
			if !ok {
				adds(t, l, s, nil, api.ErrArg)
				lessens(t, l, s, nil, api.ErrArg)
				continue
			}
			adds(t, l, s, runs(have|had), api.OK)
			lessens(t, l, s, runs(have&^had), api.OK)
		}
	}
}

// Sp2: a list is in form if it is the one of its keys; each list of up to three spans.
func TestFormByKeys(t *testing.T) {
	spans := all()
	for _, a := range spans {
		formed(t, a)
		for _, b := range spans {
			formed(t, a, b)
			for _, c := range spans {
				formed(t, a, b, c)
			}
		}
	}
}

// formed tells whether Form tells what the list's keys tell.
func formed(t *testing.T, l ...api.Span) {
	t.Helper()
	var have set
	fit := true
	for _, s := range l {
		had, ok := setOf(s)
		have |= had
		fit = fit && ok
	}
	if want := fit && slices.Equal(l, runs(have)); Form(l) != want {
		t.Fatalf("Form(%q): %t", l, !want)
	}
}

// places is how many keys take part in calls by chance: enough that a list of them may be full.
const places = 300

// chance is a span of a few keys, and from which place on, up to which.
func chance(r *rand.Rand) (s api.Span, from, to int) {
	from = r.Intn(places)
	to = from + 1 + r.Intn(1+r.Intn(4))
	if to >= places {
		return of(key(from), ""), from, places
	}
	return of(key(from), key(to)), from, to
}

// Sp2, Sp3: many calls, one behind the other, on a list that now and then is full; key by key.
func TestWords(t *testing.T) {
	full := 0
	for seed := range int64(30) {
		r := rand.New(rand.NewSource(seed))
		var l []api.Span
		var had [places]bool
		for range 1000 {
			s, from, to := chance(r)
			call, take := Less, r.Intn(2) == 0
			if take {
				call = Add
			}
			turned := had
			for i := from; i < to; i++ {
				turned[i] = take
			}
			want := spansOf(turned[:])
			got, e := call(l, s)
			if len(want) > 64 {
				is(t, fmt.Sprintf("seed %d: %q", seed, s), e, api.ErrFull)
				full++
				continue
			}
			if e != api.OK || !slices.Equal(got, want) {
				t.Fatalf("seed %d: %q, %t: %q, error %d, not %q", seed, s, take, got, e, want)
			}
			l, had = got, turned
		}
		for i, is := range had {
			says(t, fmt.Sprintf("seed %d: In(%d)", seed, i), In(l, key(i)), is)
		}
	}
	if full == 0 {
		t.Error("no list was full")
	}
}

// spansOf is the spans of keys that are had, by their places.
func spansOf(had []bool) []api.Span {
	var l []api.Span
	for i, is := range had {
		was := i > 0 && had[i-1]
		if is && !was {
			l = append(l, of(key(i), ""))
		}
		if was && !is {
			l[len(l)-1].To = key(i)
		}
	}
	return l
}

// R4: the same calls tell the same.
func TestSameAgain(t *testing.T) {
	run := func() string {
		var told strings.Builder
		for have := range everything {
			l := runs(have)
			for _, s := range all() {
				more, e := Add(l, s)
				less, f := Less(l, s)
				fmt.Fprint(&told, more, e, less, f)
			}
		}
		return told.String()
	}
	if run() != run() {
		t.Error("the same calls told otherwise")
	}
}
