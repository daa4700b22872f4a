package plan

import (
	"math"
	"math/rand"
	"slices"
	"strings"
	"testing"

	"gudgeon/api"
	"gudgeon/chart"
)

// counts is how often what was told with which code.
type counts map[string]map[api.Errno]int

// add counts what was told.
func (c counts) add(what string, e api.Errno) {
	if c[what] == nil {
		c[what] = map[api.Errno]int{}
	}
	c[what][e]++
}

// often tells whether all that can be told was.
func (c counts) often(t *testing.T, least int, all map[string][]api.Errno) {
	t.Helper()
	for what, codes := range all {
		for _, e := range codes {
			if c[what][e] < least {
				t.Errorf("%s told %d only %d times", what, e, c[what][e])
			}
		}
	}
}

// canTell is what each function can tell.
func canTell() map[string][]api.Errno {
	return map[string][]api.Errno{
		"Check": {0, 1},
		"Start": {0, 1, 6, 9},
		"Step":  {0, 1, 2, 4, 7},
		"Split": {0, 1, 2, 6, 9},
		"Merge": {0, 1, 2, 4, 9, 10},
	}
}

// isKey tells whether a text is a key, by the words.
func isKey(k string) bool {
	return len(k) < 65
}

// holds tells whether a span has a key, by the words.
func holds(s api.Span, k string) bool {
	return strings.Compare(s.From, k) < 1 && (s.To == "" || strings.Compare(k, s.To) == -1)
}

// may tells whether a chart and plans may be, by the words.
func may(p pair) bool {
	if chart.Check(p.l) != 0 || len(p.plans) >= 2 {
		return false
	}
	if len(p.plans) == 0 {
		return true
	}
	x := p.plans[0]
	if x.Id == 0 || x.From <= 0 || x.From > 16 || x.To <= 0 || x.To > 16 || x.From == x.To {
		return false
	}
	for _, r := range p.l {
		if r.Span.From != x.Span.From || r.Span.To != x.Span.To {
			continue
		}
		switch x.Step {
		case 1, 2, 3:
			return r.Group == x.From
		case 4, 5:
			return r.Group == x.To
		}
	}
	return false
}

// start is Start by the words.
func (p pair) start(id uint64, k string, group int) ([]api.Plan, api.Errno) {
	switch {
	case !may(p) || id == 0 || !isKey(k) || group < 1 || group > 16:
		return nil, 1
	case len(p.plans) == 1:
		return nil, 9
	}
	for _, r := range p.l {
		if holds(r.Span, k) && r.Group != group {
			return list(api.Plan{Id: id, Span: r.Span, From: r.Group, To: group, Step: 1}), 0
		}
	}
	return nil, 6
}

// step is Step by the words.
func (p pair) step(id uint64, step int) (pair, api.Errno) {
	switch {
	case !may(p):
		return pair{}, 1
	case len(p.plans) == 0 || p.plans[0].Id != id:
		return pair{}, 4
	case step < p.plans[0].Step || step == p.plans[0].Step:
		return pair{}, 7
	case step-1 != p.plans[0].Step:
		return pair{}, 1
	}
	behind := pair{slices.Clone(p.l), slices.Clone(p.plans)}
	behind.plans[0].Step = step
	if step == 6 {
		behind.plans = nil
	}
	if step == 4 {
		return behind.moved()
	}
	return behind, 0
}

// moved is a chart whose planned range is To's, of a new epoch.
func (p pair) moved() (pair, api.Errno) {
	var version uint64
	for _, r := range p.l {
		version = max(version, r.Epoch)
	}
	if version == top {
		return pair{}, 2
	}
	for i := range p.l {
		if p.l[i].Span.From == p.plans[0].Span.From {
			p.l[i].Group, p.l[i].Epoch = p.plans[0].To, version+1
		}
	}
	return p, 0
}

// planned tells whether a range has the plan, if there is one.
func (p pair) planned(r api.Range) bool {
	return len(p.plans) > 0 && p.plans[0].Span.From == r.Span.From && p.plans[0].Span.To == r.Span.To
}

// split is Split by the words.
func (p pair) split(k string) ([]api.Range, api.Errno) {
	if !may(p) {
		return nil, 1
	}
	l, e := chart.Split(p.l, k)
	for _, r := range p.l {
		if e == 0 && holds(r.Span, k) && p.planned(r) {
			return nil, 9
		}
	}
	return l, e
}

// merge is Merge by the words.
func (p pair) merge(k string) ([]api.Range, api.Errno) {
	if !may(p) {
		return nil, 1
	}
	l, e := chart.Merge(p.l, k)
	for _, r := range p.l {
		// Of a merge that layer 11 does not refuse k is not empty.
		if e == 0 && (r.Span.From == k || r.Span.To == k) && p.planned(r) {
			return nil, 9
		}
	}
	return l, e
}

// asks holds a call of each function against the words.
func asks(t *testing.T, c counts, p pair, id uint64, k string, group, step int) {
	t.Helper()
	begun, e := p.start(id, k, group)
	starts(t, p, id, k, group, begun, e)
	c.add("Start", e)
	behind, e := p.step(id, step)
	steps(t, p, id, step, behind.l, behind.plans, e)
	c.add("Step", e)
	turned, e := p.split(k)
	splits(t, p, k, turned, e)
	c.add("Split", e)
	turned, e = p.merge(k)
	merges(t, p, k, turned, e)
	c.add("Merge", e)
}

// checks holds Check against the words.
func checks(t *testing.T, c counts, p pair) {
	t.Helper()
	var want api.Errno
	if !may(p) {
		want = 1
	}
	if e := Check(p.l, p.plans); e != want {
		t.Fatalf("Check(%s): error %d, not %d", p.text(), e, want)
	}
	c.add("Check", want)
}

// small is charts of few ranges and groups.
func smcanTell() [][]api.Range {
	all := [][]api.Range{{of("", "b", 1, 1), of("b", "c", 1, 1), of("c", "", 1, top)}, {of("", "b", 1, top), of("b", "", 1, 3)}}
	for _, ends := range [][]string{{""}, {"", "b"}, {"", "c"}, {"", "b", "c"}} {
		for groups := range 1 << len(ends) {
			var l []api.Range
			for i, from := range ends {
				l = append(l, of(from, append(ends, "")[i+1], 1+groups>>i&1, uint64(3+i)))
			}
			all = append(all, l)
		}
	}
	return all
}

// somePlans is plans of few spans, groups, steps and Ids.
func somePlans() []api.Plan {
	var all []api.Plan
	for _, from := range list("", "b", "c") {
		for _, to := range list("", "b", "c") {
			for groups := range 16 {
				for step := range 8 {
					all = append(all, moving(7, from, to, groups>>2, groups&3, step))
				}
			}
		}
	}
	return append(all, moving(0, "", "", 1, 2, 1), moving(0, "b", "", 1, 2, 1))
}

// Pl1, Pl2: each of few plans with each of small charts: Check, and all calls with few keys, groups and steps.
func TestSmall(t *testing.T) {
	c := counts{}
	for _, l := range smcanTell() {
		plans := [][]api.Plan{nil}
		for _, p := range somePlans() {
			plans = append(plans, list(p))
			if p.Id == 7 && p.From == 1 && p.To == 2 {
				plans = append(plans, list(p, p))
			}
		}
		for i, x := range plans {
			p := pair{l, x}
			checks(t, c, p)
			if !may(p) && i%16 != 0 {
				continue
			}
			for j, k := range list("", "a", "b", "bb", "c", "d", tooLong) {
				for group := range 4 {
					asks(t, c, p, list[uint64](7, 7, 8, 0)[(j+group)%4], k, group, 2*group+j%3)
				}
			}
			for step := -1; step < 9; step++ {
				asks(t, c, p, 7, "b", 2, step)
				asks(t, c, p, 8, "c", 1, step)
			}
		}
	}
	c.often(t, 20, map[string][]api.Errno{"Check": canTell()["Check"], "Start": canTell()["Start"], "Split": canTell()["Split"], "Merge": canTell()["Merge"]})
	c.often(t, 3, canTell())
}

// keyOf is a key by chance, or none.
func keyOf(r *rand.Rand, l []api.Range) string {
	switch r.Intn(12) {
	case 0:
		return tooLong
	case 1:
		return highest
	case 2:
		return ""
	case 3, 4, 5:
		return key(r.Intn(700))
	case 6, 7:
		return l[r.Intn(len(l))].Span.From + "\x00"
	}
	return l[r.Intn(len(l))].Span.From
}

// chartOf is a chart by chance.
func chartOf(r *rand.Rand) []api.Range {
	l := many(1 + r.Intn(64))
	if r.Intn(3) == 0 {
		l = many(1 + r.Intn(4))
	}
	groups := 1 + r.Intn(16)
	for i := range l {
		l[i].Group = 1 + r.Intn(groups)
	}
	switch r.Intn(8) {
	case 0:
		l[r.Intn(len(l))].Epoch = top
	case 1:
		l[r.Intn(len(l))].Epoch = top - 1
	}
	return l
}

// planOf is a plan by chance, that goes with a chart, or nearly.
func planOf(r *rand.Rand, l []api.Range) api.Plan {
	x := l[r.Intn(len(l))]
	p := api.Plan{Id: uint64(1 + r.Intn(3)), Span: x.Span, From: x.Group, To: 1 + r.Intn(16), Step: 1 + r.Intn(5)}
	if p.Step >= 4 {
		p.From, p.To = p.To, p.From
	}
	switch r.Intn(16) {
	case 0:
		p.Span.To = key(r.Intn(700))
	case 1:
		p.From = r.Intn(18)
	case 2:
		p.To = r.Intn(18)
	case 3:
		p.Step = r.Intn(8)
	case 4:
		p.Id = 0
	}
	return p
}

// Pl1, Pl2: calls by chance.
func TestByChance(t *testing.T) {
	r := rand.New(rand.NewSource(21))
	c := counts{}
	for range 30000 {
		p := pair{l: chartOf(r)}
		if r.Intn(4) > 0 {
			p.plans = list(planOf(r, p.l))
		}
		if r.Intn(30) == 0 {
			p.plans = append(p.plans, planOf(r, p.l))
		}
		checks(t, c, p)
		k, step := keyOf(r, p.l), r.Intn(8)
		if len(p.plans) > 0 {
			if r.Intn(3) == 0 {
				k = p.plans[0].Span.From + "\x00"
			}
			if r.Intn(2) == 0 {
				step = p.plans[0].Step + 1
			}
		}
		asks(t, c, p, uint64(r.Intn(4)), k, r.Intn(18), step)
	}
	c.often(t, 50, canTell())
}

// walk is a chart and plans on their way, and what was done.
type walk struct {
	pair
	started map[uint64]api.Plan // as it began
	steps   map[uint64][]int    // as they were done
	c       counts
}

// act does something by chance.
func (w *walk) act(t *testing.T, r *rand.Rand) {
	t.Helper()
	k := keyOf(r, w.l)
	switch r.Intn(8) {
	case 0, 1:
		w.start(t, uint64(len(w.started)+1), k, 1+r.Intn(4))
	case 2, 3, 4:
		w.step(t, r)
	case 5:
		l, e := Split(w.l, w.plans, k)
		w.c.add("Split", e)
		if e == api.OK {
			w.stays(t, l)
		}
	case 6:
		l, e := Merge(w.l, w.plans, k)
		w.c.add("Merge", e)
		if e == api.OK {
			w.stays(t, l)
		}
	}
}

// start starts a plan, if there is none.
func (w *walk) start(t *testing.T, id uint64, k string, group int) {
	t.Helper()
	plans, e := Start(w.l, w.plans, id, k, group)
	w.c.add("Start", e)
	if e != api.OK {
		return
	}
	if len(w.plans) != 0 || len(plans) != 1 || plans[0].Step != api.PlanFreeze {
		t.Fatalf("Start of %s: %+v", w.text(), plans)
	}
	w.plans = plans
	w.started[id] = plans[0]
	w.steps[id] = list(api.PlanFreeze)
}

// step lets a plan, that there is or that there was, come to some step. Just one range turns, at just one step.
func (w *walk) step(t *testing.T, r *rand.Rand) {
	t.Helper()
	id := uint64(len(w.started) + r.Intn(3) - 1)
	step := 1 + r.Intn(6)
	l, plans, e := Step(w.l, w.plans, id, step)
	w.c.add("Step", e)
	if e != api.OK {
		return
	}
	p := w.started[id]
	for i, x := range l {
		if turned := step == api.PlanSwitch && x.Span == p.Span; !turned && x != w.l[i] {
			t.Fatalf("Step to %d of %s: range %d: %+v", step, w.text(), i, x)
		}
	}
	for _, x := range plans {
		x.Step = api.PlanFreeze
		if x != p {
			t.Fatalf("Step of %+v: %+v", p, x)
		}
	}
	w.l, w.plans = l, plans
	w.steps[id] = append(w.steps[id], step)
	if step >= api.PlanSwitch != (w.keeper(p.Span) == p.To) || (step == api.PlanDone) != (len(plans) == 0) {
		t.Fatalf("behind step %d of %+v: %s", step, p, w.text())
	}
}

// keeper is whose a span is; 0: it is no range.
func (w *walk) keeper(s api.Span) int {
	for _, r := range w.l {
		if r.Span == s {
			return r.Group
		}
	}
	return 0
}

// stays takes a chart whose ranges were split or merged: no key turned its group.
func (w *walk) stays(t *testing.T, l []api.Range) {
	t.Helper()
	for _, r := range slices.Concat(w.l, l) {
		ahead, _ := chart.Groups(w.l, list(r.Span.From))
		behind, _ := chart.Groups(l, list(r.Span.From))
		if len(ahead) != 1 || !slices.Equal(ahead, behind) {
			t.Fatalf("%s, %q: %d, then %d", w.text(), r.Span.From, ahead, behind)
		}
	}
	w.l = l
}

// Pl3: what goes with a chart does so behind each turn; the steps of a plan are done in order, each once; and behind
// PlanDone the range is To's.
func TestWays(t *testing.T) {
	c := counts{}
	for seed := range 400 {
		r := rand.New(rand.NewSource(int64(seed)))
		l, _ := chart.New(1 + r.Intn(4))
		w := &walk{pair: pair{l: l}, started: map[uint64]api.Plan{}, steps: map[uint64][]int{}, c: c}
		for range 300 {
			w.act(t, r)
			if e := Check(w.l, w.plans); e != api.OK {
				t.Fatalf("%s: error %d", w.text(), e)
			}
		}
		for id, done := range w.steps {
			in := list(api.PlanFreeze, api.PlanExport, api.PlanImport, api.PlanSwitch, api.PlanDrop, api.PlanDone)
			if !slices.Equal(done, in[:len(done)]) || len(done) < 6 && id != uint64(len(w.steps)) {
				t.Errorf("the steps of plan %d of %d: %d", id, len(w.steps), done)
			}
		}
	}
	c.often(t, 100, map[string][]api.Errno{"Start": {0, 6, 9}, "Step": {0, 1, 4, 7}, "Split": {0, 6, 9}, "Merge": {0, 4, 10}})
	c.often(t, 10, map[string][]api.Errno{"Merge": {9}})
}

// Pl3: from wherever a plan is, its steps lead to PlanDone, behind which the range is To's, and the others' are whose
// they were.
func TestToTheEnd(t *testing.T) {
	for _, l := range charts() {
		if chart.Version(l) == top {
			continue
		}
		for at := range l {
			for now := 1; now <= 5; now++ {
				chartNow, plans := with(l, at, 7, now)
				for step := now + 1; step <= 6; step++ {
					var e api.Errno
					chartNow, plans, e = Step(chartNow, plans, 7, step)
					if e != api.OK || Check(chartNow, plans) != api.OK {
						t.Fatalf("range %d, step %d: %s, error %d", at, step, pair{chartNow, plans}.text(), e)
					}
				}
				for i, r := range chartNow {
					if r.Span != l[i].Span || i != at && r != l[i] || i == at && r.Group != 7 {
						t.Fatalf("range %d: %+v, behind %+v", i, r, l[i])
					}
				}
				if len(plans) != 0 {
					t.Fatalf("range %d: a plan is left: %+v", at, plans)
				}
			}
		}
	}
}

// R1: the greatest and least numbers.
func TestFarNumbers(t *testing.T) {
	c := counts{}
	for _, p := range append(right()[:40], wrong()...) {
		for _, n := range list(math.MinInt, math.MinInt+1, math.MaxInt-1, math.MaxInt) {
			asks(t, c, p, math.MaxUint64, "c", n, n)
			asks(t, c, p, 7, "c", n, n)
		}
	}
}

// R4: the same calls tell the same.
func TestSameAgain(t *testing.T) {
	run := func() []pair {
		var told []pair
		for _, p := range right() {
			begun, _ := Start(p.l, p.plans, 7, "c", 2)
			parts, _ := Split(p.l, p.plans, "c")
			both, _ := Merge(p.l, p.plans, "t")
			told = append(told, pair{parts, begun}, pair{both, nil})
			for step := range 7 {
				behind, plans, _ := Step(p.l, p.plans, 7, step)
				told = append(told, pair{behind, plans})
			}
		}
		return told
	}
	first, second := run(), run()
	for i, p := range first {
		if !same(p.l, second[i].l, p.plans, second[i].plans) {
			t.Fatalf("%s, then %s", p.text(), second[i].text())
		}
	}
}
