package plan

import (
	"fmt"
	"math"
	"reflect"
	"slices"
	"strings"
	"testing"

	"gudgeon/api"
)

// The greatest epoch that may be.
const top = uint64(1) << 62

// The longest keys, and what is too long to be one.
var (
	longest = strings.Repeat("k", 64)
	highest = strings.Repeat("\xff", 64)
	tooLong = strings.Repeat("k", 65)
)

// of is a range.
func of(from, to string, group int, epoch uint64) api.Range {
	return api.Range{Span: api.Span{From: from, To: to}, Group: group, Epoch: epoch}
}

// list is a list of whatever it is.
func list[T any](l ...T) []T {
	return l
}

// moving is a plan of that Id for a span, from a group to another one, that has come to a step.
func moving(id uint64, from, to string, ahead, behind, step int) api.Plan {
	return api.Plan{Id: id, Span: api.Span{From: from, To: to}, From: ahead, To: behind, Step: step}
}

// letters is a chart of five ranges.
func letters() []api.Range {
	return list(of("", "b", 1, 5), of("b", "h", 1, 3), of("h", "q", 16, 9), of("q", "t", 3, 1), of("t", "", 3, 2))
}

// key is the i-th of many keys, which rise.
func key(i int) string {
	return fmt.Sprintf("k%06d", i)
}

// many is n ranges of group 1: the i-th one begins with the key 10 i, the first one with the empty key.
func many(n int) []api.Range {
	var l []api.Range
	for i := range n {
		l = append(l, of(key(10*i), key(10*i+10), 1, uint64(i+1)))
	}
	l[0].Span.From, l[n-1].Span.To = "", ""
	return l
}

// with is a chart, of which one range has a plan of Id 7 to another group, that has come to a step: that range is whose
// it then is.
func with(l []api.Range, at, group, step int) ([]api.Range, []api.Plan) {
	l = slices.Clone(l)
	r := &l[at]
	p := api.Plan{Id: 7, Span: r.Span, From: r.Group, To: group, Step: step}
	if step == 4 || step == 5 {
		r.Group = group
	}
	return l, list(p)
}

// charts is charts that may be.
func charts() [][]api.Range {
	return [][]api.Range{
		list(of("", "", 1, 1)),
		list(of("", "", 16, top)),
		list(of("", "m", 1, 1), of("m", "", 1, 1)),
		list(of("", "m", 2, top), of("m", "", 1, 1)),
		list(of("", "\x00", 3, 2), of("\x00", "\x00\x00", 2, 3), of("\x00\x00", "", 3, 1)),
		list(of("", longest, 1, 300), of(longest, highest, 2, 1), of(highest, "", 2, 8)),
		letters(),
		many(63), many(64),
	}
}

// noCharts is ranges that are no chart.
func noCharts() [][]api.Range {
	return [][]api.Range{
		nil, {},
		many(65),
		list(of("a", "", 1, 1)), list(of("", "a", 1, 1)),
		list(of("", "", 0, 1)), list(of("", "", 17, 1)), list(of("", "", 1, 0)), list(of("", "", 1, top+1)),
		list(of("", "m", 1, 1), of("n", "", 1, 1)),
		list(of("", "m", 1, 1), of("l", "", 1, 1)),
		list(of("", "", 1, 1), of("", "", 1, 1)),
		list(of("m", "", 1, 1), of("", "m", 1, 1)),
		list(of("", "m", 1, 1), of("m", "m", 1, 1), of("m", "", 1, 1)),
		list(of("", tooLong, 1, 1), of(tooLong, "", 1, 1)),
	}
}

// pair is a chart and plans.
type pair struct {
	l     []api.Range
	plans []api.Plan
}

// right is charts and plans that may be, and go with them.
func right() []pair {
	var all []pair
	for _, l := range charts() {
		all = append(all, pair{l, nil}, pair{l, list[api.Plan]()})
		for at, r := range l {
			for _, group := range list(1, 2, 16) {
				if group == r.Group {
					continue
				}
				for step := 1; step <= 5; step++ {
					turned, plans := with(l, at, group, step)
					all = append(all, pair{turned, plans})
				}
			}
		}
	}
	for _, id := range list[uint64](1, 8, 1<<63, math.MaxUint64) {
		all = append(all, pair{letters(), list(moving(id, "b", "h", 1, 2, 1))})
	}
	return all
}

// wrong is ranges that are no chart; more plans than one; and plans that may not be, or do not go with their chart.
func wrong() []pair {
	var all []pair
	for _, l := range noCharts() {
		all = append(all, pair{l, nil}, pair{l, list(moving(7, "", "", 1, 2, 1))}, pair{l, list(api.Plan{})})
		for i, r := range l {
			turned, plans := with(l, i, 2, 3)
			all = append(all, pair{turned, plans}, pair{l, list(moving(7, r.Span.From, r.Span.To, r.Group, 2, 1))})
		}
	}
	good, other := moving(7, "b", "h", 1, 2, 1), moving(8, "q", "t", 3, 2, 3)
	for _, plans := range [][]api.Plan{
		{good, good}, {good, other}, {other, good}, {good, other, good}, {good, {}}, {{}, good}, {{}}, {{}, {}},
		slices.Repeat(list(good), 64),
	} {
		all = append(all, pair{letters(), plans})
	}
	for _, p := range wrongPlans() {
		all = append(all, pair{letters(), list(p)})
	}
	return all
}

// badGroups is groups that may not be.
func badGroups() []int {
	return list(0, -1, 17, 18, -16, 255, 257, 1<<32, 1<<32+1, math.MaxInt, math.MinInt)
}

// badSteps is steps that no plan is at.
func badSteps() []int {
	return list(0, -1, 6, 7, 8, -5, 255, 257, 1<<32+1, math.MaxInt, math.MinInt)
}

// badKeys is texts that are no keys.
func badKeys() []string {
	return list(tooLong, highest+"\x00", strings.Repeat("\x00", 65), strings.Repeat("b", 1<<16))
}

// wrongPlans is plans that may not be, or do not go with letters.
func wrongPlans() []api.Plan {
	all := list(
		moving(0, "b", "h", 1, 2, 1),
		// Not one of the ranges, just.
		moving(7, "b", "g", 1, 2, 1), moving(7, "b", "i", 1, 2, 1), moving(7, "a", "h", 1, 2, 1), moving(7, "c", "h", 1, 2, 1),
		moving(7, "b", "q", 1, 2, 1), moving(7, "", "h", 1, 2, 1), moving(7, "b", "", 1, 2, 1), moving(7, "", "", 1, 2, 1),
		moving(7, "b\x00", "h", 1, 2, 1), moving(7, "b", "h\x00", 1, 2, 1), moving(7, "q", "", 3, 2, 1),
		// No span that may be.
		moving(7, "h", "b", 1, 2, 1), moving(7, "b", "b", 1, 2, 1), moving(7, tooLong, "", 3, 2, 1), moving(7, "b", tooLong, 1, 2, 1),
		// To the same group.
		moving(7, "b", "h", 1, 1, 1), moving(7, "h", "q", 16, 16, 1), moving(7, "b", "h", 1, 1, 4),
	)
	for _, group := range badGroups() {
		all = append(all, moving(7, "b", "h", group, 1, 4), moving(7, "b", "h", 1, group, 1),
			moving(7, "b", "h", group, 2, 1), moving(7, "b", "h", 2, group, 4), moving(7, "b", "h", group, group, 1))
	}
	for _, step := range badSteps() {
		all = append(all, moving(7, "b", "h", 1, 2, step), moving(7, "b", "h", 2, 1, step))
	}
	// Another group's range than the step says.
	for step := 1; step <= 3; step++ {
		all = append(all, moving(7, "b", "h", 2, 1, step), moving(7, "b", "h", 2, 3, step), moving(7, "h", "q", 1, 16, step))
	}
	for step := 4; step <= 5; step++ {
		all = append(all, moving(7, "b", "h", 1, 2, step), moving(7, "b", "h", 2, 3, step), moving(7, "h", "q", 16, 1, step))
	}
	return all
}

// text is a chart and plans in a failure's message.
func (p pair) text() string {
	if len(p.l) > 6 {
		return fmt.Sprintf("%d ranges, %+v", len(p.l), p.plans)
	}
	return fmt.Sprintf("%+v, %+v", p.l, p.plans)
}

// same tells whether two charts and plans are the same.
func same(l, m []api.Range, plans, others []api.Plan) bool {
	return slices.Equal(l, m) && slices.Equal(plans, others)
}

// starts tells whether Start tells those plans; beside an error none.
func starts(t *testing.T, p pair, id uint64, key string, group int, want []api.Plan, code api.Errno) {
	t.Helper()
	got, e := Start(p.l, p.plans, id, key, group)
	if e != code || !slices.Equal(got, want) {
		t.Errorf("Start(%s, %d, %.70q, %d): %+v, error %d, not %+v, error %d", p.text(), id, key, group, got, e, want, code)
	}
}

// steps tells whether Step tells that chart and those plans; beside an error nothing.
func steps(t *testing.T, p pair, id uint64, step int, l []api.Range, plans []api.Plan, code api.Errno) {
	t.Helper()
	gotL, gotPlans, e := Step(p.l, p.plans, id, step)
	if e != code || !same(gotL, l, gotPlans, plans) {
		t.Errorf("Step(%s, %d, %d): %s, error %d, not %s, error %d", p.text(), id, step, pair{gotL, gotPlans}.text(), e, pair{l, plans}.text(), code)
	}
}

// splits tells whether Split tells that chart; beside an error none.
func splits(t *testing.T, p pair, key string, want []api.Range, code api.Errno) {
	t.Helper()
	got, e := Split(p.l, p.plans, key)
	if e != code || !slices.Equal(got, want) {
		t.Errorf("Split(%s, %.70q): %+v, error %d, not %+v, error %d", p.text(), key, got, e, want, code)
	}
}

// merges tells whether Merge tells that chart; beside an error none.
func merges(t *testing.T, p pair, key string, want []api.Range, code api.Errno) {
	t.Helper()
	got, e := Merge(p.l, p.plans, key)
	if e != code || !slices.Equal(got, want) {
		t.Errorf("Merge(%s, %.70q): %+v, error %d, not %+v, error %d", p.text(), key, got, e, want, code)
	}
}

// The chapter's example: Start of m to 2, five Steps: the range is 2's from PlanSwitch on.
func TestExample(t *testing.T) {
	l, plans := list(of("", "m", 1, 1), of("m", "", 1, 1)), list[api.Plan]()
	plans, e := Start(l, plans, 7, "m", 2)
	if e != api.OK || !slices.Equal(plans, list(moving(7, "m", "", 1, 2, api.PlanFreeze))) {
		t.Fatalf("Start: %+v, error %d", plans, e)
	}
	for _, step := range list(api.PlanExport, api.PlanImport) {
		l, plans, e = Step(l, plans, 7, step)
		if e != api.OK || !same(l, list(of("", "m", 1, 1), of("m", "", 1, 1)), plans, list(moving(7, "m", "", 1, 2, step))) {
			t.Fatalf("step %d: %+v, %+v, error %d", step, l, plans, e)
		}
	}
	for _, step := range list(api.PlanSwitch, api.PlanDrop) {
		l, plans, e = Step(l, plans, 7, step)
		if e != api.OK || !same(l, list(of("", "m", 1, 1), of("m", "", 2, 2)), plans, list(moving(7, "m", "", 1, 2, step))) {
			t.Fatalf("step %d: %+v, %+v, error %d", step, l, plans, e)
		}
	}
	l, plans, e = Step(l, plans, 7, api.PlanDone)
	if e != api.OK || !same(l, list(of("", "m", 1, 1), of("m", "", 2, 2)), plans, nil) {
		t.Fatalf("PlanDone: %+v, %+v, error %d", l, plans, e)
	}
}

// Pl1: what may be, and what may not.
func TestCheck(t *testing.T) {
	for _, p := range right() {
		if e := Check(p.l, p.plans); e != api.OK {
			t.Errorf("Check(%s): error %d, not 0", p.text(), e)
		}
	}
	for _, p := range wrong() {
		if e := Check(p.l, p.plans); e != api.ErrArg {
			t.Errorf("Check(%s): error %d, not 1", p.text(), e)
		}
	}
}

// Pl1: whichever range of a full chart has the plan, it goes with the chart; with what is beside it, it does not.
func TestCheckEachRange(t *testing.T) {
	for at := range 64 {
		for step := 1; step <= 5; step++ {
			l, plans := with(many(64), at, 2, step)
			if e := Check(l, plans); e != api.OK {
				t.Errorf("range %d, step %d: error %d", at, step, e)
			}
			for name, turn := range map[string]func(p *api.Plan){
				"no Id":           func(p *api.Plan) { p.Id = 0 },
				"another From":    func(p *api.Plan) { p.Span.From += "\x00" },
				"another To":      func(p *api.Plan) { p.Span.To += "0" },
				"another's From":  func(p *api.Plan) { p.Span.From = key(10*at - 10) },
				"a longer From":   func(p *api.Plan) { p.Span.From = tooLong },
				"a longer To":     func(p *api.Plan) { p.Span.To = tooLong },
				"the other way":   func(p *api.Plan) { p.From, p.To = p.To, p.From },
				"the same group":  func(p *api.Plan) { p.From = p.To },
				"step 0":          func(p *api.Plan) { p.Step = 0 },
				"over":            func(p *api.Plan) { p.Step = 6 },
				"the other half":  func(p *api.Plan) { p.Step = list(0, 4, 4, 5, 3, 1)[p.Step] },
				"neither's":       func(p *api.Plan) { p.From, p.To = 3, 4 },
				"the span of all": func(p *api.Plan) { p.Span = api.Span{} },
				"an empty span":   func(p *api.Plan) { p.Span.From = p.Span.To },
				"another's range": func(p *api.Plan) { p.Span = api.Span{From: key(10 * at), To: key(10*at + 20)} },
				"group 17":        func(p *api.Plan) { p.From = 17 },
				"to group 17":     func(p *api.Plan) { p.To = 17 },
				"group 0":         func(p *api.Plan) { p.From = 0 },
				"to group 0":      func(p *api.Plan) { p.To = 0 },
				"groups below 0":  func(p *api.Plan) { p.From, p.To = -1, -2 },
			} {
				p := plans[0]
				turn(&p)
				if e := Check(l, list(p)); e != api.ErrArg {
					t.Errorf("range %d, step %d, %s: error %d, not 1: %+v", at, step, name, e, p)
				}
			}
			if e := Check(l, append(plans, plans...)); e != api.ErrArg {
				t.Errorf("range %d, step %d, two plans: error %d, not 1", at, step, e)
			}
		}
	}
}

// Pl1: what is wrong is refused by all, ahead of all else, and nothing is told beside it.
func TestWrong(t *testing.T) {
	for _, p := range wrong() {
		for _, k := range append(badKeys(), "", "b", "c", "m", "q", "t", highest) {
			for _, group := range list(1, 2, 3, 0, 17) {
				starts(t, p, 7, k, group, nil, api.ErrArg)
				starts(t, p, 0, k, group, nil, api.ErrArg)
			}
			splits(t, p, k, nil, api.ErrArg)
			merges(t, p, k, nil, api.ErrArg)
		}
		for _, id := range list[uint64](0, 7, 8, 9) {
			for step := -1; step < 9; step++ {
				steps(t, p, id, step, nil, nil, api.ErrArg)
			}
		}
	}
}

// Pl1: a plan of a range that has the key, whole, from its group to another one.
func TestStart(t *testing.T) {
	for _, plans := range list(nil, list[api.Plan]()) {
		p := pair{letters(), plans}
		for at, keys := range [][]string{{"", "\x00", "a\xff"}, {"b", "b\x00", "g\xff"}, {"h", "k", longest, "p"}, {"q", "s"}, {"t", "z", highest}} {
			r := p.l[at]
			for _, k := range keys {
				for group := 1; group <= 16; group++ {
					if group == r.Group {
						starts(t, p, 7, k, group, nil, api.ErrSame)
						continue
					}
					starts(t, p, 7, k, group, list(moving(7, r.Span.From, r.Span.To, r.Group, group, api.PlanFreeze)), api.OK)
				}
			}
		}
		for _, id := range list[uint64](1, 2, 1<<63, math.MaxUint64) {
			starts(t, p, id, "c", 2, list(moving(id, "b", "h", 1, 2, 1)), api.OK)
		}
	}
	for _, l := range charts() {
		for at, r := range l {
			want := list(moving(7, r.Span.From, r.Span.To, r.Group, 5, 1))
			starts(t, pair{l, nil}, 7, r.Span.From, 5, want, api.OK)
			starts(t, pair{l, nil}, 7, r.Span.From, r.Group, nil, api.ErrSame)
			if at == len(l)-1 {
				starts(t, pair{l, nil}, 7, highest, 5, want, api.OK)
			}
		}
	}
}

// Pl1: what may not be is refused ahead of a plan that there is, and that ahead of a range that is the group's already.
func TestStartRefused(t *testing.T) {
	for _, p := range right() {
		for _, k := range badKeys() {
			for _, group := range list(1, 2, 16, 0) {
				starts(t, p, 7, k, group, nil, api.ErrArg)
			}
		}
		for _, group := range badGroups() {
			starts(t, p, 7, "c", group, nil, api.ErrArg)
		}
		for _, group := range list(1, 2, 16) {
			starts(t, p, 0, "c", group, nil, api.ErrArg)
		}
		if len(p.plans) == 0 {
			continue
		}
		for _, id := range list[uint64](1, 7, 8, math.MaxUint64) {
			for _, k := range list("", "c", "m", "s", "z", highest, p.plans[0].Span.From) {
				for group := 1; group <= 16; group += 3 {
					starts(t, p, id, k, group, nil, api.ErrWait)
				}
			}
		}
	}
}

// Pl2: a plan comes to the step behind its own, and to no other one.
func TestStep(t *testing.T) {
	for at, r := range letters() {
		for now := 1; now <= 5; now++ {
			l, plans := with(letters(), at, 2, now)
			p := pair{l, plans}
			for _, step := range append(badSteps(), 1, 2, 3, 4, 5, 9) {
				switch {
				case step <= now:
					steps(t, p, 7, step, nil, nil, api.ErrOld)
				case step > now+1:
					steps(t, p, 7, step, nil, nil, api.ErrArg)
				case step == 4:
					moved := slices.Clone(l)
					moved[at].Group, moved[at].Epoch = 2, 10
					steps(t, p, 7, step, moved, list(moving(7, r.Span.From, r.Span.To, r.Group, 2, 4)), api.OK)
				case step == 6:
					steps(t, p, 7, step, l, nil, api.OK)
				default:
					steps(t, p, 7, step, l, list(moving(7, r.Span.From, r.Span.To, r.Group, 2, step)), api.OK)
				}
			}
		}
	}
}

// Pl2: of another Id there is no plan, whatever the step; without plans there is none of any.
func TestStepOfNone(t *testing.T) {
	for _, p := range right() {
		for _, id := range list[uint64](0, 2, 6, 9, 7+1<<32, math.MaxUint64-1) {
			for _, step := range append(badSteps(), 1, 2, 3, 4, 5) {
				steps(t, p, id, step, nil, nil, api.ErrNone)
				if len(p.plans) == 0 {
					steps(t, p, 7, step, nil, nil, api.ErrNone)
				}
			}
		}
	}
	for _, id := range list[uint64](1, 7+1<<32, 1<<63, math.MaxUint64) {
		p := pair{letters(), list(moving(id, "b", "h", 1, 2, 1))}
		steps(t, p, id, 2, letters(), list(moving(id, "b", "h", 1, 2, 2)), api.OK)
		steps(t, p, id-1, 2, nil, nil, api.ErrNone)
		steps(t, p, 7, 2, nil, nil, api.ErrNone)
	}
}

// Pl2: at PlanSwitch the chart's range is To's, of a new epoch, whichever it is; its neighbours stay, also if they are
// To's. What layer 11 refuses, since there are no more epochs, is refused; the other steps need none.
func TestSwitch(t *testing.T) {
	for at := range 64 {
		l, plans := with(many(64), at, 16, 3)
		want := slices.Clone(l)
		want[at].Group, want[at].Epoch = 16, 65
		steps(t, pair{l, plans}, 7, 4, want, list(moving(7, l[at].Span.From, l[at].Span.To, 1, 16, 4)), api.OK)
	}
	l := list(of("", "b", 2, 4), of("b", "h", 1, 9), of("h", "", 2, 5))
	steps(t, pair{l, list(moving(7, "b", "h", 1, 2, 3))}, 7, 4, list(l[0], of("b", "h", 2, 10), l[2]), list(moving(7, "b", "h", 1, 2, 4)), api.OK)
	for at := range 3 {
		l, plans := with(list(of("", "b", 1, 1), of("b", "h", 1, 1), of("h", "", 1, 1)), 1, 2, 3)
		l[at].Epoch = top - 1
		want := slices.Clone(l)
		want[1].Group, want[1].Epoch = 2, top
		steps(t, pair{l, plans}, 7, 4, want, list(moving(7, "b", "h", 1, 2, 4)), api.OK)
		l[at].Epoch = top
		steps(t, pair{l, plans}, 7, 4, nil, nil, api.ErrFull)
		steps(t, pair{l, plans}, 8, 4, nil, nil, api.ErrNone)
		steps(t, pair{l, plans}, 7, 3, nil, nil, api.ErrOld)
		steps(t, pair{l, plans}, 7, 5, nil, nil, api.ErrArg)
		plans[0].Step = 1
		steps(t, pair{l, plans}, 7, 2, l, list(moving(7, "b", "h", 1, 2, 2)), api.OK)
		plans[0].Step = 4
		l[1].Group = 2
		steps(t, pair{l, plans}, 7, 5, l, list(moving(7, "b", "h", 1, 2, 5)), api.OK)
	}
}

// Pl2: without plans Split and Merge tell what layer 11's do.
func TestWithoutPlans(t *testing.T) {
	l := letters()
	for _, plans := range list(nil, list[api.Plan]()) {
		p := pair{l, plans}
		splits(t, p, "a", list(of("", "a", 1, 10), of("a", "b", 1, 10), l[1], l[2], l[3], l[4]), api.OK)
		splits(t, p, "k", list(l[0], l[1], of("h", "k", 16, 10), of("k", "q", 16, 10), l[3], l[4]), api.OK)
		splits(t, p, highest, list(l[0], l[1], l[2], l[3], of("t", highest, 3, 10), of(highest, "", 3, 10)), api.OK)
		merges(t, p, "b", list(of("", "h", 1, 10), l[2], l[3], l[4]), api.OK)
		merges(t, p, "t", list(l[0], l[1], l[2], of("q", "", 3, 10)), api.OK)
		merges(t, p, "h", nil, api.ErrRange)
		merges(t, p, "q", nil, api.ErrRange)
		for _, r := range l {
			splits(t, p, r.Span.From, nil, api.ErrSame)
		}
		for _, k := range list("", "a", "c", "h\x00", highest) {
			merges(t, p, k, nil, api.ErrNone)
		}
		for _, k := range badKeys() {
			splits(t, p, k, nil, api.ErrArg)
			merges(t, p, k, nil, api.ErrArg)
		}
	}
}

// Pl2: the range that has a plan is not split, at whatever step; the others are, also by keys at its ends.
func TestSplitPlanned(t *testing.T) {
	keys := list("a", "c", "k", "s", "z")
	for at := range letters() {
		for now := 1; now <= 5; now++ {
			l, plans := with(letters(), at, 2, now)
			p := pair{l, plans}
			for i, k := range keys {
				if i == at {
					splits(t, p, k, nil, api.ErrWait)
					continue
				}
				r := l[i]
				parts := list(of(r.Span.From, k, r.Group, 10), of(k, r.Span.To, r.Group, 10))
				splits(t, p, k, slices.Concat(l[:i], parts, l[i+1:]), api.OK)
			}
			for _, r := range l {
				splits(t, p, r.Span.From, nil, api.ErrSame)
			}
			for _, k := range badKeys() {
				splits(t, p, k, nil, api.ErrArg)
			}
			splits(t, p, "g\xff", inTwo(at == 1, l, 1, "g\xff"), waits(at == 1))
			splits(t, p, "h\x00", inTwo(at == 2, l, 2, "h\x00"), waits(at == 2))
		}
	}
}

// inTwo is a chart of letters whose range is split, if it has no plan.
func inTwo(planned bool, l []api.Range, at int, k string) []api.Range {
	if planned {
		return nil
	}
	r := l[at]
	return slices.Concat(l[:at], list(of(r.Span.From, k, r.Group, 10), of(k, r.Span.To, r.Group, 10)), l[at+1:])
}

// waits is what a turn of a range is refused with, if it has a plan.
func waits(planned bool) api.Errno {
	if planned {
		return api.ErrWait
	}
	return api.OK
}

// Pl2: neither of two ranges that would be one may have a plan; the other ones may.
func TestMergePlanned(t *testing.T) {
	for _, n := range list(4, 64) {
		for at := range n {
			for now := 1; now <= 3; now++ {
				l, plans := with(many(n), at, 2, now)
				p := pair{l, plans}
				for i := 1; i < n; i++ {
					if i == at || i-1 == at {
						merges(t, p, l[i].Span.From, nil, api.ErrWait)
						continue
					}
					both := of(l[i-1].Span.From, l[i].Span.To, 1, uint64(n+1))
					merges(t, p, l[i].Span.From, slices.Concat(l[:i-1], list(both), l[i+1:]), api.OK)
				}
				merges(t, p, "", nil, api.ErrNone)
				merges(t, p, "k", nil, api.ErrNone)
			}
		}
	}
	// Behind PlanSwitch the range is To's: its neighbours that are To's, too, wait; the others are another group's.
	for now := 4; now <= 5; now++ {
		p := pair{list(of("", "b", 2, 4), of("b", "h", 2, 9), of("h", "q", 2, 5), of("q", "", 2, 5)), list(moving(7, "b", "h", 1, 2, now))}
		merges(t, p, "b", nil, api.ErrWait)
		merges(t, p, "h", nil, api.ErrWait)
		merges(t, p, "q", list(p.l[0], p.l[1], of("h", "", 2, 10)), api.OK)
		p.l[0].Group, p.l[2].Group, p.l[3].Group = 1, 1, 1
		merges(t, p, "b", nil, api.ErrRange)
		merges(t, p, "h", nil, api.ErrRange)
		merges(t, p, "q", list(p.l[0], p.l[1], of("h", "", 1, 10)), api.OK)
	}
}

// Pl2: what layer 11 refuses is told ahead of a plan's ErrWait.
func TestRefusedAhead(t *testing.T) {
	for now := 1; now <= 3; now++ {
		l, plans := with(many(64), 30, 2, now)
		p := pair{l, plans}
		splits(t, p, key(305), nil, api.ErrFull)
		splits(t, p, key(5), nil, api.ErrFull)
		splits(t, p, key(300), nil, api.ErrSame)
		merges(t, p, key(305), nil, api.ErrNone)
		merges(t, p, key(300), nil, api.ErrWait)
		l, plans = with(many(63), 30, 2, now)
		splits(t, pair{l, plans}, key(305), nil, api.ErrWait)
		l, plans = with(list(of("", "b", 1, top), of("b", "h", 1, 1), of("h", "q", 3, 1), of("q", "", 3, 1)), 1, 2, now)
		p = pair{l, plans}
		splits(t, p, "c", nil, api.ErrFull)
		splits(t, p, "b", nil, api.ErrSame)
		splits(t, p, "z", nil, api.ErrFull)
		merges(t, p, "b", nil, api.ErrFull)
		merges(t, p, "q", nil, api.ErrFull)
		merges(t, p, "h", nil, api.ErrRange)
		merges(t, p, "c", nil, api.ErrNone)
		for _, k := range badKeys() {
			splits(t, p, k, nil, api.ErrArg)
			merges(t, p, k, nil, api.ErrArg)
		}
		l, plans = with(letters(), 0, 2, now)
		splits(t, pair{l, plans}, "", nil, api.ErrSame)
		merges(t, pair{l, plans}, "", nil, api.ErrNone)
	}
}

// roomy is a copy of a list, with spare room behind it that is not empty.
func roomy[T any](l []T, behind T) []T {
	return append(slices.Clip(slices.Clone(l)), slices.Repeat([]T{behind}, 8)...)[:len(l)]
}

// whole is a list's copy, and of the room behind it.
func whole[T any](l []T) []T {
	return slices.Clone(l[:cap(l)])
}

// spoil changes a list, and the room behind it.
func spoil[T any](l []T, by T) {
	for i := range l[:cap(l)] {
		l[:cap(l)][i] = by
	}
}

// R3: what is handed in is not changed, and an answer shares no memory, neither with it nor with another one.
func TestMemory(t *testing.T) {
	type answer struct {
		l     []api.Range
		plans []api.Plan
	}
	for name, call := range map[string]func(l []api.Range, plans []api.Plan) answer{
		"Start": func(l []api.Range, plans []api.Plan) answer {
			told, _ := Start(l, nil, 7, "c", 2)
			return answer{nil, told}
		},
		"Step": func(l []api.Range, plans []api.Plan) answer {
			turned, told, _ := Step(l, plans, 7, 2)
			return answer{turned, told}
		},
		"Step to PlanSwitch": func(l []api.Range, plans []api.Plan) answer {
			plans = slices.Clone(plans)
			plans[0].Step = 3
			turned, told, _ := Step(l, plans, 7, 4)
			return answer{turned, told}
		},
		"Step to PlanDone": func(l []api.Range, plans []api.Plan) answer {
			plans = slices.Clone(plans)
			plans[0].From, plans[0].To, plans[0].Step = 2, 1, 5
			turned, told, _ := Step(l, plans, 7, 6)
			return answer{turned, told}
		},
		"Split": func(l []api.Range, plans []api.Plan) answer {
			turned, _ := Split(l, plans, "k")
			return answer{turned, nil}
		},
		"Merge": func(l []api.Range, plans []api.Plan) answer {
			turned, _ := Merge(l, plans, "t")
			return answer{turned, nil}
		},
	} {
		l := roomy(letters(), of("?", "", 99, 99))
		plans := roomy(list(moving(7, "b", "h", 1, 2, 1)), moving(9, "?", "", 8, 9, 3))
		wasL, wasPlans := whole(l), whole(plans)
		first, second := call(l, plans), call(l, plans)
		if len(first.l)+len(first.plans) == 0 || !reflect.DeepEqual(first, second) {
			t.Fatalf("%s: %v, then %v", name, first, second)
		}
		if !same(whole(l), wasL, whole(plans), wasPlans) {
			t.Errorf("%s changed what is handed in", name)
		}
		want := answer{slices.Clone(first.l), slices.Clone(first.plans)}
		spoil(l, of("!", "", -1, 0))
		spoil(plans, moving(0, "!", "", -1, -1, -1))
		spoiltL, spoiltPlans := whole(l), whole(plans)
		if !same(first.l, want.l, first.plans, want.plans) || !same(second.l, want.l, second.plans, want.plans) {
			t.Errorf("%s: an answer shares the argument's memory", name)
		}
		spoil(first.l, of("-", "", -2, 0))
		spoil(first.plans, moving(0, "-", "", -2, -2, -2))
		if !same(second.l, want.l, second.plans, want.plans) || !same(whole(l), spoiltL, whole(plans), spoiltPlans) {
			t.Errorf("%s: an answer shares its memory", name)
		}
	}
}

// R3: what is refused changes nothing that is handed in.
func TestRefusedMemory(t *testing.T) {
	for _, p := range append(right(), wrong()...) {
		l, plans := roomy(p.l, of("?", "", 99, 99)), roomy(p.plans, moving(9, "?", "", 8, 9, 3))
		wasL, wasPlans := whole(l), whole(plans)
		Check(l, plans)
		for _, k := range list("", "c", "k", key(105), key(110), tooLong) {
			Start(l, plans, 7, k, 2)
			Split(l, plans, k)
			Merge(l, plans, k)
		}
		for step := range 8 {
			Step(l, plans, 7, step)
			Step(l, plans, 8, step)
		}
		if !same(whole(l), wasL, whole(plans), wasPlans) {
			t.Errorf("%s was changed", p.text())
		}
	}
}

// R3: nil and the empty list are the same.
func TestNilAndEmpty(t *testing.T) {
	for _, l := range append(charts(), noCharts()...) {
		none, empty := pair{l, nil}, pair{l, list[api.Plan]()}
		if Check(none.l, none.plans) != Check(empty.l, empty.plans) {
			t.Errorf("Check(%s)", none.text())
		}
		for _, k := range list("", "b", "c", "m", tooLong) {
			plans, e := Start(none.l, none.plans, 7, k, 2)
			starts(t, empty, 7, k, 2, plans, e)
			turned, e := Split(none.l, none.plans, k)
			splits(t, empty, k, turned, e)
			turned, e = Merge(none.l, none.plans, k)
			merges(t, empty, k, turned, e)
		}
		turned, plans, e := Step(none.l, none.plans, 7, 2)
		steps(t, empty, 7, 2, turned, plans, e)
	}
}
