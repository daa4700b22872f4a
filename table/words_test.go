package table

import (
	"fmt"
	"math/rand"
	"slices"
	"sort"
	"strings"
	"testing"

	"gudgeon/api"
)

// spot is what there is of a key; a token of 0: none of that.
type spot struct {
	hold   api.Hold
	mark   uint64
	intent api.Intent
}

// shard is a table by the words, key by key. Spans begin and end at ends alone: of each of these, whether the keys from
// it on, up to the next one, are here, and frozen.
type shard struct {
	now          int
	ends         []string
	here, frozen []bool
	spots        map[string]spot
}

// cell is which end's keys a key is of.
func (s *shard) cell(key string) int {
	n := 0
	for i, e := range s.ends {
		if strings.Compare(e, key) <= 0 {
			n = i
		}
	}
	return n
}

// cells is which ends' keys a span has; false: it may not be.
func (s *shard) cells(x api.Span) ([]bool, bool) {
	if len(x.From) > 64 || len(x.To) > 64 || x.To != "" && strings.Compare(x.From, x.To) >= 0 {
		return nil, false
	}
	had := make([]bool, len(s.ends))
	for i, e := range s.ends {
		had[i] = strings.Compare(x.From, e) <= 0 && (x.To == "" || strings.Compare(e, x.To) < 0)
	}
	return had, true
}

// runs is cells as a list in form.
func (s *shard) runs(had []bool) []api.Span {
	var l []api.Span
	for i := range had {
		if had[i] && (i == 0 || !had[i-1]) {
			l = append(l, to(s.ends[i], ""))
		}
		if !had[i] && i > 0 && had[i-1] {
			l[len(l)-1].To = s.ends[i]
		}
	}
	return l
}

// keys is the keys of which there is something, rising.
func (s *shard) keys() []string {
	var l []string
	for key := range s.spots {
		l = append(l, key)
	}
	sort.Strings(l)
	return l
}

// table is the table that a shard is.
func (s *shard) table() api.Table {
	t := api.Table{Now: s.now, Spans: s.runs(s.here), Frozen: s.runs(s.frozen)}
	for _, key := range s.keys() {
		x := s.spots[key]
		if x.hold.Token != 0 {
			t.Holds = append(t.Holds, x.hold)
		}
		if x.mark != 0 {
			t.Marks = append(t.Marks, mark(key, x.mark))
		}
		if x.intent.Token != 0 {
			t.Intents = append(t.Intents, x.intent)
		}
	}
	return t
}

// count is how many holds, marks and intents there are.
func (s *shard) count() int {
	n := 0
	for _, x := range s.spots {
		for _, token := range []uint64{x.hold.Token, x.mark, x.intent.Token} {
			if token != 0 {
				n++
			}
		}
	}
	return n
}

// clone is a shard of its own.
func (s *shard) clone() *shard {
	c := &shard{now: s.now, ends: s.ends, here: slices.Clone(s.here), frozen: slices.Clone(s.frozen), spots: make(map[string]spot)}
	for key, x := range s.spots {
		c.spots[key] = x
	}
	return c
}

// clock is Clock by the words.
func (s *shard) clock(n int) ([]api.Hold, api.Errno) {
	if n <= 0 || n >= 1048577 {
		return nil, api.ErrArg
	}
	s.now = int(min(int64(s.now)+int64(n), 2147483647))
	var due []api.Hold
	for _, key := range s.keys() {
		x := s.spots[key]
		if x.hold.Token == 0 || x.hold.Until > s.now || x.intent.Token != 0 {
			continue
		}
		due = append(due, x.hold)
		s.spots[key] = spot{mark: x.hold.Token}
	}
	return due, api.OK
}

// may tells whether a call may be prepared, by the words.
func may(c api.Call) bool {
	for i, key := range c.Keys {
		for _, ahead := range c.Keys[:i] {
			if strings.Compare(ahead, key) >= 0 {
				return false
			}
		}
		if len(key) > 64 {
			return false
		}
	}
	if len(c.Keys) == 0 || len(c.Keys) > 16 {
		return false
	}
	leased := c.Ttl > 0 && c.Ttl < 1048577
	switch c.Kind {
	case 1:
		return c.Token == 0 && leased
	case 2:
		return c.Token != 0 && c.Ttl == 0
	case 3:
		return c.Token != 0 && leased
	}
	return false
}

// refused is what a key is refused with, by the words.
func (s *shard) refused(key string, c api.Call, token uint64) api.Errno {
	x := s.spots[key]
	if !s.here[s.cell(key)] {
		return api.ErrRange
	}
	if s.frozen[s.cell(key)] || x.intent.Token != 0 {
		return api.ErrWait
	}
	if c.Kind == 1 {
		if x.hold.Token != 0 {
			return api.ErrBusy
		}
		if x.mark != 0 && x.mark >= token {
			return api.ErrWait
		}
		return api.OK
	}
	if x.hold.Token == 0 || x.hold.Token != c.Token {
		return api.ErrNone
	}
	return api.OK
}

// prepare is Prepare by the words.
func (s *shard) prepare(by api.Id, c api.Call, token uint64) api.Errno {
	if !may(c) || by.Client < 0 || by.Client > 7 || by.Seq == 0 || token == 0 {
		return api.ErrArg
	}
	var mine []string
	for _, key := range s.keys() {
		if x := s.spots[key].intent; x.Token != 0 && x.Txn == by {
			mine = append(mine, key)
		}
	}
	if len(mine) > 0 {
		if fmt.Sprintf("%q", mine) == fmt.Sprintf("%q", c.Keys) {
			return api.OK
		}
		return api.ErrWait
	}
	for _, key := range c.Keys {
		if e := s.refused(key, c, token); e != api.OK {
			return e
		}
	}
	if s.count()+len(c.Keys) > 1024 {
		return api.ErrFull
	}
	for _, key := range c.Keys {
		x := s.spots[key]
		x.intent = api.Intent{Key: key, Txn: by, Kind: c.Kind, Token: c.Token, Ttl: c.Ttl}
		if c.Kind == 1 {
			x.intent.Token = token
		}
		s.spots[key] = x
	}
	return api.OK
}

// finish is Finish by the words.
func (s *shard) finish(by api.Id, commit bool) (int, api.Errno) {
	n := 0
	for _, key := range s.keys() {
		x := s.spots[key]
		a := x.intent
		if a.Token == 0 || a.Txn != by {
			continue
		}
		n++
		x.intent = api.Intent{}
		until := int(min(int64(s.now)+int64(a.Ttl), 2147483647))
		switch {
		case !commit:
		case a.Kind == 1:
			x = spot{hold: hold(key, a.Token, until)}
		case a.Kind == 2:
			x = spot{mark: max(a.Token, x.mark)}
		case x.hold.Token != 0 && until > x.hold.Until:
			x.hold.Until = until
		}
		s.spots[key] = x
	}
	if n == 0 {
		return 0, api.ErrNone
	}
	return n, api.OK
}

// inspect is Inspect by the words.
func (s *shard) inspect(key string) (uint64, api.Errno) {
	if len(key) > 64 {
		return 0, api.ErrArg
	}
	if !s.here[s.cell(key)] {
		return 0, api.ErrRange
	}
	if s.spots[key].intent.Token != 0 {
		return 0, api.ErrWait
	}
	return s.spots[key].hold.Token, api.OK
}

// lacks is which of a span's cells others do not have.
func lacks(had, of []bool) bool {
	for i := range had {
		if had[i] && !of[i] {
			return true
		}
	}
	return false
}

// with is cells, and others, too, or not any more.
func with(l, had []bool, in bool) []bool {
	l = slices.Clone(l)
	for i := range l {
		if had[i] {
			l[i] = in
		}
	}
	return l
}

// freeze is Freeze by the words.
func (s *shard) freeze(x api.Span) api.Errno {
	had, ok := s.cells(x)
	if !ok {
		return api.ErrArg
	}
	if lacks(had, s.here) {
		return api.ErrRange
	}
	frozen := with(s.frozen, had, true)
	if len(s.runs(frozen)) > 64 {
		return api.ErrFull
	}
	s.frozen = frozen
	return api.OK
}

// export is Export by the words.
func (s *shard) export(plan uint64, x api.Span) (api.Parcel, api.Errno) {
	had, ok := s.cells(x)
	if !ok {
		return api.Parcel{}, api.ErrArg
	}
	if lacks(had, s.here) {
		return api.Parcel{}, api.ErrRange
	}
	p := api.Parcel{Plan: plan, Span: x}
	var gone []string
	for _, key := range s.keys() {
		if !had[s.cell(key)] {
			continue
		}
		one := s.spots[key]
		if one.intent.Token != 0 {
			return api.Parcel{}, api.ErrWait
		}
		gone = append(gone, key)
		if one.hold.Token != 0 {
			p.Holds = append(p.Holds, hold(key, one.hold.Token, max(0, one.hold.Until-s.now)))
		}
		if one.mark != 0 {
			p.Marks = append(p.Marks, mark(key, one.mark))
		}
	}
	if lacks(had, s.frozen) {
		return api.Parcel{}, api.ErrWait
	}
	here, frozen := with(s.here, had, false), with(s.frozen, had, false)
	if len(s.runs(here)) > 64 || len(s.runs(frozen)) > 64 {
		return api.Parcel{}, api.ErrFull
	}
	s.here, s.frozen = here, frozen
	for _, key := range gone {
		delete(s.spots, key)
	}
	return p, api.OK
}

// imported is Import by the words.
func (s *shard) imported(p api.Parcel) api.Errno {
	had, ok := s.cells(p.Span)
	if !ok || len(p.Holds) > 1024 || len(p.Marks) > 1024 {
		return api.ErrArg
	}
	all := make(map[string]spot)
	for i, h := range p.Holds {
		if i > 0 && strings.Compare(p.Holds[i-1].Key, h.Key) >= 0 || h.Token == 0 || h.Until < 0 || h.Until > 2147483647 || len(h.Key) > 64 || !had[s.cell(h.Key)] {
			return api.ErrArg
		}
		h.Until = int(min(int64(s.now)+int64(h.Until), 2147483647))
		all[h.Key] = spot{hold: h}
	}
	for i, m := range p.Marks {
		_, twice := all[m.Key]
		if i > 0 && strings.Compare(p.Marks[i-1].Key, m.Key) >= 0 || m.Token == 0 || len(m.Key) > 64 || !had[s.cell(m.Key)] || twice {
			return api.ErrArg
		}
	}
	for _, m := range p.Marks {
		all[m.Key] = spot{mark: m.Token}
	}
	for i := range had {
		if had[i] && s.here[i] {
			return api.ErrSame
		}
	}
	here := with(s.here, had, true)
	if len(s.runs(here)) > 64 || s.count()+len(all) > 1024 {
		return api.ErrFull
	}
	s.here = here
	for key, x := range all {
		s.spots[key] = x
	}
	return api.OK
}

// luck is calls by chance, of few keys.
type luck struct {
	*rand.Rand
	ends, keys []string
}

// one is one of some.
func one[T any](r *rand.Rand, l ...T) T {
	return l[r.Intn(len(l))]
}

// span is a span by chance; now and then one that may not be.
func (r luck) span() api.Span {
	switch r.Intn(25) {
	case 0:
		return one(r.Rand, wrongSpans...)
	case 1:
		return to(one(r.Rand, r.ends...), one(r.Rand, r.ends...))
	case 2:
		return to(one(r.Rand, r.ends...), "")
	}
	at := r.Intn(len(r.ends))
	behind := at + 1 + r.Intn(1+20/len(r.ends))
	if behind >= len(r.ends) {
		return to(r.ends[at], "")
	}
	return to(r.ends[at], r.ends[behind])
}

// id is a transaction's by chance.
func (r luck) id() api.Id {
	if r.Intn(30) == 0 {
		return id(one(r.Rand, -1, 0, 7, 8), uint64(r.Intn(2)))
	}
	return id(r.Intn(3), uint64(1+r.Intn(2)))
}

// call is a call by chance.
func (r luck) call() api.Call {
	if r.Intn(30) == 0 {
		return one(r.Rand, wrongCalls()...)
	}
	keys := make([]string, 1+r.Intn(3))
	for i := range keys {
		keys[i] = one(r.Rand, r.keys...)
	}
	if r.Intn(20) != 0 {
		sort.Strings(keys)
		keys = slices.Compact(keys)
	}
	ttl := one(r.Rand, 1, 2, 5, 20, long)
	switch r.Intn(4) {
	case 0:
		return release(r.token(), keys...)
	case 1:
		return renew(r.token(), ttl, keys...)
	}
	return acquire(ttl, keys...)
}

// token is a token by chance.
func (r luck) token() uint64 {
	return uint64(1 + r.Intn(6))
}

// now is a time by chance.
func (r luck) now() int {
	return one(r.Rand, 0, 1, 7, 50, end-3, end)
}

// until is till when a hold lasts, by chance.
func (r luck) until(now int) int {
	return min(max(now+r.Intn(9)-4, 0), end)
}

// shard is a shard by chance, of what may be; also of what no calls would have come to.
func (r luck) shard() *shard {
	s := &shard{now: r.now(), ends: r.ends, here: make([]bool, len(r.ends)), frozen: make([]bool, len(r.ends)), spots: make(map[string]spot)}
	odds := 1 + r.Intn(8)
	for i := range s.ends {
		s.here[i] = r.Intn(odds) > 0
		s.frozen[i] = s.here[i] && r.Intn(4) == 0
	}
	if len(s.ends) > 200 {
		r.spread(s)
	}
	for _, key := range r.keys {
		if !s.here[s.cell(key)] || s.count() > 1022 {
			continue
		}
		var x spot
		switch r.Intn(3) {
		case 0:
			x.hold = hold(key, r.token(), r.until(s.now))
		case 1:
			x.mark = r.token()
		}
		by, ttl := id(r.Intn(3), uint64(1+r.Intn(2))), one(r.Rand, 1, 3, 9, long)
		switch r.Intn(9) {
		case 0:
			x.intent = acquiring(key, by, r.token(), ttl)
		case 1:
			x.intent = releasing(key, by, r.token())
		case 2:
			x.intent = renewing(key, by, r.token(), ttl)
		}
		s.spots[key] = x
	}
	return s
}

// spread lets a shard have about as many spans as there is room for, or so many that are frozen.
func (r luck) spread(s *shard) {
	here, frozen, most := 1+r.Intn(4), 1+r.Intn(3), one(r.Rand, 252, 256, 256)
	for i := range s.ends {
		s.here[i] = i < most && i%4 < here
		s.frozen[i] = s.here[i] && i%4 < frozen
	}
}

// parcel is a parcel by chance; now and then one that may not be.
func (r luck) parcel() api.Parcel {
	p := api.Parcel{Plan: r.Uint64(), Span: r.span()}
	for _, key := range r.keys {
		inside := p.Span.From <= key && (p.Span.To == "" || key < p.Span.To)
		if !inside && r.Intn(20*len(r.keys)) > 0 {
			continue
		}
		kind := r.Intn(3)
		if kind == 0 || r.Intn(80) == 0 {
			p.Holds = append(p.Holds, hold(key, uint64(r.Intn(80)), one(r.Rand, 0, 1, 5, end-1, end)))
		}
		if kind == 1 || r.Intn(80) == 0 {
			p.Marks = append(p.Marks, mark(key, uint64(r.Intn(80))))
		}
	}
	return p
}

// lucks is chances, of few keys, of more spans than there is room for, and of more keys.
func lucks(seed int64) luck {
	r := luck{Rand: rand.New(rand.NewSource(seed))}
	r.ends = []string{"", "\x00", "b", "b\x00", "d", "f", longest, "\xff"}
	r.keys = []string{"", "\x00", "a", "b", "b\x00", "c", "d", "e", "f", longest, "z", "\xff", "\xff\xff"}
	switch seed % 10 {
	case 6, 7, 8:
		r.ends, r.keys = []string{""}, nil
		for i := range 259 {
			r.ends = append(r.ends, keyed(i))
		}
		for i := range 20 {
			r.keys = append(r.keys, keyed(13*i), keyed(13*i)+"x")
		}
	case 9:
		r.keys = nil
		for i := range 1025 {
			r.keys = append(r.keys, "c"+keyed(i))
		}
	}
	return r
}

// counts is how often what was told with which code.
type counts map[string]int

// checks holds what a call told against what the words tell, and tells the table that is to be gone on with.
func (c counts) checks(t *testing.T, what string, before api.Table, s *shard, got api.Table, e, code api.Errno, also, wanted string) api.Table {
	t.Helper()
	name, _, _ := strings.Cut(what, " ")
	c[fmt.Sprint(name, " ", int(code))]++
	want := none
	if code == api.OK {
		want = s.table()
	}
	if e != code || !alike(got, want) || also != wanted {
		t.Fatalf("%s at %+v:\n%+v, %s, error %d, not\n%+v, %s, error %d", what, before, got, also, e, want, wanted, code)
	}
	is(t, what+": Check", Check(got), api.OK)
	if e != api.OK {
		return before
	}
	return got
}

// step is a call by chance on a table, and on the shard that it must be.
func (c counts) step(t *testing.T, r luck, x api.Table, s *shard) api.Table {
	t.Helper()
	switch r.Intn(8) {
	case 0:
		n := one(r.Rand, 1, 2, 3, 5, long, 0, -1, long+1)
		due, code := s.clock(n)
		got, over, e := Clock(x, n)
		return c.checks(t, fmt.Sprint("Clock ", n), x, s, got, e, code, fmt.Sprint(over), fmt.Sprint(due))
	case 1, 2:
		by, call, token := r.id(), r.call(), uint64(r.Intn(40))%8
		code := s.prepare(by, call, token)
		got, e := Prepare(x, by, call, token)
		return c.checks(t, fmt.Sprint("Prepare ", by, call, token), x, s, got, e, code, "", "")
	case 3, 4:
		by, commit := r.id(), r.Intn(4) > 0
		n, code := s.finish(by, commit)
		got, had, e := Finish(x, by, commit)
		return c.checks(t, fmt.Sprint("Finish ", by, commit), x, s, got, e, code, fmt.Sprint(had), fmt.Sprint(n))
	case 5:
		sp := r.span()
		code := s.freeze(sp)
		got, e := Freeze(x, sp)
		return c.checks(t, fmt.Sprintf("Freeze %q", sp), x, s, got, e, code, "", "")
	case 6:
		sp, plan := r.span(), r.Uint64()
		p, code := s.export(plan, sp)
		got, parcel, e := Export(x, plan, sp)
		return c.checks(t, fmt.Sprintf("Export %q", sp), x, s, got, e, code, fmt.Sprint(parcel), fmt.Sprint(p))
	}
	p := r.parcel()
	code := s.imported(p)
	got, e := Import(x, p)
	return c.checks(t, fmt.Sprint("Import ", p), x, s, got, e, code, "", "")
}

// inspects holds who holds each key against what the words tell.
func (c counts) inspects(t *testing.T, x api.Table, s *shard, keys []string) {
	t.Helper()
	for _, key := range append(slices.Clone(keys[:min(len(keys), 20)]), tooLong) {
		who, code := s.inspect(key)
		c[fmt.Sprint("Inspect ", int(code))]++
		if got, e := Inspect(x, key); got != who || e != code {
			t.Fatalf("Inspect of %q at %+v: %d, error %d, not %d, error %d", key, x, got, e, who, code)
		}
	}
}

// often tells whether all that can be told was.
func (c counts) often(t *testing.T, what string, l map[string][]api.Errno) {
	t.Helper()
	for name, codes := range l {
		for _, code := range codes {
			if c[fmt.Sprint(name, " ", int(code))] < 10 {
				t.Errorf("%s: too few of %s, error %d: %v", what, name, code, c)
			}
		}
	}
}

// all is what each call can tell.
var all = map[string][]api.Errno{
	"Clock":   {api.OK, api.ErrArg},
	"Prepare": {api.OK, api.ErrArg, api.ErrWait, api.ErrRange, api.ErrBusy, api.ErrNone},
	"Finish":  {api.OK, api.ErrNone},
	"Inspect": {api.OK, api.ErrArg, api.ErrRange, api.ErrWait},
	"Freeze":  {api.OK, api.ErrArg, api.ErrRange, api.ErrFull},
	"Export":  {api.OK, api.ErrArg, api.ErrRange, api.ErrWait, api.ErrFull},
	"Import":  {api.OK, api.ErrArg, api.ErrSame, api.ErrFull},
}

// Ta1 to Ta3: one call each at all kinds of tables.
func TestWords(t *testing.T) {
	c := make(counts)
	for seed := range int64(400) {
		r := lucks(seed)
		steps := 60
		if seed%10 == 9 {
			steps = 10
		}
		s := r.shard()
		x := s.table()
		is(t, "Check", Check(x), api.OK)
		c.inspects(t, x, s, r.keys)
		for range steps {
			c.step(t, r, x, s.clone())
		}
	}
	c.often(t, "one call", all)
}

// Ta1 to Ta3: ways of many calls.
func TestWays(t *testing.T) {
	c := make(counts)
	for seed := range int64(300) {
		r := lucks(seed)
		steps := 80
		if seed%10 == 9 {
			steps = 8
		}
		s := r.shard()
		x := s.table()
		for range steps {
			x = c.step(t, r, x, s)
			c.inspects(t, x, s, r.keys)
		}
	}
	c.often(t, "ways", all)
}

// fleet is several groups' tables, and parcels between them; and what was seen of their keys.
type fleet struct {
	t       *testing.T
	r       luck
	tables  []api.Table
	out     []api.Parcel
	granted map[string]uint64
	tokens  uint64
}

// start is a fleet whose first table has all keys.
func start(t *testing.T, seed int64) *fleet {
	f := &fleet{t: t, r: lucks(seed * 10), tables: make([]api.Table, 3), granted: make(map[string]uint64)}
	f.tables[0].Spans = everything
	for i := range f.tables {
		f.tables[i].Now = f.r.Intn(1000)
	}
	return f
}

// prepare asks for keys at a group, now and then by a token that is old; they are prepared all or none.
func (f *fleet) prepare(at int) {
	by, call := id(f.r.Intn(8), uint64(1+f.r.Intn(3))), f.r.call()
	for _, h := range f.tables[at].Holds {
		if call.Kind != api.CallAcquire && f.r.Intn(2) == 0 {
			call.Keys, call.Token = []string{h.Key}, h.Token
		}
	}
	f.tokens++
	token := f.tokens - min(uint64(f.r.Intn(6)), f.tokens-1)
	got, e := Prepare(f.tables[at], by, call, token)
	if e != api.OK {
		return
	}
	var mine []string
	for _, x := range got.Intents {
		if x.Txn == by {
			mine = append(mine, x.Key)
		}
	}
	if !slices.Equal(mine, call.Keys) {
		f.t.Fatalf("Prepare of %q: intents of %q", call.Keys, mine)
	}
	f.tables[at] = got
}

// finish ends a transaction of a group; what a key is granted by is above what it was ever granted by.
func (f *fleet) finish(at int) {
	was := f.tables[at]
	if len(was.Intents) == 0 {
		return
	}
	by, commit := one(f.r.Rand, was.Intents...).Txn, f.r.Intn(5) > 0
	got, _, e := Finish(was, by, commit)
	is(f.t, "Finish", e, api.OK)
	for _, x := range was.Intents {
		if x.Txn != by || !commit || x.Kind != api.CallAcquire {
			continue
		}
		if who, e := Inspect(got, x.Key); who != x.Token || e != api.OK || who <= f.granted[x.Key] {
			f.t.Fatalf("%q is granted by %d, error %d, behind %d", x.Key, who, e, f.granted[x.Key])
		}
		f.granted[x.Key] = x.Token
	}
	f.tables[at] = got
}

// export hands keys of a group over, if it may.
func (f *fleet) export(at int) {
	s := f.r.span()
	if frozen, e := Freeze(f.tables[at], s); e == api.OK {
		f.tables[at] = frozen
	}
	was := f.tables[at]
	got, p, e := Export(was, f.tokens, s)
	if e != api.OK {
		return
	}
	if len(got.Holds)+len(p.Holds) != len(was.Holds) || len(got.Marks)+len(p.Marks) != len(was.Marks) {
		f.t.Fatalf("Export of %q: %v, %v and %v", s, was, got, p)
	}
	for i := range p.Holds {
		p.Holds[i].Until += was.Now
	}
	f.same(was, p.Holds, p.Marks)
	for i := range p.Holds {
		p.Holds[i].Until -= was.Now
	}
	f.tables[at] = got
	f.out = append(f.out, p)
}

// same tells whether holds that are not due, and marks, are a table's.
func (f *fleet) same(x api.Table, held []api.Hold, marked []api.Mark) {
	f.t.Helper()
	for _, h := range held {
		if h.Until > x.Now && !slices.Contains(x.Holds, h) {
			f.t.Fatalf("%v is not among %v", h, x.Holds)
		}
	}
	for _, m := range marked {
		if !slices.Contains(x.Marks, m) {
			f.t.Fatalf("%v is not among %v", m, x.Marks)
		}
	}
}

// imported hands a parcel to a group; what is in it is held there by the same tokens, as long.
func (f *fleet) imported(at int) {
	if len(f.out) == 0 {
		return
	}
	i := f.r.Intn(len(f.out))
	p := f.out[i]
	got, e := Import(f.tables[at], p)
	is(f.t, "Import", e, api.OK)
	for _, h := range p.Holds {
		if who, e := Inspect(got, h.Key); who != h.Token || e != api.OK {
			f.t.Fatalf("%q was held by %d, and is by %d, error %d", h.Key, h.Token, who, e)
		}
		if !slices.Contains(got.Holds, hold(h.Key, h.Token, got.Now+h.Until)) {
			f.t.Fatalf("%v at %d: %v", h, got.Now, got.Holds)
		}
	}
	f.same(got, nil, p.Marks)
	f.tables[at] = got
	f.out = slices.Delete(f.out, i, i+1)
}

// once tells whether each key is in one table, or one parcel, alone, and no token is above its key's last grant.
func (f *fleet) once() {
	f.t.Helper()
	for _, key := range f.r.keys {
		places := 0
		for _, x := range f.tables {
			if _, e := Inspect(x, key); e != api.ErrRange {
				places++
			}
		}
		for _, p := range f.out {
			if p.Span.From <= key && (p.Span.To == "" || key < p.Span.To) {
				places++
			}
		}
		if places != 1 {
			f.t.Fatalf("%q is in %d places: %+v, %+v", key, places, f.tables, f.out)
		}
	}
	for _, x := range f.tables {
		for _, h := range x.Holds {
			if h.Token != f.granted[h.Key] {
				f.t.Fatalf("%v was granted by %d", h, f.granted[h.Key])
			}
		}
		for _, m := range x.Marks {
			if m.Token != f.granted[m.Key] {
				f.t.Fatalf("%v was granted by %d", m, f.granted[m.Key])
			}
		}
	}
}

// Ta4: on ways of many calls at several groups, what may be stays so, keys' tokens rise, what is moved is held by the
// same tokens as long, and keys are prepared all or none.
func TestFleet(t *testing.T) {
	grants := 0
	for seed := range int64(60) {
		f := start(t, seed)
		for range 300 {
			at := f.r.Intn(len(f.tables))
			switch f.r.Intn(7) {
			case 0, 1, 2:
				f.prepare(at)
			case 3, 4:
				f.finish(at)
			case 5:
				f.tables[at], _, _ = Clock(f.tables[at], 1+f.r.Intn(3))
			case 6:
				if f.r.Intn(2) == 0 {
					f.export(at)
				} else {
					f.imported(at)
				}
			}
			is(t, "Check", Check(f.tables[at]), api.OK)
			f.once()
		}
		grants += len(f.granted)
	}
	if grants < 400 {
		t.Errorf("too few keys were granted: %d", grants)
	}
}

// Ta4: a lease that moves often is over as many ticks behind its beginning as it would be without that.
func TestManyMoves(t *testing.T) {
	for seed := range int64(100) {
		r := rand.New(rand.NewSource(seed))
		ttl := 1 + r.Intn(60)
		here, there := api.Table{Now: r.Intn(1000), Spans: everything}, api.Table{Now: r.Intn(1 << 30)}
		here, _ = Prepare(here, id(1, 1), acquire(ttl, "a"), 5)
		here, _, _ = Finish(here, id(1, 1), true)
		for left := ttl; left > 0; left-- {
			if r.Intn(3) == 0 {
				here, _ = Freeze(here, to("", ""))
				was, p, e := Export(here, 1, to("", ""))
				is(t, "Export", e, api.OK)
				there, e = Import(there, p)
				is(t, "Import", e, api.OK)
				here, there = there, was
			}
			if who, e := Inspect(here, "a"); who != 5 || e != api.OK {
				t.Fatalf("seed %d: with %d of %d left: %d, error %d", seed, left, ttl, who, e)
			}
			here, _, _ = Clock(here, 1)
			there, _, _ = Clock(there, 1+r.Intn(5))
		}
		if who, e := Inspect(here, "a"); who != 0 || e != api.OK {
			t.Errorf("seed %d: held by %d behind all of %d, error %d", seed, who, ttl, e)
		}
		if _, e := Prepare(here, id(1, 2), acquire(5, "a"), 5); e != api.ErrWait {
			t.Errorf("seed %d: an acquire by the same token: error %d", seed, e)
		}
	}
}

// R4: the same calls tell the same.
func TestSameAgain(t *testing.T) {
	run := func() string {
		var b strings.Builder
		r := lucks(3)
		x := r.shard().table()
		for range 300 {
			clocked, due, e := Clock(x, 1)
			prepared, f := Prepare(x, r.id(), r.call(), 9)
			finished, n, g := Finish(x, r.id(), true)
			frozen, h := Freeze(x, r.span())
			left, p, i := Export(x, 4, r.span())
			more, j := Import(x, r.parcel())
			fmt.Fprintln(&b, clocked, due, e, prepared, f, finished, n, g, frozen, h, left, p, i, more, j)
			for _, next := range []api.Table{clocked, prepared, finished, frozen, left, more} {
				if next.Spans != nil && r.Intn(6) == 0 {
					x = next
				}
			}
		}
		return b.String()
	}
	if run() != run() {
		t.Error("the same calls told otherwise")
	}
}
