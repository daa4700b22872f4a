package txn

import (
	"fmt"
	"math/rand"
	"slices"
	"strings"
	"testing"

	"gudgeon/api"
	"gudgeon/table"
)

// party is a group that takes part, and what it said.
type party struct{ yes, done bool }

// deal is a record by the words: each group's part, by its number; who takes no part is nil.
type deal struct {
	x     api.Txn // all but the lists of groups
	parts [17]*party
}

// some tells whether a list is some of the groups, rising; what they said is put down by set.
func (d *deal) some(l []int, set func(p *party)) bool {
	place := 0
	for _, group := range l {
		if group <= place || group > 16 || d.parts[group] == nil {
			return false
		}
		place = group
		set(d.parts[group])
	}
	return true
}

// every tells whether all groups are so.
func (d *deal) every(so func(p *party) bool) bool {
	for _, p := range d.parts {
		if p != nil && !so(p) {
			return false
		}
	}
	return true
}

// none tells whether no group is so.
func (d *deal) none(so func(p *party) bool) bool {
	return d.every(func(p *party) bool { return !so(p) })
}

// those is the groups that are so, rising.
func (d *deal) those(so func(p *party) bool) []int {
	var l []int
	for group, p := range d.parts {
		if p != nil && so(p) {
			l = append(l, group)
		}
	}
	return l
}

func yes(p *party) bool { return p.yes }

func done(p *party) bool { return p.done }

func whoever(p *party) bool { return true }

// mayCall tells whether a record's call may be prepared, by the words.
func mayCall(x api.Txn) bool {
	if len(x.Keys) == 0 || len(x.Keys) > 16 {
		return false
	}
	for i, key := range x.Keys {
		if len(key) > 64 || i > 0 && strings.Compare(x.Keys[i-1], key) != -1 {
			return false
		}
	}
	switch x.Kind {
	case 1:
		return x.Ttl >= 1 && x.Ttl <= 1048576
	case 2:
		return x.Ttl == 0 && x.Token != 0
	case 3:
		return x.Ttl >= 1 && x.Ttl <= 1048576 && x.Token != 0
	}
	return false
}

// read is a record by the words; false: it may not be.
func read(x api.Txn) (*deal, bool) {
	d := &deal{x: x}
	for i, group := range x.Groups {
		if group < 1 || group > 16 || i > 0 && x.Groups[i-1] >= group {
			return nil, false
		}
		d.parts[group] = &party{}
	}
	if len(x.Groups) == 0 || x.Id.Client < 0 || x.Id.Client > 7 || x.Id.Seq == 0 || !mayCall(x) {
		return nil, false
	}
	if !d.some(x.Yes, func(p *party) { p.yes = true }) || !d.some(x.Done, func(p *party) { p.done = true }) {
		return nil, false
	}
	switch x.State {
	case 1:
		return d, d.none(done) && x.Code == 0 && (x.Token == 0 || !d.every(yes))
	case 2:
		return d, x.Token != 0 && d.every(yes) && !d.every(done) && x.Code == 0
	case 3:
		return d, x.Code != 0 && !d.every(done)
	case 4:
		return d, d.every(done) && (x.Code != 0 || d.every(yes) && x.Token != 0)
	}
	return nil, false
}

// record is the record that a deal is.
func (d *deal) record() api.Txn {
	x := d.x
	x.Groups, x.Yes, x.Done = d.those(whoever), d.those(yes), d.those(done)
	return x
}

// token is Token by the words.
func (d *deal) token(token uint64) api.Errno {
	if d.x.State != 1 {
		return api.ErrOld
	}
	if token == 0 {
		return api.ErrArg
	}
	if d.x.Token != 0 {
		return api.ErrSame
	}
	d.x.Token = token
	if d.every(yes) {
		d.x.State = 2
	}
	return api.OK
}

// part is a group's; nil: it takes none.
func (d *deal) part(group int) *party {
	if group < 0 || group > 16 {
		return nil
	}
	return d.parts[group]
}

// voted is Voted by the words.
func (d *deal) voted(group int, code api.Errno) api.Errno {
	p := d.part(group)
	if p == nil {
		return api.ErrNone
	}
	if d.x.State != 1 {
		return api.ErrOld
	}
	if code != 0 {
		d.x.State, d.x.Code = 3, code
		return api.OK
	}
	if p.yes {
		return api.ErrSame
	}
	p.yes = true
	if d.every(yes) && d.x.Token != 0 {
		d.x.State = 2
	}
	return api.OK
}

// applied is Applied by the words.
func (d *deal) applied(group int) api.Errno {
	p := d.part(group)
	if p == nil {
		return api.ErrNone
	}
	if d.x.State == 1 || d.x.State == 4 {
		return api.ErrOld
	}
	if p.done {
		return api.ErrSame
	}
	p.done = true
	if d.every(done) {
		d.x.State = 4
	}
	return api.OK
}

// says is what Ask, Tell and Reply tell, by the words.
func (d *deal) says() string {
	var ask, tell []int
	var r api.Reply
	if d.x.State == 1 && d.x.Token != 0 {
		ask = d.those(func(p *party) bool { return !p.yes })
	}
	if d.x.State == 2 || d.x.State == 3 {
		tell = d.those(func(p *party) bool { return !p.done })
	}
	if r.Code = d.x.Code; d.x.State != 1 && r.Code == 0 && d.x.Kind == 1 {
		r.Token = d.x.Token
	}
	return fmt.Sprint(ask, tell, r, d.x.State != 1)
}

// said is what they tell.
func said(x api.Txn) string {
	r, ok := Reply(x)
	return fmt.Sprint(Ask(x), Tell(x), r, ok)
}

// counts is how often each call told each error.
type counts map[string]int

// checks holds what a call told against what it should have told.
func (c counts) checks(t *testing.T, name string, x, got api.Txn, e api.Errno, want api.Txn, code api.Errno) {
	t.Helper()
	if code != api.OK {
		want = api.Txn{}
	}
	c[fmt.Sprint(name, " ", int(code))]++
	if !alike(got, want) || e != code {
		t.Fatalf("%s of %+v: %+v, error %d, not %+v, error %d", name, x, got, e, want, code)
	}
	if e == api.OK {
		is(t, name+": Check", Check(got), api.OK)
	}
}

// each holds one call each, on a record, against what the words tell.
func (c counts) each(t *testing.T, x api.Txn, tokens []uint64, groups []int, codes []api.Errno) {
	t.Helper()
	_, may := read(x)
	if got := Check(x) == api.OK; got != may {
		t.Fatalf("Check(%+v): %v", x, got)
	}
	c[fmt.Sprint("Check ", may)]++
	call := func(name string, got api.Txn, e api.Errno, by func(d *deal) api.Errno) {
		t.Helper()
		if !may {
			c.checks(t, name, x, got, e, none, api.ErrArg)
			return
		}
		d, _ := read(x)
		code := by(d)
		c.checks(t, name, x, got, e, d.record(), code)
	}
	for _, token := range tokens {
		got, e := Token(x, token)
		call("Token", got, e, func(d *deal) api.Errno { return d.token(token) })
	}
	for _, group := range groups {
		for _, code := range codes {
			got, e := Voted(x, group, code)
			call("Voted", got, e, func(d *deal) api.Errno { return d.voted(group, code) })
		}
		got, e := Applied(x, group)
		call("Applied", got, e, func(d *deal) api.Errno { return d.applied(group) })
	}
	want := fmt.Sprint([]int{}, []int{}, api.Reply{}, false)
	if d, may := read(x); may {
		want = d.says()
	}
	if got := said(x); got != want {
		t.Fatalf("of %+v: %s, not %s", x, got, want)
	}
}

// often tells whether all that can be told was.
func (c counts) often(t *testing.T, what string) {
	t.Helper()
	for name, codes := range map[string][]api.Errno{
		"Token":   {api.OK, api.ErrArg, api.ErrSame, api.ErrOld},
		"Voted":   {api.OK, api.ErrArg, api.ErrNone, api.ErrSame, api.ErrOld},
		"Applied": {api.OK, api.ErrArg, api.ErrNone, api.ErrSame, api.ErrOld},
	} {
		for _, code := range codes {
			if c[fmt.Sprint(name, " ", int(code))] < 10 {
				t.Errorf("%s: too few of %s, error %d: %v", what, name, code, c)
			}
		}
	}
	if c["Check true"] < 10 || c["Check false"] < 10 {
		t.Errorf("%s: too few of Check: %v", what, c)
	}
}

// lists3 is all lists of three numbers at most, of 1 to 3.
func lists3() [][]int {
	l := [][]int{nil}
	for at := 0; at < len(l); at++ {
		for n := 1; n <= 3 && len(l[at]) < 3; n++ {
			l = append(l, append(slices.Clone(l[at]), n))
		}
	}
	return l
}

// Tx1, Tx2: one call each at records of some groups, with all short lists as Yes, and as Done, in all states.
func TestAllSmall(t *testing.T) {
	c := make(counts)
	for _, groups := range [][]int{{1, 3}, {1, 2, 3}} {
		for _, said := range lists3() {
			for _, over := range lists3() {
				for kind := 1; kind <= 3; kind++ {
					for n := range 24 {
						x := api.Txn{Id: id(1, 1), Kind: kind, Keys: []string{"a"}, Ttl: 7, Groups: groups, Yes: said, Done: over, State: 1 + n%4, Token: uint64(n / 4 % 2 * 5), Code: api.Errno(n / 8 * 8)}
						if kind == api.CallRelease {
							x.Ttl = 0
						}
						c.each(t, x, []uint64{0, 9}, []int{1, 2}, []api.Errno{0, 9})
					}
				}
			}
		}
	}
	c.often(t, "small ones")
}

// luck tells things by chance.
type luck struct{ *rand.Rand }

// one is one of some.
func one[T any](r luck, l ...T) T {
	return l[r.Intn(len(l))]
}

// part is some of a list.
func (r luck) part(l []int, often int) []int {
	var some []int
	for _, n := range l {
		if r.Intn(8) < often {
			some = append(some, n)
		}
	}
	return some
}

// txn is a record that may be, now and then, and is near one else.
func (r luck) txn() api.Txn {
	groups := r.part(upTo(16), 1+r.Intn(8))
	if len(groups) == 0 {
		groups = []int{1 + r.Intn(16)}
	}
	x := api.Txn{
		Id: id(r.Intn(8), 1+uint64(r.Intn(5))), Kind: 1 + r.Intn(3), Keys: keysOf(1 + r.Intn(16)), Token: one(r, 0, 5, last), Ttl: one(r, 1, 500, long),
		Groups: groups, State: 1 + r.Intn(4), Code: one(r, 0, 0, api.ErrBusy, api.ErrOld),
		Yes: r.part(groups, one(r, 0, 4, 7, 8, 8)), Done: r.part(groups, one(r, 0, 0, 4, 7, 8)),
	}
	if x.Kind == api.CallRelease {
		x.Ttl = 0
	}
	switch r.Intn(40) {
	case 0:
		x.Id.Client = one(r, -1, 8)
	case 1:
		x.Id.Seq = 0
	case 2:
		x.Kind = one(r, 0, 4, 5)
	case 3:
		x.Keys = one(r, nil, keysOf(17), []string{"b", "a"}, []string{"a", "a"}, []string{tooLong})
	case 4:
		x.Ttl = one(r, -1, 0, 1, long+1)
	case 5:
		x.Groups = append(x.Groups, one(r, 0, 1, 16, 17))
	case 6:
		x.Yes = append(x.Yes, 1+r.Intn(16))
	case 7:
		x.Done = append(x.Done, 1+r.Intn(16))
	case 8:
		x.State = one(r, 0, 5)
	}
	return x
}

// Tx1, Tx2: one call each at records by chance.
func TestWords(t *testing.T) {
	c := make(counts)
	r := luck{rand.New(rand.NewSource(1))}
	for range 20000 {
		x := r.txn()
		c.each(t, x, []uint64{0, 1 + r.Uint64()>>1}, []int{r.Intn(18), one(r, append(x.Groups, 3)...)}, []api.Errno{0, api.Errno(1 + r.Intn(12))})
	}
	c.often(t, "one call")
}

// Tx1, Tx2: what Begin makes of calls by chance.
func TestBeginWords(t *testing.T) {
	r := luck{rand.New(rand.NewSource(2))}
	began := 0
	for range 20000 {
		x := r.txn()
		c := api.Call{Kind: x.Kind, Keys: x.Keys, Token: x.Token, Ttl: x.Ttl}
		x.State, x.Code, x.Yes, x.Done = api.TxnOpen, 0, nil, nil
		if x.Kind == api.CallAcquire {
			x.Token = 0
		}
		want, code := x, api.OK
		if _, may := read(x); !may {
			want, code = none, api.ErrArg
		}
		got, e := Begin(x.Id, c, x.Groups)
		tells(t, fmt.Sprintf("Begin(%v, %+v, %v)", x.Id, c, x.Groups), got, e, want, code)
		if e == api.OK {
			began++
			again, e := Begin(x.Id, Call(got), got.Groups)
			tells(t, "Begin of Call", again, e, got, api.OK)
		}
	}
	if began < 5000 || began > 19000 {
		t.Errorf("%d of 20000 began", began)
	}
}

// story is a record on its way, and what happened to it.
type story struct {
	t       *testing.T
	x       api.Txn
	agreed  []int // who said yes, as long as it was open
	applied []int
	decided bool
	reply   api.Reply
}

// follows tells whether what is there follows from what happened.
func (s *story) follows() {
	s.t.Helper()
	is(s.t, "Check", Check(s.x), api.OK)
	r, ok := Reply(s.x)
	if s.decided && (!ok || fmt.Sprint(r) != fmt.Sprint(s.reply)) {
		s.t.Fatalf("%+v was decided, and told %v; now it tells %v, %v", s.x, s.reply, r, ok)
	}
	s.decided, s.reply = ok, r
	slices.Sort(s.agreed)
	slices.Sort(s.applied)
	if s.x.State == api.TxnCommit && !slices.Equal(s.agreed, s.x.Groups) {
		s.t.Fatalf("%+v is to commit; yes said %v", s.x, s.agreed)
	}
	if ok && r.Code == api.OK && !slices.Equal(s.agreed, s.x.Groups) {
		s.t.Fatalf("%+v told OK; yes said %v", s.x, s.agreed)
	}
	if !slices.Equal(s.x.Yes, s.agreed) || !slices.Equal(s.x.Done, s.applied) {
		s.t.Fatalf("%+v; yes said %v, done are %v", s.x, s.agreed, s.applied)
	}
	// Who is neither asked nor told any more has said yes, or is done.
	for _, group := range s.x.Groups {
		if asked := slices.Contains(Ask(s.x), group); asked != (!ok && s.x.Token != 0 && !slices.Contains(s.agreed, group)) {
			s.t.Fatalf("%+v: %d is asked: %v", s.x, group, asked)
		}
		if told := slices.Contains(Tell(s.x), group); told != (ok && !slices.Contains(s.applied, group)) {
			s.t.Fatalf("%+v: %d is told: %v", s.x, group, told)
		}
	}
}

// goes goes one step on.
func (s *story) goes(r luck) {
	group := one(r, s.x.Groups...)
	var got api.Txn
	var e api.Errno
	switch r.Intn(8) {
	case 0, 1, 2:
		if got, e = Voted(s.x, group, api.OK); e == api.OK {
			s.agreed = append(s.agreed, group)
		}
	case 3:
		if r.Intn(6) == 0 {
			got, e = Voted(s.x, group, api.Errno(1+r.Intn(12)))
		} else {
			got, e = Voted(s.x, r.Intn(18)+16, api.ErrBusy)
		}
	case 4:
		got, e = Token(s.x, uint64(r.Intn(9)))
	default:
		if got, e = Applied(s.x, group); e == api.OK {
			s.applied = append(s.applied, group)
		}
	}
	if got.State != 0 {
		s.x = got
	} else if e == api.OK {
		s.t.Fatal("nothing is told, and no error")
	}
}

// Tx3: what is decided stays so; it is to commit only if all said OK; it is asked of all, and told to all, till it is closed.
func TestStories(t *testing.T) {
	ends := make(map[string]int)
	for seed := range int64(600) {
		r := luck{rand.New(rand.NewSource(seed))}
		groups := r.part(upTo(15), 1+r.Intn(4))
		if len(groups) == 0 {
			groups = []int{9}
		}
		x, e := Begin(id(1, 1), one(r, acquire(5, "a"), release(4, "a", "b"), renew(4, 4, "a")), groups)
		is(t, "Begin", e, api.OK)
		s := &story{t: t, x: x}
		for step := 0; s.x.State != api.TxnClosed; step++ {
			if step > 5000 {
				t.Fatalf("seed %d: it does not come to its end: %+v", seed, s.x)
			}
			s.goes(r)
			s.follows()
		}
		for range 40 {
			s.goes(r)
			s.follows()
		}
		ends[fmt.Sprint(s.reply.Code == api.OK, " ", s.reply.Token != 0)]++
	}
	if ends["true true"] < 50 || ends["true false"] < 50 || ends["false false"] < 50 || ends["false true"] != 0 {
		t.Errorf("ends: %v", ends)
	}
}

// Tx3: a record sees keys of two tables turned all or none, by asking and telling those that it names till it names
// nobody.
func TestTables(t *testing.T) {
	ends := make(map[api.Errno]int)
	for seed := range int64(300) {
		r := luck{rand.New(rand.NewSource(seed))}
		shards := map[int]api.Table{2: {Spans: []api.Span{{To: "m"}}}, 5: {Spans: []api.Span{{From: "m"}}}}
		keys := map[int]string{2: "a", 5: "z"}
		for n, busy := range []int{2, 5} {
			if r.Intn(3) == 0 {
				shards[busy], _ = table.Prepare(shards[busy], id(7, uint64(1+n)), acquire(5, keys[busy]), 3)
				shards[busy], _, _ = table.Finish(shards[busy], id(7, uint64(1+n)), true)
			}
		}
		x, e := Begin(id(1, 1), acquire(9, "a", "z"), []int{2, 5})
		is(t, "Begin", e, api.OK)
		x, e = Token(x, 8)
		is(t, "Token", e, api.OK)
		for open := true; open; {
			ask, tell := Ask(x), Tell(x)
			open = len(ask)+len(tell) > 0
			for _, group := range ask {
				c := Call(x)
				c.Keys = []string{keys[group]}
				got, code := table.Prepare(shards[group], x.Id, c, x.Token)
				if code == api.OK {
					shards[group] = got
				}
				if next, e := Voted(x, group, code); e == api.OK {
					x = next
				}
			}
			for _, group := range tell {
				if got, _, e := table.Finish(shards[group], x.Id, x.State == api.TxnCommit); e == api.OK {
					shards[group] = got
				}
				x, e = Applied(x, group)
				is(t, "Applied", e, api.OK)
			}
		}
		reply, ok := Reply(x)
		if !ok || x.State != api.TxnClosed {
			t.Fatalf("seed %d: %+v", seed, x)
		}
		ends[reply.Code]++
		for group, key := range keys {
			who, e := table.Inspect(shards[group], key)
			if e != api.OK || (who == 8) != (reply.Code == api.OK) {
				t.Fatalf("seed %d: %q is held by %d, error %d, behind %+v", seed, key, who, e, reply)
			}
		}
	}
	if ends[api.OK] < 50 || ends[api.ErrBusy] < 50 || len(ends) != 2 {
		t.Errorf("ends: %v", ends)
	}
}

// R4: the same calls tell the same.
func TestSameAgain(t *testing.T) {
	run := func() string {
		var b strings.Builder
		r := luck{rand.New(rand.NewSource(5))}
		for range 500 {
			x := r.txn()
			began, e := Begin(x.Id, Call(x), x.Groups)
			token, f := Token(x, 9)
			voted, g := Voted(x, x.Groups[0], 0)
			applied, h := Applied(x, x.Groups[0])
			fmt.Fprintln(&b, Check(x), began, e, token, f, voted, g, applied, h, said(x), Call(x))
		}
		return b.String()
	}
	if run() != run() {
		t.Error("the same calls told otherwise")
	}
}
