package order

import (
	"bytes"
	"encoding/binary"
	"math/rand"
	"slices"
	"testing"

	"gudgeon/api"
)

// counts is how often what was told with which code.
type counts map[string]map[api.Errno]int

// add counts what was told.
func (c counts) add(what string, e api.Errno) {
	if c[what] == nil {
		c[what] = map[api.Errno]int{}
	}
	c[what][e]++
}

// often tells whether all that can be told was.
func (c counts) often(t *testing.T, least int, all map[string][]api.Errno) {
	t.Helper()
	for what, codes := range all {
		for _, e := range codes {
			if c[what][e] < least {
				t.Errorf("%s told %d only %d times", what, e, c[what][e])
			}
		}
	}
}

// mayBe tells whether an order may be, by the words.
func mayBe(o api.Order) bool {
	numbers := [][2]int{
		{o.Kind - 1, 16}, {o.Txn.Client, 7}, {o.Call.Kind, 4}, {len(o.Call.Keys), 16}, {o.Call.Ttl, 1048576}, {len(o.Groups), 16},
		{o.Group, 16}, {int(o.Code), 255}, {o.Plan.From, 16}, {o.Plan.To, 16}, {o.Plan.Step, 255}, {o.N, 2147483647},
		{len(o.Parcel.Holds), 256}, {len(o.Parcel.Marks), 256},
	}
	texts := []string{o.Plan.Span.From, o.Plan.Span.To, o.Parcel.Span.From, o.Parcel.Span.To, o.Key}
	texts = append(texts, o.Call.Keys...)
	for _, g := range o.Groups {
		numbers = append(numbers, [2]int{g, 16})
	}
	for _, h := range o.Parcel.Holds {
		texts = append(texts, h.Key)
		numbers = append(numbers, [2]int{h.Until, 2147483647})
	}
	for _, m := range o.Parcel.Marks {
		texts = append(texts, m.Key)
	}
	for _, n := range numbers {
		if n[0] < 0 || n[1] < n[0] {
			return false
		}
	}
	for _, s := range texts {
		if len(s) >= 65 {
			return false
		}
	}
	return true
}

// writer is bytes that are written.
type writer struct{ b []byte }

// n writes a number.
func (w *writer) n(n uint64) {
	w.b = binary.AppendUvarint(w.b, n)
}

// s writes a text.
func (w *writer) s(s string) {
	w.n(uint64(len(s)))
	w.b = append(w.b, s...)
}

// bytesOf is an order's bytes by the words; what is below 0 is a great number.
func bytesOf(o api.Order) []byte {
	w := &writer{}
	w.n(uint64(o.Kind))
	w.n(uint64(o.Txn.Client))
	w.n(o.Txn.Seq)
	w.n(uint64(o.Call.Kind))
	w.n(uint64(len(o.Call.Keys)))
	for _, k := range o.Call.Keys {
		w.s(k)
	}
	w.n(o.Call.Token)
	w.n(uint64(o.Call.Ttl))
	w.n(uint64(len(o.Groups)))
	for _, g := range o.Groups {
		w.n(uint64(g))
	}
	w.n(uint64(o.Group))
	w.n(uint64(o.Code))
	w.n(o.Token)
	if o.Take {
		w.n(1)
	} else {
		w.n(0)
	}
	w.n(o.Plan.Id)
	w.s(o.Plan.Span.From)
	w.s(o.Plan.Span.To)
	w.n(uint64(o.Plan.From))
	w.n(uint64(o.Plan.To))
	w.n(uint64(o.Plan.Step))
	w.n(o.Parcel.Plan)
	w.s(o.Parcel.Span.From)
	w.s(o.Parcel.Span.To)
	w.n(uint64(len(o.Parcel.Holds)))
	for _, h := range o.Parcel.Holds {
		w.s(h.Key)
		w.n(h.Token)
		w.n(uint64(h.Until))
	}
	w.n(uint64(len(o.Parcel.Marks)))
	for _, m := range o.Parcel.Marks {
		w.s(m.Key)
		w.n(m.Token)
	}
	w.s(o.Key)
	w.n(uint64(o.N))
	return w.b
}

// taker takes bytes as they come, in whatever form.
type taker struct {
	b   []byte
	bad bool
}

// n takes a number.
func (x *taker) n() uint64 {
	n, size := binary.Uvarint(x.b)
	if size <= 0 {
		x.bad = true
		return 0
	}
	x.b = x.b[size:]
	return n
}

// s takes a text.
func (x *taker) s() string {
	n := x.count()
	s := string(x.b[:n])
	x.b = x.b[n:]
	return s
}

// count takes how many there are: no more than bytes that are left.
func (x *taker) count() int {
	n := x.n()
	if n > uint64(len(x.b)) {
		x.bad = true
		return 0
	}
	return int(n)
}

// take takes an order.
func (x *taker) take() (o api.Order) {
	o.Kind = int(x.n())
	o.Txn.Client = int(x.n())
	o.Txn.Seq = x.n()
	o.Call.Kind = int(x.n())
	for range x.count() {
		o.Call.Keys = append(o.Call.Keys, x.s())
	}
	o.Call.Token = x.n()
	o.Call.Ttl = int(x.n())
	for range x.count() {
		o.Groups = append(o.Groups, int(x.n()))
	}
	o.Group = int(x.n())
	o.Code = api.Errno(x.n())
	o.Token = x.n()
	o.Take = x.n() != 0
	o.Plan.Id = x.n()
	o.Plan.Span.From = x.s()
	o.Plan.Span.To = x.s()
	o.Plan.From = int(x.n())
	o.Plan.To = int(x.n())
	o.Plan.Step = int(x.n())
	o.Parcel.Plan = x.n()
	o.Parcel.Span.From = x.s()
	o.Parcel.Span.To = x.s()
	for range x.count() {
		h := api.Hold{Key: x.s()}
		h.Token = x.n()
		h.Until = int(x.n())
		o.Parcel.Holds = append(o.Parcel.Holds, h)
	}
	for range x.count() {
		m := api.Mark{Key: x.s()}
		m.Token = x.n()
		o.Parcel.Marks = append(o.Parcel.Marks, m)
	}
	o.Key = x.s()
	o.N = int(x.n())
	return o
}

// orderOf is the order whose bytes these are, by the words: one that may be, and has just these.
func orderOf(b []byte) (api.Order, bool) {
	x := &taker{b: b}
	o := x.take()
	if x.bad || !mayBe(o) || !bytes.Equal(bytesOf(o), b) {
		return api.Order{}, false
	}
	return o, true
}

// asksOrder holds Check and Encode of an order against the words, and the way back.
func asksOrder(t *testing.T, c counts, o api.Order) {
	t.Helper()
	want, code := bytesOf(o), api.OK
	switch {
	case !mayBe(o):
		code = 1
	case len(want) > 4096:
		code = 3
	}
	if e := Check(o); e == api.OK != mayBe(o) || e != api.OK && e != 1 {
		t.Fatalf("Check(%+v): error %d", o, e)
	}
	b, e := Encode(o)
	if e != code || e == api.OK && !bytes.Equal(b, want) || e != api.OK && len(b) != 0 {
		t.Fatalf("Encode(%+v): %x, error %d; not %x, %d", o, b, e, want, code)
	}
	c.add("Check", Check(o))
	c.add("Encode", e)
	if e == api.OK {
		x, e := Decode(b)
		if e != api.OK || !alike(x, o) || !Same(x, o) {
			t.Fatalf("Decode of Encode(%+v): %+v, error %d", o, x, e)
		}
	}
}

// asksBytes holds Decode of bytes against the words, and the way back.
func asksBytes(t *testing.T, c counts, b []byte) {
	t.Helper()
	var code api.Errno
	want, ok := orderOf(b)
	switch {
	case len(b) > 4096:
		want, code = api.Order{}, 3
	case !ok:
		code = 5
	}
	o, e := Decode(b)
	if e != code || !alike(o, want) {
		t.Fatalf("Decode(%x): %+v, error %d; not %+v, %d", b, o, e, want, code)
	}
	c.add("Decode", e)
	if e == api.OK {
		if back, e := Encode(o); e != api.OK || !bytes.Equal(back, b) {
			t.Fatalf("Encode of Decode(%x): %x, error %d", b, back, e)
		}
	}
}

// Or1, Or2: bytes that are not quite those of orders: each byte of a few turned to each other one, left out, doubled.
func TestNear(t *testing.T) {
	c := counts{}
	small := api.Order{Kind: 1, N: 5}
	other := hasAll()
	other.Call.Keys, other.Parcel.Holds = []string{longest}, nil
	for _, o := range []api.Order{small, hasAll(), other} {
		b := bytesOf(o)
		for i, was := range b {
			for d := range 256 {
				b[i] = byte(d)
				asksBytes(t, c, b)
				asksBytes(t, c, slices.Insert(slices.Clone(b), i, was))
				b[i] = was
			}
			asksBytes(t, c, slices.Delete(slices.Clone(b), i, i+1))
		}
	}
	c.often(t, 100, map[string][]api.Errno{"Decode": {0, 5}})
}

// Or1, Or2: bytes of few values in a short order's place, all of them.
func TestFewBytes(t *testing.T) {
	c := counts{}
	b := bytesOf(api.Order{Kind: 1})
	for i := range b {
		for j := range i {
			for _, x := range []byte{0, 1, 2, 16, 17, 65, 127, 128, 255} {
				for _, y := range []byte{0, 1, 2, 7, 8, 16, 17, 128} {
					near := slices.Clone(b)
					near[i], near[j] = x, y
					asksBytes(t, c, near)
				}
			}
		}
	}
	c.often(t, 100, map[string][]api.Errno{"Decode": {0, 5}})
}

// numberOf is a number by chance: mostly one that may be, if that is at most what is told.
func numberOf(r *rand.Rand, most int) int {
	switch r.Intn(400) {
	case 0:
		return -1 - r.Intn(3)
	case 1:
		return most + 1
	case 2:
		return most + 1 + r.Intn(1<<40)
	}
	if r.Intn(5) == 0 {
		return most
	}
	return r.Intn(1+r.Intn(1+most)) % (most + 1)
}

// tokenOf is a number of 64 bits by chance.
func tokenOf(r *rand.Rand) uint64 {
	return r.Uint64() >> r.Intn(65)
}

// textOf is a text by chance.
func textOf(r *rand.Rand) string {
	size := r.Intn(4)
	switch r.Intn(200) {
	case 0:
		size = 65 + r.Intn(100)
	case 1, 2, 3, 4, 5, 6:
		size = 64
	}
	b := make([]byte, size)
	for i := range b {
		b[i] = byte(r.Intn(256))
	}
	return string(b)
}

// howMany is the length of a list by chance.
func howMany(r *rand.Rand, most int) int {
	switch r.Intn(100) {
	case 0:
		return most + 1
	case 1, 2:
		return most
	case 3, 4:
		return r.Intn(most)
	}
	return r.Intn(4)
}

// chance is an order by chance.
func chance(r *rand.Rand) api.Order {
	o := api.Order{
		Kind:  1 + numberOf(r, 16),
		Txn:   api.Id{Client: numberOf(r, 7), Seq: tokenOf(r)},
		Call:  api.Call{Kind: numberOf(r, 4), Token: tokenOf(r), Ttl: numberOf(r, 1<<20)},
		Group: numberOf(r, 16),
		Code:  api.Errno(numberOf(r, 255)),
		Token: tokenOf(r),
		Take:  r.Intn(2) == 0,
		Plan:  api.Plan{Id: tokenOf(r), Span: api.Span{From: textOf(r), To: textOf(r)}, From: numberOf(r, 16), To: numberOf(r, 16), Step: numberOf(r, 255)},
		Key:   textOf(r),
		N:     numberOf(r, 1<<31-1),
	}
	o.Parcel = api.Parcel{Plan: tokenOf(r), Span: api.Span{From: textOf(r), To: textOf(r)}}
	for range howMany(r, 16) {
		o.Call.Keys = append(o.Call.Keys, textOf(r))
	}
	for range howMany(r, 16) {
		o.Groups = append(o.Groups, numberOf(r, 16))
	}
	for range howMany(r, 256) {
		o.Parcel.Holds = append(o.Parcel.Holds, api.Hold{Key: textOf(r), Token: tokenOf(r), Until: numberOf(r, 1<<31-1)})
	}
	for range howMany(r, 256) {
		o.Parcel.Marks = append(o.Parcel.Marks, api.Mark{Key: textOf(r), Token: tokenOf(r)})
	}
	return o
}

// Or1, Or2: orders by chance, and their bytes, turned a bit.
func TestByChance(t *testing.T) {
	r := rand.New(rand.NewSource(22))
	c := counts{}
	for range 20000 {
		o := chance(r)
		if r.Intn(20) == 0 {
			o.Parcel.Marks = slices.Repeat([]api.Mark{{Key: highest, Token: tokenOf(r)}}, 40+r.Intn(30))
		}
		asksOrder(t, c, o)
		b := bytesOf(o)
		asksBytes(t, c, b)
		for range 3 {
			i := r.Intn(len(b))
			switch r.Intn(3) {
			case 0:
				b[i] = byte(r.Intn(256))
			case 1:
				b = slices.Insert(b, i, byte(r.Intn(3)))
			case 2:
				b = slices.Delete(b, i, i+1)
			}
			asksBytes(t, c, b)
		}
	}
	c.often(t, 100, map[string][]api.Errno{"Check": {0, 1}, "Encode": {0, 1, 3}, "Decode": {0, 3, 5}})
}

// Or2: unlike orders have unlike bytes, and Same tells just whether these are.
func TestUnlike(t *testing.T) {
	r := rand.New(rand.NewSource(23))
	all := right()
	for len(all) < 4000 {
		o := all[r.Intn(len(all))]
		other := chance(r)
		switch r.Intn(8) {
		case 0:
			o.Call = other.Call
		case 1:
			o.Groups = other.Groups
		case 2:
			o.Plan = other.Plan
		case 3:
			o.Parcel = other.Parcel
		case 4:
			o.Key, o.N = other.Key, other.N
		case 5:
			o.Txn, o.Kind = other.Txn, other.Kind
		case 6:
			o.Token, o.Code = other.Token, other.Code
		}
		if _, e := Encode(o); e == api.OK {
			all = append(all, o)
		}
	}
	whose := map[string]api.Order{}
	var last []byte
	lastOrder := api.Order{}
	for _, o := range all {
		b, _ := Encode(o)
		if was, ok := whose[string(b)]; ok && (!alike(was, o) || !Same(was, o)) {
			t.Fatalf("%+v and %+v have the same bytes %x", was, o, b)
		}
		whose[string(b)] = o
		if bytes.Equal(last, b) != Same(lastOrder, o) {
			t.Fatalf("Same(%+v, %+v), bytes %x and %x", lastOrder, o, last, b)
		}
		last, lastOrder = b, o
	}
	for i, a := range all[:300] {
		for _, b := range all[i:300] {
			x, _ := Encode(a)
			y, _ := Encode(b)
			if bytes.Equal(x, y) != Same(a, b) || Same(a, b) != Same(b, a) {
				t.Fatalf("Same(%+v, %+v), bytes %x and %x", a, b, x, y)
			}
		}
	}
}

// R4: the same again.
func TestAgain(t *testing.T) {
	for _, o := range append(right(), wrong()...) {
		b, e := Encode(o)
		again, f := Encode(o)
		if !bytes.Equal(b, again) || e != f || Check(o) != Check(o) {
			t.Fatalf("Encode(%+v): %x, %d and %x, %d", o, b, e, again, f)
		}
		x, e := Decode(b)
		y, f := Decode(b)
		if !alike(x, y) || e != f {
			t.Fatalf("Decode(%x): %+v, %d and %+v, %d", b, x, e, y, f)
		}
	}
}
