package order

import (
	"bytes"
	"encoding/hex"
	"math"
	"slices"
	"strings"
	"testing"

	"gudgeon/api"
)

// The longest keys, and what is too long to be one.
var (
	longest = strings.Repeat("k", 64)
	highest = strings.Repeat("\xff", 64)
	tooLong = strings.Repeat("k", 65)
)

// hasAll is an order that has something everywhere.
func hasAll() api.Order {
	return api.Order{
		Kind:   api.OrderPrepare,
		Txn:    api.Id{Client: 1, Seq: 300},
		Call:   api.Call{Kind: api.CallRenew, Keys: []string{"a", "bc"}, Token: 130, Ttl: 9},
		Groups: []int{1, 3},
		Group:  2,
		Code:   8,
		Token:  12,
		Take:   true,
		Plan:   api.Plan{Id: 13, Span: api.Span{From: "d", To: "e"}, From: 4, To: 5, Step: 6},
		Parcel: api.Parcel{
			Plan:  14,
			Span:  api.Span{From: "f", To: "gh"},
			Holds: []api.Hold{{Key: "i", Token: 15, Until: 16}, {Key: "j", Token: 17, Until: 18}},
			Marks: []api.Mark{{Key: "l", Token: 19}},
		},
		Key: "mn",
		N:   128,
	}
}

// allBytes is the bytes of hasAll.
const allBytes = "06 01ac02 03 02 0161 026263 8201 09 02 01 03 02 08 0c 01 0d 0164 0165 04 05 06 0e 0166 026768 02 0169 0f 10 016a 11 12 01 016c 13 026d6e 8001"

// hexed is the bytes of a text of hexadecimal digits and blanks.
func hexed(t *testing.T, text string) []byte {
	t.Helper()
	b, err := hex.DecodeString(strings.ReplaceAll(text, " ", ""))
	if err != nil {
		t.Fatal(err)
	}
	return b
}

// turn turns an order.
type turn func(o *api.Order)

// numberTurns is how each number of an order that is bounded is set, and what it is at most; the least is 0, but of Kind.
func numberTurns() []struct {
	set  func(o *api.Order, n int)
	most int
} {
	type one = struct {
		set  func(o *api.Order, n int)
		most int
	}
	return []one{
		{func(o *api.Order, n int) { o.Kind = n }, 17},
		{func(o *api.Order, n int) { o.Txn.Client = n }, 7},
		{func(o *api.Order, n int) { o.Call.Kind = n }, 4},
		{func(o *api.Order, n int) { o.Call.Ttl = n }, 1 << 20},
		{func(o *api.Order, n int) { o.Groups[0] = n }, 16},
		{func(o *api.Order, n int) { o.Groups[1] = n }, 16},
		{func(o *api.Order, n int) { o.Group = n }, 16},
		{func(o *api.Order, n int) { o.Code = api.Errno(n) }, 255},
		{func(o *api.Order, n int) { o.Plan.From = n }, 16},
		{func(o *api.Order, n int) { o.Plan.To = n }, 16},
		{func(o *api.Order, n int) { o.Plan.Step = n }, 255},
		{func(o *api.Order, n int) { o.Parcel.Holds[0].Until = n }, 1<<31 - 1},
		{func(o *api.Order, n int) { o.Parcel.Holds[1].Until = n }, 1<<31 - 1},
		{func(o *api.Order, n int) { o.N = n }, 1<<31 - 1},
	}
}

// tokenTurns is how each number of an order that may be any is set.
func tokenTurns() []func(o *api.Order, n uint64) {
	return []func(o *api.Order, n uint64){
		func(o *api.Order, n uint64) { o.Txn.Seq = n },
		func(o *api.Order, n uint64) { o.Call.Token = n },
		func(o *api.Order, n uint64) { o.Token = n },
		func(o *api.Order, n uint64) { o.Plan.Id = n },
		func(o *api.Order, n uint64) { o.Parcel.Plan = n },
		func(o *api.Order, n uint64) { o.Parcel.Holds[0].Token = n },
		func(o *api.Order, n uint64) { o.Parcel.Holds[1].Token = n },
		func(o *api.Order, n uint64) { o.Parcel.Marks[0].Token = n },
	}
}

// textTurns is how each text of an order is set.
func textTurns() []func(o *api.Order, s string) {
	return []func(o *api.Order, s string){
		func(o *api.Order, s string) { o.Call.Keys[0] = s },
		func(o *api.Order, s string) { o.Call.Keys[1] = s },
		func(o *api.Order, s string) { o.Plan.Span.From = s },
		func(o *api.Order, s string) { o.Plan.Span.To = s },
		func(o *api.Order, s string) { o.Parcel.Span.From = s },
		func(o *api.Order, s string) { o.Parcel.Span.To = s },
		func(o *api.Order, s string) { o.Parcel.Holds[0].Key = s },
		func(o *api.Order, s string) { o.Parcel.Holds[1].Key = s },
		func(o *api.Order, s string) { o.Parcel.Marks[0].Key = s },
		func(o *api.Order, s string) { o.Key = s },
	}
}

// listTurns is how each list of an order is made to have so many, and how many that is at most.
func listTurns() []struct {
	set  func(o *api.Order, n int)
	most int
} {
	type one = struct {
		set  func(o *api.Order, n int)
		most int
	}
	return []one{
		{func(o *api.Order, n int) { o.Call.Keys = slices.Repeat([]string{"a"}, n) }, 16},
		{func(o *api.Order, n int) { o.Groups = slices.Repeat([]int{1}, n) }, 16},
		{func(o *api.Order, n int) { o.Parcel.Holds = slices.Repeat([]api.Hold{{Key: "h", Token: 1}}, n) }, 256},
		{func(o *api.Order, n int) { o.Parcel.Marks = slices.Repeat([]api.Mark{{Key: "m", Token: 2}}, n) }, 256},
	}
}

// turned is the order that has something everywhere, turned.
func turned(f turn) api.Order {
	o := hasAll()
	f(&o)
	return o
}

// right is orders that may be, each unlike the others: with bytes that are not too many.
func right() []api.Order {
	all := []api.Order{hasAll(), turned(func(o *api.Order) { o.Take = false })}
	for kind := 1; kind <= 17; kind++ {
		all = append(all, api.Order{Kind: kind})
	}
	was := hasAll()
	add := func(f turn) {
		if o := turned(f); !alike(o, was) {
			all = append(all, o)
		}
	}
	for i, x := range numberTurns() {
		for _, n := range []int{0, 1, 2, x.most - 1, x.most} {
			if i == 0 && n == 0 || n == 2 && x.most < 5 {
				continue
			}
			add(func(o *api.Order) { x.set(o, n) })
		}
	}
	for _, set := range tokenTurns() {
		for _, n := range []uint64{0, 1, 127, 1 << 32, 1 << 63, math.MaxUint64} {
			add(func(o *api.Order) { set(o, n) })
		}
	}
	for _, set := range textTurns() {
		for _, s := range []string{"", "\x00", "z", "\xff\xfe", longest[:63], longest, highest} {
			add(func(o *api.Order) { set(o, s) })
		}
	}
	for _, x := range listTurns() {
		for _, n := range []int{0, 3, x.most - 1, x.most} {
			add(func(o *api.Order) { x.set(o, n) })
		}
	}
	// Order and doubles are nothing to an order.
	add(func(o *api.Order) { o.Groups = []int{3, 1} })
	add(func(o *api.Order) { o.Groups = []int{3, 3} })
	add(func(o *api.Order) { o.Call.Keys = []string{"bc", "a"} })
	add(func(o *api.Order) { o.Call.Keys = []string{"a", "a"} })
	add(func(o *api.Order) { o.Plan.Span = api.Span{From: "e", To: "d"} })
	add(func(o *api.Order) { o.Parcel.Span = api.Span{From: "f", To: "f"} })
	add(func(o *api.Order) { slices.Reverse(o.Parcel.Holds) })
	// What is the end of one thing here is the beginning of the next one there.
	add(func(o *api.Order) { o.Call.Keys = []string{"ab", "c"} })
	add(func(o *api.Order) { o.Plan.Span = api.Span{To: "de"} })
	add(func(o *api.Order) { o.Groups, o.Group = []int{1}, 3 })
	return all
}

// far is numbers that are far from all that may be.
func far() []int {
	return []int{math.MinInt, math.MinInt + 1, math.MinInt32, -1 << 16, -256, 1 << 40, math.MaxInt64 - 1, math.MaxInt}
}

// wrong is orders that may not be, by one thing.
func wrong() []api.Order {
	all := []api.Order{{}}
	for i, x := range numberTurns() {
		for _, n := range append(far(), -1, x.most+1) {
			all = append(all, turned(func(o *api.Order) { x.set(o, n) }))
		}
		if i == 0 {
			all = append(all, turned(func(o *api.Order) { o.Kind = 0 }))
		}
	}
	for _, set := range textTurns() {
		for _, s := range []string{tooLong, tooLong[:64] + "\x00", strings.Repeat("x", 5000)} {
			all = append(all, turned(func(o *api.Order) { set(o, s) }))
		}
	}
	for _, x := range listTurns() {
		for _, n := range []int{x.most + 1, 2*x.most + 7} {
			all = append(all, turned(func(o *api.Order) { x.set(o, n) }))
		}
	}
	// Each of a list is asked.
	all = append(all,
		turned(func(o *api.Order) { o.Groups = append(slices.Repeat([]int{16}, 15), 17) }),
		turned(func(o *api.Order) { o.Call.Keys = append(slices.Repeat([]string{"a"}, 15), tooLong) }),
		turned(func(o *api.Order) { o.Parcel.Marks = []api.Mark{{}, {}, {Key: tooLong}} }),
	)
	return all
}

// long is an order whose bytes are so many, 3000 to 5000: it has 40 holds of long keys, and a key that makes it up.
func long(t *testing.T, size int) api.Order {
	t.Helper()
	o := hasAll()
	o.Parcel.Holds, o.Key = nil, ""
	for {
		rest := size - len(bytesOf(o))
		if rest <= 64 {
			break
		}
		o.Parcel.Holds = append(o.Parcel.Holds, api.Hold{Key: longest[:min(64, max(0, rest-70))], Token: 1})
	}
	o.Key = longest[:size-len(bytesOf(o))]
	if len(bytesOf(o)) != size {
		t.Fatalf("long(%d): of %d", size, len(bytesOf(o)))
	}
	return o
}

// alike tells whether orders are alike in all.
func alike(a, b api.Order) bool {
	return a.Kind == b.Kind && a.Txn == b.Txn && a.Group == b.Group && a.Code == b.Code && a.Token == b.Token && a.Take == b.Take &&
		a.Call.Kind == b.Call.Kind && slices.Equal(a.Call.Keys, b.Call.Keys) && a.Call.Token == b.Call.Token && a.Call.Ttl == b.Call.Ttl &&
		slices.Equal(a.Groups, b.Groups) && a.Plan == b.Plan && a.Parcel.Plan == b.Parcel.Plan && a.Parcel.Span == b.Parcel.Span &&
		slices.Equal(a.Parcel.Holds, b.Parcel.Holds) && slices.Equal(a.Parcel.Marks, b.Parcel.Marks) && a.Key == b.Key && a.N == b.N
}

// encodes asks what Encode tells.
func encodes(t *testing.T, o api.Order, want []byte, code api.Errno) {
	t.Helper()
	b, e := Encode(o)
	if e != code || !bytes.Equal(b, want) {
		t.Errorf("Encode(%+v) = %x, error %d; not %x, %d", o, b, e, want, code)
	}
}

// decodes asks what Decode tells.
func decodes(t *testing.T, b []byte, want api.Order, code api.Errno) {
	t.Helper()
	o, e := Decode(b)
	if e != code || !alike(o, want) {
		t.Errorf("Decode(%x) = %+v, error %d; not %+v, %d", b, o, e, want, code)
	}
}

// Or1: an order that may be, and one that may not be.
func TestCheck(t *testing.T) {
	for _, o := range right() {
		if e := Check(o); e != api.OK {
			t.Errorf("Check(%+v): error %d", o, e)
		}
	}
	for _, o := range wrong() {
		if e := Check(o); e != api.ErrArg {
			t.Errorf("Check(%+v): error %d, not ErrArg", o, e)
		}
	}
	for _, size := range []int{4095, 4096, 4097, 5000} {
		if e := Check(long(t, size)); e != api.OK {
			t.Errorf("Check of one of %d bytes: error %d", size, e)
		}
	}
}

// Or1: the bytes as they stand one behind the other; and the chapter's example.
func TestBytes(t *testing.T) {
	noughts := strings.Repeat("00", 23)
	encodes(t, api.Order{Kind: 1, N: 5}, hexed(t, "01"+noughts+"05"), api.OK)
	decodes(t, hexed(t, "01"+noughts+"05"), api.Order{Kind: 1, N: 5}, api.OK)
	encodes(t, hasAll(), hexed(t, allBytes), api.OK)
	decodes(t, hexed(t, allBytes), hasAll(), api.OK)
	most := api.Order{Kind: 17, Txn: api.Id{Client: 7, Seq: math.MaxUint64}, N: 1<<31 - 1, Code: 255, Call: api.Call{Ttl: 1 << 20}}
	text := "11 07 ffffffffffffffffff01 00 00 00 808040 00 00 ff01" + strings.Repeat("00", 14) + "ffffffff07"
	encodes(t, most, hexed(t, text), api.OK)
	decodes(t, hexed(t, text), most, api.OK)
}

// Or1, Or2: orders that may be, there and back.
func TestRight(t *testing.T) {
	for _, o := range right() {
		encodes(t, o, bytesOf(o), api.OK)
		decodes(t, bytesOf(o), o, api.OK)
	}
}

// Or1: orders that may not be have no bytes, and bytes of such ones are of none.
func TestWrong(t *testing.T) {
	for _, o := range wrong() {
		encodes(t, o, nil, api.ErrArg)
		if b := bytesOf(o); len(b) <= 4096 {
			decodes(t, b, api.Order{}, api.ErrText)
		} else {
			decodes(t, b, api.Order{}, api.ErrLong)
		}
	}
}

// Or1: as many bytes as may be, and more; what may not be is told ahead of that.
func TestLong(t *testing.T) {
	for size := 4000; size <= 4200; size++ {
		o := long(t, size)
		b := bytesOf(o)
		if size <= 4096 {
			encodes(t, o, b, api.OK)
			decodes(t, b, o, api.OK)
		} else {
			encodes(t, o, nil, api.ErrLong)
			decodes(t, b, api.Order{}, api.ErrLong)
		}
		o.N = -1
		encodes(t, o, nil, api.ErrArg)
	}
	o := hasAll()
	o.Parcel.Holds = slices.Repeat([]api.Hold{{Key: longest, Token: math.MaxUint64, Until: api.MaxTime}}, 256)
	o.Parcel.Marks = slices.Repeat([]api.Mark{{Key: longest, Token: math.MaxUint64}}, 256)
	encodes(t, o, nil, api.ErrLong)
	o.Parcel.Marks = append(o.Parcel.Marks, api.Mark{})
	encodes(t, o, nil, api.ErrArg)
	for _, size := range []int{4097, 5000, 1 << 20} {
		decodes(t, make([]byte, size), api.Order{}, api.ErrLong)
		decodes(t, bytes.Repeat([]byte{0xff}, size), api.Order{}, api.ErrLong)
		decodes(t, append(hexed(t, allBytes), make([]byte, size)...), api.Order{}, api.ErrLong)
	}
	decodes(t, make([]byte, 4096), api.Order{}, api.ErrText)
	decodes(t, append(bytesOf(long(t, 4095)), 0), api.Order{}, api.ErrText)
}

// Or1: too few bytes, too many, and none.
func TestCut(t *testing.T) {
	decodes(t, nil, api.Order{}, api.ErrText)
	for _, o := range right() {
		b := bytesOf(o)
		for i := range b {
			if len(b) > 300 && i%13 != 0 {
				continue
			}
			decodes(t, b[:i], api.Order{}, api.ErrText)
		}
		decodes(t, append(slices.Clone(b), 0), api.Order{}, api.ErrText)
		decodes(t, append(slices.Clone(b), b...), api.Order{}, api.ErrText)
	}
}

// Or1: each number in another form, and each byte 128 more: a number that goes on where it did not.
func TestForms(t *testing.T) {
	b := hexed(t, allBytes)
	for i, d := range b {
		if d < 128 {
			decodes(t, slices.Concat(b[:i], []byte{d + 128, 0}, b[i+1:]), insteadOf(b, i, d+128, 0), codeOf(insteadOf(b, i, d+128, 0)))
			decodes(t, slices.Concat(b[:i], []byte{d + 128, 128, 0}, b[i+1:]), insteadOf(b, i, d+128, 128, 0), codeOf(insteadOf(b, i, d+128, 128, 0)))
		}
	}
	// A truth is 1 or 0.
	at := bytes.Index(b, []byte{8, 12, 1, 13}) + 2
	for _, d := range []byte{2, 3, 127} {
		other := slices.Clone(b)
		other[at] = d
		decodes(t, other, api.Order{}, api.ErrText)
	}
	for _, text := range []string{"8200", "ffffffffffffffffff01", "808080808080808080808000"} {
		decodes(t, slices.Concat(b[:at], hexed(t, text), b[at+1:]), api.Order{}, api.ErrText)
	}
	// A number of more than 64 bits.
	decodes(t, slices.Concat([]byte{6, 1}, hexed(t, "ffffffffffffffffff02"), b[4:]), api.Order{}, api.ErrText)
	decodes(t, slices.Concat([]byte{6, 1}, hexed(t, "ffffffffffffffffffff01"), b[4:]), api.Order{}, api.ErrText)
}

// insteadOf is the order of bytes that have others instead of one, if they are an order's.
func insteadOf(b []byte, at int, others ...byte) api.Order {
	o, _ := orderOf(slices.Concat(b[:at], others, b[at+1:]))
	return o
}

// codeOf is OK, or ErrText of no order.
func codeOf(o api.Order) api.Errno {
	if o.Kind == 0 {
		return api.ErrText
	}
	return api.OK
}

// Or1: alike in all, or not; also of such as may not be. nil and the empty list are the same.
func TestSame(t *testing.T) {
	all := append(right(), wrong()...)
	for i, a := range all {
		for j, b := range all {
			if i%3 != 0 && j > 100 && i != j {
				continue
			}
			if Same(a, b) != (i == j || alike(a, b)) {
				t.Fatalf("Same(%+v, %+v): %v", a, b, Same(a, b))
			}
		}
	}
	none, empty := api.Order{Kind: 1}, api.Order{Kind: 1}
	empty.Call.Keys, empty.Groups, empty.Parcel.Holds, empty.Parcel.Marks = []string{}, []int{}, []api.Hold{}, []api.Mark{}
	if !Same(none, empty) || !Same(empty, none) || !Same(api.Order{}, api.Order{}) || Same(none, api.Order{}) {
		t.Error("Same of nil and empty lists, or of zero orders")
	}
}

// roomy is a list with room behind its end, that has what spoils.
func roomy[T any](spoils T, l ...T) []T {
	room := make([]T, len(l)+4)
	for i := range room {
		room[i] = spoils
	}
	copy(room, l)
	return room[:len(l)]
}

// spread is the order that has something everywhere, its lists with room behind their ends.
func spread() api.Order {
	o := hasAll()
	o.Call.Keys = roomy("spoils", o.Call.Keys...)
	o.Groups = roomy(99, o.Groups...)
	o.Parcel.Holds = roomy(api.Hold{Key: "spoils"}, o.Parcel.Holds...)
	o.Parcel.Marks = roomy(api.Mark{Key: "spoils"}, o.Parcel.Marks...)
	return o
}

// rooms tells whether what lies behind the ends of an order's lists is what it was.
func rooms(o api.Order) bool {
	behind := func(n, all int) bool { return all == n+4 }
	if !behind(len(o.Call.Keys), cap(o.Call.Keys)) || !behind(len(o.Groups), cap(o.Groups)) {
		return false
	}
	keys, groups := o.Call.Keys[:cap(o.Call.Keys)], o.Groups[:cap(o.Groups)]
	holds, marks := o.Parcel.Holds[:cap(o.Parcel.Holds)], o.Parcel.Marks[:cap(o.Parcel.Marks)]
	return keys[len(keys)-1] == "spoils" && keys[len(keys)-4] == "spoils" && groups[len(groups)-1] == 99 && groups[len(groups)-4] == 99 &&
		holds[len(holds)-1].Key == "spoils" && holds[len(holds)-4].Key == "spoils" &&
		marks[len(marks)-1].Key == "spoils" && marks[len(marks)-4].Key == "spoils"
}

// spoil turns all that an order's lists have, and what lies in their room.
func spoil(o api.Order) {
	groups := o.Groups[:cap(o.Groups)]
	for i := range groups {
		groups[i] = 77
	}
	keys := o.Call.Keys[:cap(o.Call.Keys)]
	for i := range keys {
		keys[i] = "spoilt"
	}
	holds := o.Parcel.Holds[:cap(o.Parcel.Holds)]
	for i := range holds {
		holds[i] = api.Hold{Key: "spoilt", Token: 77, Until: 77}
	}
	marks := o.Parcel.Marks[:cap(o.Parcel.Marks)]
	for i := range marks {
		marks[i] = api.Mark{Key: "spoilt", Token: 77}
	}
}

// R3: what is handed in stays as it is, with its room, and shares nothing with what is told.
func TestKept(t *testing.T) {
	o, other := spread(), spread()
	Check(o)
	b, _ := Encode(o)
	if !Same(o, other) || !alike(o, hasAll()) || !rooms(o) || !rooms(other) {
		t.Errorf("an order was turned: %+v", o)
	}
	spoil(o)
	if !bytes.Equal(b, hexed(t, allBytes)) {
		t.Errorf("bytes turned with their order: %x", b)
	}
	// The bytes of two answers share no room.
	again, _ := Encode(hasAll())
	for i := range b[:cap(b)] {
		b[:cap(b)][i] = 0xee
	}
	if !bytes.Equal(again, hexed(t, allBytes)) {
		t.Errorf("bytes turned with others: %x", again)
	}

	in := roomy(0xdd, again...)
	x, e := Decode(in)
	if e != api.OK || !bytes.Equal(in, again) || slices.ContainsFunc(in[len(in):cap(in)], func(d byte) bool { return d != 0xdd }) {
		t.Errorf("Decode turned its bytes: %x, error %d", in[:cap(in)], e)
	}
	y, _ := Decode(in)
	clear(in)
	if !alike(x, hasAll()) {
		t.Errorf("an order turned with its bytes: %+v", x)
	}
	spoil(x)
	if !alike(y, hasAll()) {
		t.Errorf("an order turned with another one: %+v", y)
	}
}
