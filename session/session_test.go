package session

import (
	"bytes"
	"fmt"
	"math"
	"slices"
	"strings"
	"testing"

	"gudgeon/api"
	"gudgeon/wire"
)

// The greatest Seq that may be.
const top = uint64(1) << 62

// The longest reply, and what is too long to be one.
var (
	longest = strings.Repeat("r", 4096)
	tooLong = strings.Repeat("r", 4097)
)

// of is a seat.
func of(client int, seq uint64, reply string) api.Seat {
	return api.Seat{Client: client, Seq: seq, Reply: []byte(reply)}
}

// list is seats.
func list(l ...api.Seat) []api.Seat {
	return l
}

// call is which call one is.
func call(client int, seq uint64) api.Id {
	return api.Id{Client: client, Seq: seq}
}

// all is a table of all clients, each with its own Seq and reply.
func all() []api.Seat {
	var l []api.Seat
	for client := range 8 {
		l = append(l, of(client, uint64(10*client+10), strings.Repeat("x", client)))
	}
	return l
}

// right is tables of seats.
func right() [][]api.Seat {
	return [][]api.Seat{
		nil, {}, list(of(0, 1, "")), list(of(7, top, longest)), list(of(3, 5, "x")), list(of(0, 9, "a"), of(1, 9, "a")),
		list(of(0, 1, ""), of(7, 1, "")), list(of(1, 300, "\x00"), of(3, 128, "\xff\x80"), of(6, 127, "abc")),
		list(of(2, top, ""), of(4, top-1, longest[:127]), of(5, 1, longest[:128])), all(),
	}
}

// wrong is lists that are no tables.
func wrong() [][]api.Seat {
	l := [][]api.Seat{
		list(of(0, 0, "")), list(of(8, 1, "")), list(of(-1, 1, "")), list(of(0, top+1, "")), list(of(0, 1, tooLong)),
		list(of(math.MaxInt, 1, "")), list(of(math.MinInt, 1, "")), list(of(1<<32, 1, "")), list(of(256, 1, "")), list(of(0, math.MaxUint64, "")),
		list(of(0, 1<<63, "")), list(of(0, 1, strings.Repeat("r", 1<<16))), list(of(0, 1, strings.Repeat("r", 1<<20))), list(api.Seat{}),
		list(of(1, 1, ""), of(1, 1, "")), list(of(1, 1, "a"), of(1, 2, "b")), list(of(1, 1, ""), of(0, 1, "")), list(of(7, 1, ""), of(0, 1, "")),
		list(of(0, 1, ""), of(2, 1, ""), of(1, 1, "")), list(of(0, 1, ""), of(1, 1, ""), of(0, 1, "")), append(all(), of(8, 1, "")),
		append(all(), of(7, 1, "")), append(all(), of(0, 1, "")), append(list(of(-1, 1, "")), all()...), slices.Repeat(list(of(3, 1, "")), 9),
	}
	// A seat that may not be, at each place of a table that is right but for it.
	for i := range 8 {
		for _, s := range []api.Seat{of(i, 0, ""), of(i, top+1, ""), of(i, 1, tooLong), of(-1, 1, ""), of(8, 1, "")} {
			turned := all()
			turned[i] = s
			l = append(l, turned)
		}
	}
	return l
}

// is tells whether a code is that.
func is(t *testing.T, what string, got, want api.Errno) {
	t.Helper()
	if got != want {
		t.Errorf("%s: error %d, not %d", what, got, want)
	}
}

// same tells whether seats are alike; a reply of nothing is nil or empty.
func same(a, b []api.Seat) bool {
	return slices.EqualFunc(a, b, func(p, q api.Seat) bool {
		return p.Client == q.Client && p.Seq == q.Seq && bytes.Equal(p.Reply, q.Reply)
	})
}

// tells tells whether seats and a code are those.
func tells(t *testing.T, what string, got []api.Seat, e api.Errno, want []api.Seat, code api.Errno) {
	t.Helper()
	if e != code || !same(got, want) {
		t.Errorf("%s: %v, error %d, not %v, error %d", what, got, e, want, code)
	}
}

// looks tells whether Look tells that.
func looks(t *testing.T, l []api.Seat, id api.Id, want string, finished bool, code api.Errno) {
	t.Helper()
	reply, done, e := Look(l, id)
	if string(reply) != want || done != finished || e != code {
		t.Errorf("Look(%v, %v): %q, %t, error %d, not %q, %t, error %d", l, id, reply, done, e, want, finished, code)
	}
}

// puts tells whether Put tells that.
func puts(t *testing.T, l []api.Seat, id api.Id, reply string, want []api.Seat, code api.Errno) {
	t.Helper()
	got, e := Put(l, id, []byte(reply))
	tells(t, fmt.Sprintf("Put(%v, %v, %.20q)", l, id, reply), got, e, want, code)
}

// Se1: what is a table, and what is none.
func TestCheck(t *testing.T) {
	for _, l := range right() {
		is(t, fmt.Sprintf("Check(%v)", l), Check(l), api.OK)
	}
	for _, l := range wrong() {
		is(t, fmt.Sprintf("Check(%v)", l), Check(l), api.ErrArg)
	}
	is(t, "Check of many", Check(make([]api.Seat, 1<<20)), api.ErrArg)
}

// Se1: the last call has its reply, a later one none, an earlier one is old.
func TestLook(t *testing.T) {
	l := list(of(1, 5, "x"), of(4, top, longest), of(6, 1, ""))
	looks(t, l, call(1, 5), "x", true, api.OK)
	looks(t, l, call(1, 4), "", false, api.ErrOld)
	looks(t, l, call(1, 1), "", false, api.ErrOld)
	looks(t, l, call(1, 6), "", false, api.OK)
	looks(t, l, call(1, top), "", false, api.OK)
	looks(t, l, call(4, top), longest, true, api.OK)
	looks(t, l, call(4, top-1), "", false, api.ErrOld)
	looks(t, l, call(4, 1), "", false, api.ErrOld)
	// A reply of nothing is one, too.
	looks(t, l, call(6, 1), "", true, api.OK)
	looks(t, l, call(6, 2), "", false, api.OK)
	for _, client := range []int{0, 2, 3, 5, 7} {
		for _, seq := range []uint64{1, 5, 6, top} {
			looks(t, l, call(client, seq), "", false, api.OK)
			looks(t, nil, call(client, seq), "", false, api.OK)
		}
	}
	for _, s := range all() {
		looks(t, all(), call(s.Client, s.Seq), string(s.Reply), true, api.OK)
		looks(t, all(), call(s.Client, s.Seq-1), "", false, api.ErrOld)
		looks(t, all(), call(s.Client, s.Seq+1), "", false, api.OK)
	}
}

// Se1: a new call has its client's seat; the others stay.
func TestPut(t *testing.T) {
	puts(t, nil, call(1, 5), "x", list(of(1, 5, "x")), api.OK)
	puts(t, nil, call(0, 1), "", list(of(0, 1, "")), api.OK)
	puts(t, nil, call(7, top), longest, list(of(7, top, longest)), api.OK)
	l := list(of(1, 5, "x"), of(4, 8, "y"))
	puts(t, l, call(0, 1), "z", list(of(0, 1, "z"), of(1, 5, "x"), of(4, 8, "y")), api.OK)
	puts(t, l, call(2, 1), "z", list(of(1, 5, "x"), of(2, 1, "z"), of(4, 8, "y")), api.OK)
	puts(t, l, call(7, 1), "z", list(of(1, 5, "x"), of(4, 8, "y"), of(7, 1, "z")), api.OK)
	puts(t, l, call(1, 6), "z", list(of(1, 6, "z"), of(4, 8, "y")), api.OK)
	puts(t, l, call(1, top), "", list(of(1, top, ""), of(4, 8, "y")), api.OK)
	puts(t, l, call(4, 9), "z", list(of(1, 5, "x"), of(4, 9, "z")), api.OK)
	for _, s := range all() {
		want := all()
		want[s.Client] = of(s.Client, s.Seq+1, "later")
		puts(t, all(), call(s.Client, s.Seq+1), "later", want, api.OK)
		without := slices.Delete(all(), s.Client, s.Client+1)
		puts(t, without, call(s.Client, s.Seq), string(s.Reply), all(), api.OK)
	}
}

// Se1: a call that is not new is not put, though its reply be the same.
func TestPutOld(t *testing.T) {
	l := list(of(1, 5, "x"), of(4, top, "y"))
	for _, reply := range []string{"", "x", "y", longest} {
		for _, id := range []api.Id{call(1, 5), call(1, 4), call(1, 1), call(4, top), call(4, top-1), call(4, 1)} {
			puts(t, l, id, reply, nil, api.ErrOld)
		}
	}
	for _, s := range all() {
		puts(t, all(), call(s.Client, s.Seq), string(s.Reply), nil, api.ErrOld)
		puts(t, all(), call(s.Client, s.Seq-1), "", nil, api.ErrOld)
	}
}

// calls is calls that may not be.
func calls() []api.Id {
	return []api.Id{
		{}, call(0, 0), call(7, 0), call(8, 1), call(-1, 1), call(0, top+1), call(0, math.MaxUint64), call(0, 1<<63),
		call(math.MaxInt, 1), call(math.MinInt, 1), call(1<<32, 1), call(8, 0), call(256, 5),
	}
}

// Se1: tables, calls and replies that may not be are refused, ahead of a call's being old.
func TestWrong(t *testing.T) {
	for _, l := range wrong() {
		for _, id := range append(calls(), call(0, 1), call(3, 5), call(7, top), call(1, 2)) {
			looks(t, l, id, "", false, api.ErrArg)
			puts(t, l, id, "x", nil, api.ErrArg)
		}
		if b, e := Encode(l); e != api.ErrArg || len(b) != 0 {
			t.Errorf("Encode(%v): %x, error %d", l, b, e)
		}
	}
	for _, l := range right() {
		for _, id := range calls() {
			looks(t, l, id, "", false, api.ErrArg)
			puts(t, l, id, "x", nil, api.ErrArg)
		}
	}
	l := list(of(1, 5, "x"))
	for _, reply := range []string{tooLong, strings.Repeat("r", 1<<16), strings.Repeat("r", 1<<20)} {
		for _, id := range []api.Id{call(1, 4), call(1, 5), call(1, 6), call(0, 1)} {
			puts(t, l, id, reply, nil, api.ErrArg)
			puts(t, nil, id, reply, nil, api.ErrArg)
		}
	}
	looks(t, make([]api.Seat, 1<<20), call(1, 1), "", false, api.ErrArg)
}

// bytesOf is seats' bytes, by the chapter's words, whether they are a table or not.
func bytesOf(l []api.Seat) []byte {
	b := wire.Uvarint(nil, uint64(len(l)))
	for _, s := range l {
		b = wire.Uvarint(b, uint64(s.Client))
		b = wire.Uvarint(b, s.Seq)
		b = wire.Bytes(b, s.Reply)
	}
	return b
}

// Se2: the bytes, to the letter.
func TestEncode(t *testing.T) {
	for _, c := range []struct {
		l    []api.Seat
		want string
	}{
		{nil, "\x00"}, {list(), "\x00"},
		{list(of(1, 5, "x")), "\x01\x01\x05\x01x"},
		{list(of(0, 1, "")), "\x01\x00\x01\x00"},
		{list(of(7, 300, "\x00\xff")), "\x01\x07\xac\x02\x02\x00\xff"},
		{list(of(2, top, "ab")), "\x01\x02\x80\x80\x80\x80\x80\x80\x80\x80\x40\x02ab"},
		{list(of(0, 127, "a"), of(3, 128, ""), of(6, 2, "bc")), "\x03\x00\x7f\x01a\x03\x80\x01\x00\x06\x02\x02bc"},
		{list(of(5, 9, longest)), "\x01\x05\x09\x80\x20" + longest},
		{list(of(5, 9, longest[:128]), of(7, 1, "z")), "\x02\x05\x09\x80\x01" + longest[:128] + "\x07\x01\x01z"},
	} {
		if b, e := Encode(c.l); string(b) != c.want || e != api.OK {
			t.Errorf("Encode(%v): %x, error %d, not %x", c.l, b, e, c.want)
		}
		got, e := Decode([]byte(c.want))
		tells(t, fmt.Sprintf("Decode(%x)", c.want), got, e, c.l, api.OK)
	}
}

// Se2: what was encoded is decoded.
func TestDecode(t *testing.T) {
	for _, l := range right() {
		b, e := Encode(l)
		if e != api.OK || string(b) != string(bytesOf(l)) {
			t.Errorf("Encode(%v): %x, error %d", l, b, e)
		}
		got, e := Decode(b)
		tells(t, fmt.Sprintf("Decode(%x)", b), got, e, l, api.OK)
	}
}

// illegible tells whether Decode tells ErrText of bytes.
func illegible(t *testing.T, b []byte) {
	t.Helper()
	got, e := Decode(b)
	tells(t, fmt.Sprintf("Decode(%x)", b), got, e, nil, api.ErrText)
}

// Se2: bytes that are no table's are refused.
func TestDecodeWrong(t *testing.T) {
	for _, l := range wrong() {
		illegible(t, bytesOf(l))
	}
	for _, text := range []string{
		"", "\x01", "\x80", "\x80\x00", "\x81\x00\x01\x05\x01x", "\x00\x00", "\x00\x01\x05\x01x", "\x02\x01\x05\x01x", "\x01\x01\x05\x01x\x00",
		"\x01\x81\x00\x05\x01x", "\x01\x01\x85\x00\x01x", "\x01\x01\x05\x81\x00x", "\x01\x01\x05\x02x", "\x01\x01\x05\x00x", "\x01\x01\x00\x01x",
		"\x01\x08\x05\x01x", "\x01\x80\x02\x05\x01x", "\x01\x81\x80\x80\x80\x10\x05\x01x", "\x01\xff\xff\xff\xff\xff\xff\xff\xff\xff\x01\x05\x01x",
		"\x01\x01\x81\x80\x80\x80\x80\x80\x80\x80\x40\x01x", "\x01\x01\xff\xff\xff\xff\xff\xff\xff\xff\xff\x01\x01x",
		"\x01\x01\xff\xff\xff\xff\xff\xff\xff\xff\xff\x02\x01x", "\x01\x01\x05\xff\xff\xff\xff\xff\xff\xff\xff\xff\x01x",
		"\x01\x01\x05\x81\x20" + tooLong, "\x01\x01\x05\x80\x20" + tooLong, "\x01\x01\x05\x80\x20" + longest[1:],
		"\x02\x01\x05\x01x\x01\x05\x01x", "\x02\x01\x05\x01x\x00\x05\x01x", "\x02\x01\x05\x01x\x01\x06\x01x",
		"\xff\xff\xff\xff\xff\xff\xff\xff\xff\x01", "\xff\xff\xff\xff\xff\xff\xff\xff\xff\x01\x01\x05\x01x", "\x09" + string(bytesOf(all())[1:]),
	} {
		illegible(t, []byte(text))
	}
	for _, l := range right() {
		b := bytesOf(l)
		for n := range min(len(b), 300) {
			illegible(t, b[:n])
			illegible(t, b[:len(b)-1-n])
		}
		for more := range 256 {
			illegible(t, append(slices.Clone(b), byte(more)))
		}
		illegible(t, slices.Concat(b, b))
	}
	illegible(t, make([]byte, 1<<20))
	illegible(t, bytes.Repeat([]byte{1}, 1<<20))
	illegible(t, bytes.Repeat([]byte{255}, 1<<20))
}

// again tells whether bytes are a table's that is encoded as they are, or refused whole.
func again(t *testing.T, b []byte) {
	t.Helper()
	l, e := Decode(b)
	if e != api.OK {
		tells(t, fmt.Sprintf("Decode(%x)", b), l, e, nil, api.ErrText)
		return
	}
	is(t, fmt.Sprintf("Check(%v)", l), Check(l), api.OK)
	if back, e := Encode(l); e != api.OK || string(back) != string(b) {
		t.Fatalf("Decode(%x): %v, which is encoded as %x, error %d", b, l, back, e)
	}
}

// Se2: whichever byte of a table's bytes is turned, they are another table's, or none's.
func TestDecodeTurned(t *testing.T) {
	for _, l := range [][]api.Seat{nil, all(), list(of(0, 1, "")), list(of(1, top, "abc"), of(2, 1<<30, longest[:130]))} {
		b := bytesOf(l)
		for i := range b {
			for to := range 256 {
				turned := slices.Clone(b)
				turned[i] = byte(to)
				again(t, turned)
				got, e := Decode(turned)
				if (e == api.OK && same(got, l)) != (turned[i] == b[i]) {
					t.Errorf("Decode(%x): %v", turned, got)
				}
			}
		}
	}
}

// Se2: all bytes.
func FuzzDecode(f *testing.F) {
	for _, l := range append(right(), wrong()...) {
		f.Add(bytesOf(l))
	}
	f.Fuzz(func(t *testing.T, b []byte) { again(t, b) })
}

// The chapter's example.
func TestExample(t *testing.T) {
	l, e := Put(nil, call(1, 5), []byte("x"))
	is(t, "Put", e, api.OK)
	looks(t, l, call(1, 5), "x", true, api.OK)
	looks(t, l, call(1, 4), "", false, api.ErrOld)
	looks(t, l, call(1, 6), "", false, api.OK)
}

// roomy is bytes with spare room that is not empty.
func roomy(text string) []byte {
	return append([]byte(text), "????????"...)[:len(text)]
}

// spoilBytes changes bytes, and the room behind them.
func spoilBytes(b []byte) {
	b = b[:cap(b)]
	for i := range b {
		b[i] = '!'
	}
}

// spoil changes seats with their replies, and the room behind all of them.
func spoil(l []api.Seat) {
	l = l[:cap(l)]
	for i := range l {
		spoilBytes(l[i].Reply)
		l[i] = of(-7, 99, "!!")
	}
}

// deep is a copy of seats, that shares no memory with them.
func deep(l []api.Seat) []api.Seat {
	var copied []api.Seat
	for _, s := range l {
		copied = append(copied, of(s.Client, s.Seq, string(s.Reply[:cap(s.Reply)])))
	}
	return copied
}

// whole is seats with the room behind them, and replies with theirs.
func whole(l []api.Seat) []api.Seat {
	var seen []api.Seat
	for _, s := range l[:cap(l)] {
		s.Reply = s.Reply[:cap(s.Reply)]
		seen = append(seen, s)
	}
	return seen
}

// table is three seats, with spare room behind them and behind their replies that is not empty; its first two replies share
// memory.
func table() []api.Seat {
	shared := roomy("abcdef")
	l := []api.Seat{
		{Client: 1, Seq: 5, Reply: shared}, {Client: 3, Seq: 7, Reply: shared[2:4]}, {Client: 5, Seq: 9, Reply: roomy("xyz")},
		{Client: 6, Seq: 1, Reply: roomy("behind")}, {Client: 7, Seq: 1, Reply: roomy("it")},
	}
	return l[:3]
}

// R3: what is handed in is not changed, nor what lies behind it, and no answer shares its memory, nor another answer's.
func TestMemory(t *testing.T) {
	for _, id := range []api.Id{call(0, 1), call(2, 1), call(6, 1), call(1, 6), call(3, 8), call(5, 10), call(5, 9), call(5, 8), call(8, 1)} {
		l, reply := table(), roomy("reply")
		first, e := Put(l, id, reply)
		second, _ := Put(l, id, reply)
		if !same(whole(l), whole(table())) || string(reply[:cap(reply)]) != string(roomy("reply")[:cap(reply)]) {
			t.Fatalf("Put of %v: changed what is handed in: %v, %q", id, l, reply)
		}
		want := deep(second)
		spoil(first)
		if !same(whole(l), whole(table())) || !same(deep(second), want) {
			t.Errorf("Put of %v: answers share their memory", id)
		}
		spoil(l)
		spoilBytes(reply)
		if !same(deep(second), want) {
			t.Errorf("Put of %v, error %d: an answer shares the arguments' memory", id, e)
		}
	}
}

// R3: no two replies of an answer share memory.
func TestMemoryOfReplies(t *testing.T) {
	l := table()
	put, _ := Put(l, call(4, 1), l[0].Reply)
	text, _ := Encode(put)
	decoded, _ := Decode(text)
	for _, answer := range [][]api.Seat{put, decoded} {
		for i := range answer {
			was := deep(answer)
			spoilBytes(answer[i].Reply)
			for j, s := range deep(answer) {
				if i != j && !bytes.Equal(s.Reply, was[j].Reply) {
					t.Errorf("replies %d and %d share memory: %v", i, j, answer)
				}
			}
		}
	}
}

// R3: what Look, Encode and Decode tell is new, and what is handed in stays.
func TestMemoryOfOthers(t *testing.T) {
	l := table()
	a, _, _ := Look(l, call(1, 5))
	b, _, _ := Look(l, call(1, 5))
	spoilBytes(a)
	if string(b) != "abcdef" || !same(whole(l), whole(table())) {
		t.Errorf("Look: %q, %v", b, l)
	}
	text, _ := Encode(l)
	twice, _ := Encode(l)
	want := string(bytesOf(table()))
	room := append(slices.Clone(text), "????"...)
	decoded, _ := Decode(room[:len(text)])
	if string(room) != want+"????" {
		t.Errorf("Decode changed what is handed in: %x", room)
	}
	spoilBytes(text)
	spoilBytes(room)
	if string(twice) != want || !same(decoded, table()) || !same(whole(l), whole(table())) {
		t.Errorf("Encode: %x; Decode: %v; of %v", twice, decoded, l)
	}
	spoil(l)
	if string(twice) != want || string(b) != "abcdef" {
		t.Errorf("Encode: %x, Look: %q: they share the argument's memory", twice, b)
	}
}
