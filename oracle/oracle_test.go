package oracle

import (
	"bytes"
	"fmt"
	"math"
	"slices"
	"testing"

	"gudgeon/api"
	"gudgeon/wire"
)

// The last token of all, as the chapter writes it.
const last = uint64(1<<64 - 1)

// of is a window that is not spent.
func of(next, limit uint64) api.Window {
	return api.Window{Next: next, Limit: limit}
}

// spent is a window of which there are no more tokens: the only one.
var spent = api.Window{Next: last, Limit: last, Spent: true}

// none is what is told beside an error.
var none = api.Window{}

// right is windows that may be.
func right() []api.Window {
	return []api.Window{
		of(1, 0), of(1, 1), of(1, 2), of(2, 1), of(2, 2), of(7, 6), of(7, 70), of(128, 127), of(127, 128), of(300, 16384),
		of(1<<32, 1<<32-1), of(1<<32-1, 1<<32), of(1<<63-1, 1<<63), of(1<<63, 1<<63-1), of(1<<63+1, 1<<63), of(1, 1<<63),
		of(1, last-1), of(1, last), of(2, last), of(1<<63, last), of(last-2, last-2), of(last-1, last-2), of(last-1, last-1), of(last-1, last),
		of(last, last-1), of(last, last), spent,
	}
}

// wrong is windows that may not be.
func wrong() []api.Window {
	l := []api.Window{
		none, of(0, 1), of(0, 5), of(0, 1<<63), of(0, last-1), of(0, last), of(2, 0), of(3, 1), of(3, 0), of(100, 98), of(1<<32, 1<<32-2),
		of(1<<63, 0), of(1<<63, 1<<63-2), of(last, 0), of(last, last-2), of(last-1, last-3), of(last, 1), of(last, 1<<63),
		{Spent: true}, {Limit: last, Spent: true}, {Next: last, Spent: true}, {Next: 1, Limit: 1 << 63, Spent: true},
	}
	// Spent, but tokens are there, or may still come.
	for _, w := range right() {
		if w != spent && w != of(last, last) {
			w.Spent = true
			l = append(l, w)
		}
	}
	return l
}

// is tells whether a code is that.
func is(t *testing.T, what string, got, want api.Errno) {
	t.Helper()
	if got != want {
		t.Errorf("%s: error %d, not %d", what, got, want)
	}
}

// tells tells whether a window and a code are those.
func tells(t *testing.T, what string, w api.Window, e api.Errno, want api.Window, code api.Errno) {
	t.Helper()
	if w != want || e != code {
		t.Errorf("%s: %v, error %d, not %v, error %d", what, w, e, want, code)
	}
}

// takes tells whether Take tells that.
func takes(t *testing.T, w, want api.Window, token uint64, code api.Errno) {
	t.Helper()
	got, n, e := Take(w)
	if got != want || n != token || e != code {
		t.Errorf("Take(%v): %v, %d, error %d, not %v, %d, error %d", w, got, n, e, want, token, code)
	}
}

// Or1: windows that may be, and those that may not.
func TestCheck(t *testing.T) {
	for _, w := range right() {
		is(t, fmt.Sprintf("Check(%v)", w), Check(w), api.OK)
	}
	for _, w := range wrong() {
		is(t, fmt.Sprintf("Check(%v)", w), Check(w), api.ErrArg)
	}
}

// Or1: all refuse a window that may not be, ahead of all else, and tell nothing.
func TestWindowsThatMayNotBe(t *testing.T) {
	for _, w := range wrong() {
		for _, n := range []int{math.MinInt, -1, 0, 1, 65536, 65537, math.MaxInt} {
			got, e := Extend(w, n)
			tells(t, fmt.Sprintf("Extend(%v, %d)", w, n), got, e, none, api.ErrArg)
		}
		takes(t, w, none, 0, api.ErrArg)
		got, e := Recover(w)
		tells(t, fmt.Sprintf("Recover(%v)", w), got, e, none, api.ErrArg)
		if n := Left(w); n != 0 {
			t.Errorf("Left(%v): %d", w, n)
		}
		if b, e := Encode(w); len(b) != 0 || e != api.ErrArg {
			t.Errorf("Encode(%v): %x, error %d", w, b, e)
		}
	}
}

// Or1: a new window has no tokens, and waits for some.
func TestNew(t *testing.T) {
	for _, next := range []uint64{1, 2, 3, 64, 127, 128, 1<<32 - 1, 1 << 32, 1<<63 - 1, 1 << 63, 1<<63 + 1, last - 1, last} {
		w, e := New(next)
		tells(t, fmt.Sprintf("New(%d)", next), w, e, of(next, next-1), api.OK)
		is(t, fmt.Sprintf("Check(%v)", w), Check(w), api.OK)
		if n := Left(w); n != 0 {
			t.Errorf("Left(%v): %d", w, n)
		}
		takes(t, w, none, 0, api.ErrWait)
	}
	w, e := New(0)
	tells(t, "New(0)", w, e, none, api.ErrArg)
}

// Or1: Limit is n more, and 2^64 - 1 at most; Next stays.
func TestExtend(t *testing.T) {
	for _, c := range []struct {
		w     api.Window
		n     int
		limit uint64
	}{
		{of(1, 0), 1, 1}, {of(1, 0), 2, 2}, {of(1, 0), 64, 64}, {of(1, 0), 65535, 65535}, {of(1, 0), 65536, 65536},
		{of(1, 1), 1, 2}, {of(5, 9), 3, 12}, {of(1, 65536), 65536, 131072}, {of(1, 1<<32-1), 1, 1 << 32}, {of(3, 1<<63-1), 2, 1<<63 + 1},
		{of(1, last-65536), 65536, last}, {of(1, last-65537), 65536, last - 1}, {of(1, last-65536), 65535, last - 1},
		{of(1, last-65535), 65536, last}, {of(1, last-2), 1, last - 1}, {of(1, last-2), 2, last}, {of(1, last-2), 3, last}, {of(1, last-2), 65536, last},
		{of(last-1, last-2), 1, last - 1}, {of(last, last-1), 1, last}, {of(last, last-1), 2, last}, {of(last, last-1), 65536, last},
	} {
		w, e := Extend(c.w, c.n)
		tells(t, fmt.Sprintf("Extend(%v, %d)", c.w, c.n), w, e, of(c.w.Next, c.limit), api.OK)
		is(t, fmt.Sprintf("Check(%v)", w), Check(w), api.OK)
		if got, want := Left(w)-Left(c.w), c.limit-c.w.Limit; got != want {
			t.Errorf("Extend(%v, %d): %d tokens more, not %d", c.w, c.n, got, want)
		}
	}
}

// Or1: no window is extended by other numbers, nor beyond the last token; that it's by another number is told first.
func TestExtendWrong(t *testing.T) {
	for _, w := range right() {
		for _, n := range []int{0, -1, -2, -65536, 65537, 65538, 1 << 17, 1 << 31, 1 << 32, 1<<32 + 1, math.MaxInt, math.MinInt, math.MinInt + 1} {
			got, e := Extend(w, n)
			tells(t, fmt.Sprintf("Extend(%v, %d)", w, n), got, e, none, api.ErrArg)
		}
	}
	for _, w := range []api.Window{of(1, last), of(2, last), of(1<<63, last), of(last-1, last), of(last, last), spent} {
		for _, n := range []int{1, 2, 64, 65535, 65536} {
			got, e := Extend(w, n)
			tells(t, fmt.Sprintf("Extend(%v, %d)", w, n), got, e, none, api.ErrExhausted)
		}
	}
}

// Or1: Next is taken, if it's one of the window's; behind the last token of all the window is spent.
func TestTake(t *testing.T) {
	for _, c := range []struct{ w, behind api.Window }{
		{of(1, 1), of(2, 1)}, {of(1, 2), of(2, 2)}, {of(2, 2), of(3, 2)}, {of(1, 65536), of(2, 65536)}, {of(7, 9), of(8, 9)},
		{of(1<<32-1, 1<<32-1), of(1<<32, 1<<32-1)}, {of(1<<63-1, 1<<63), of(1<<63, 1<<63)}, {of(1<<63, 1<<63), of(1<<63+1, 1<<63)},
		{of(1, last), of(2, last)}, {of(last-2, last), of(last-1, last)}, {of(last-1, last), of(last, last)},
		{of(last-1, last-1), of(last, last-1)}, {of(last, last), spent},
	} {
		takes(t, c.w, c.behind, c.w.Next, api.OK)
		is(t, fmt.Sprintf("Check(%v)", c.behind), Check(c.behind), api.OK)
	}
	for _, w := range []api.Window{of(1, 0), of(2, 1), of(3, 2), of(1<<32, 1<<32-1), of(1<<63, 1<<63-1), of(last-1, last-2), of(last, last-1)} {
		takes(t, w, none, 0, api.ErrWait)
	}
	takes(t, spent, none, 0, api.ErrExhausted)
}

// Or1: another leader hands none of the window's tokens out: any may have been.
func TestRecover(t *testing.T) {
	for _, c := range []struct{ w, want api.Window }{
		{of(1, 0), of(1, 0)}, {of(1, 1), of(2, 1)}, {of(1, 2), of(3, 2)}, {of(2, 2), of(3, 2)}, {of(3, 2), of(3, 2)}, {of(5, 64), of(65, 64)},
		{of(1, 1<<63-1), of(1<<63, 1<<63-1)}, {of(1, 1<<63), of(1<<63+1, 1<<63)}, {of(1, last-2), of(last-1, last-2)},
		{of(1, last-1), of(last, last-1)}, {of(last-1, last-1), of(last, last-1)}, {of(last, last-1), of(last, last-1)},
		{of(1, last), spent}, {of(2, last), spent}, {of(1<<63, last), spent}, {of(last-1, last), spent}, {of(last, last), spent}, {spent, spent},
	} {
		w, e := Recover(c.w)
		tells(t, fmt.Sprintf("Recover(%v)", c.w), w, e, c.want, api.OK)
		is(t, fmt.Sprintf("Check(%v)", w), Check(w), api.OK)
		if n := Left(w); n != 0 {
			t.Errorf("Left(%v): %d", w, n)
		}
		again, e := Recover(w)
		tells(t, fmt.Sprintf("Recover(%v)", w), again, e, c.want, api.OK)
	}
}

// Or1: how many tokens there are, from none to all that are.
func TestLeft(t *testing.T) {
	for _, c := range []struct {
		w    api.Window
		want uint64
	}{
		{of(1, 0), 0}, {of(1, 1), 1}, {of(1, 2), 2}, {of(2, 2), 1}, {of(3, 2), 0}, {of(1, 65536), 65536}, {of(1, 1<<32), 1 << 32},
		{of(1, 1<<63), 1 << 63}, {of(2, 1<<63), 1<<63 - 1}, {of(1<<63, last), 1 << 63}, {of(1, last-1), last - 1}, {of(1, last), last}, {of(2, last), last - 1},
		{of(last-1, last), 2}, {of(last-1, last-1), 1}, {of(last-1, last-2), 0}, {of(last, last-1), 0}, {of(last, last), 1}, {spent, 0},
	} {
		if n := Left(c.w); n != c.want {
			t.Errorf("Left(%v): %d, not %d", c.w, n, c.want)
		}
	}
}

// bytesOf is the bytes that the chapter says, of any window.
func bytesOf(w api.Window) []byte {
	b := wire.Uvarint(wire.Uvarint(nil, w.Next), w.Limit)
	if w.Spent {
		return append(b, 1)
	}
	return append(b, 0)
}

// Or2: the bytes, to the letter.
func TestEncode(t *testing.T) {
	const most = "\xff\xff\xff\xff\xff\xff\xff\xff\xff\x01"
	for _, c := range []struct {
		w    api.Window
		want string
	}{
		{of(1, 0), "\x01\x00\x00"}, {of(1, 1), "\x01\x01\x00"}, {of(2, 127), "\x02\x7f\x00"}, {of(128, 300), "\x80\x01\xac\x02\x00"},
		{of(1, 65536), "\x01\x80\x80\x04\x00"}, {of(1, last), "\x01" + most + "\x00"},
		{of(last, last-1), most + "\xfe" + most[1:] + "\x00"}, {of(last, last), most + most + "\x00"}, {spent, most + most + "\x01"},
	} {
		if b, e := Encode(c.w); string(b) != c.want || e != api.OK {
			t.Errorf("Encode(%v): %x, error %d, not %x", c.w, b, e, c.want)
		}
		w, e := Decode([]byte(c.want))
		tells(t, fmt.Sprintf("Decode(%x)", c.want), w, e, c.w, api.OK)
	}
}

// Or2: what was encoded is decoded.
func TestDecode(t *testing.T) {
	for _, w := range right() {
		b, e := Encode(w)
		if e != api.OK || string(b) != string(bytesOf(w)) {
			t.Errorf("Encode(%v): %x, error %d", w, b, e)
		}
		got, e := Decode(b)
		tells(t, fmt.Sprintf("Decode(%x)", b), got, e, w, api.OK)
	}
}

// illegible tells whether Decode tells ErrText of bytes.
func illegible(t *testing.T, b []byte) {
	t.Helper()
	w, e := Decode(b)
	tells(t, fmt.Sprintf("Decode(%x)", b), w, e, none, api.ErrText)
}

// Or2: bytes that are no window's are refused.
func TestDecodeWrong(t *testing.T) {
	for _, w := range wrong() {
		illegible(t, bytesOf(w))
	}
	const most = "\xff\xff\xff\xff\xff\xff\xff\xff\xff\x01"
	for _, text := range []string{
		"\x01\x01", "\x01\x01\x02", "\x01\x01\x80", "\x01\x01\x80\x00", "\x01\x01\xff", "\x81\x00\x01\x00", "\x01\x81\x00\x00", "\x80\x01\x01", "\x01\x01\x00\x00",
		"\x01\x01\x00\x01", "\x01\x01\x01\x01\x00", most + most, most + most + "\x02", most + most + "\x81\x00", most + most + "\x80\x02", most + most + most, most + most + "\xff",
		most + most + "\x80\x80\x80\x80\x80\x80\x80\x80\x80\x01", most + most + "\x81\x80\x80\x80\x80\x80\x80\x80\x80\x01", most + most + "\x01\x01", most + most + "\x00\x00",
		"\xff" + most + most + "\x01", most[:9] + "\x02" + most + "\x00", most + most[:9] + "\x02\x00", most + most[:9] + "\x03\x00", most + most[:9] + "\x7f\x00",
	} {
		illegible(t, []byte(text))
	}
	for _, w := range right() {
		b := bytesOf(w)
		for n := range b {
			illegible(t, b[:n])
		}
		for more := range 256 {
			illegible(t, append(slices.Clone(b), byte(more)))
			if more > 1 {
				illegible(t, append(slices.Clone(b[:len(b)-1]), byte(more)))
			}
		}
		illegible(t, slices.Concat(b, b))
	}
	illegible(t, nil)
	illegible(t, make([]byte, 1<<20))
	illegible(t, bytes.Repeat([]byte{1}, 1<<20))
	illegible(t, bytes.Repeat([]byte{255}, 1<<20))
}

// again tells whether bytes are a window's that is encoded as they are, or refused whole.
func again(t *testing.T, b []byte) {
	t.Helper()
	w, e := Decode(b)
	if e != api.OK {
		tells(t, fmt.Sprintf("Decode(%x)", b), w, e, none, api.ErrText)
		return
	}
	is(t, fmt.Sprintf("Check(%v)", w), Check(w), api.OK)
	if back, e := Encode(w); e != api.OK || string(back) != string(b) {
		t.Fatalf("Decode(%x): %v, which is encoded as %x, error %d", b, w, back, e)
	}
}

// Or2: whichever byte of a window's bytes is turned, they are another window's, or none's.
func TestDecodeTurned(t *testing.T) {
	for _, w := range right() {
		b := bytesOf(w)
		for i := range b {
			for to := range 256 {
				turned := slices.Clone(b)
				turned[i] = byte(to)
				again(t, turned)
				got, e := Decode(turned)
				if (e == api.OK && got == w) != (turned[i] == b[i]) {
					t.Errorf("Decode(%x): %v", turned, got)
				}
			}
		}
	}
}

// Or2: all bytes.
func FuzzDecode(f *testing.F) {
	for _, w := range append(right(), wrong()...) {
		f.Add(bytesOf(w))
	}
	f.Fuzz(func(t *testing.T, b []byte) { again(t, b) })
}

// The chapter's example.
func TestExample(t *testing.T) {
	w, e := New(1)
	is(t, "New", e, api.OK)
	w, e = Extend(w, 2)
	is(t, "Extend", e, api.OK)
	w, n, e := Take(w)
	if n != 1 || e != api.OK {
		t.Errorf("Take: %d, error %d", n, e)
	}
	w, e = Recover(w)
	is(t, "Recover", e, api.OK)
	w, e = Extend(w, 1)
	is(t, "Extend", e, api.OK)
	takes(t, w, of(4, 3), 3, api.OK)
}

// R3: what Encode tells is new, and Decode neither changes what it is given nor looks behind its end.
func TestMemory(t *testing.T) {
	for _, w := range right() {
		want := string(bytesOf(w))
		first, _ := Encode(w)
		second, _ := Encode(w)
		for i := range first[:cap(first)] {
			first[:cap(first)][i] = '!'
		}
		if string(second) != want {
			t.Errorf("Encode(%v): answers share their memory: %x", w, second)
		}
		room := append([]byte(want), "????"...)
		got, e := Decode(room[:len(want)])
		tells(t, fmt.Sprintf("Decode(%x)", want), got, e, w, api.OK)
		if string(room) != want+"????" {
			t.Errorf("Decode changed what is handed in: %x", room)
		}
		illegible(t, room[:len(want)-1])
	}
}
