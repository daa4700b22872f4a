package wire

import (
	"bytes"
	"math"
	"slices"
	"testing"

	"gudgeon/api"
)

// numbers are those at which the bytes of a number without sign grow, and those beside them.
func numbers() []uint64 {
	l := []uint64{0, 1, 2, 127, 128, 129, 255, 256, 299, 300, 301, math.MaxUint64 - 1, math.MaxUint64}
	for bit := range 64 {
		n := uint64(1) << bit
		l = append(l, n-1, n, n+1)
	}
	return l
}

// Wi1: the bytes of each kind, to the letter.
func TestWhatIsWritten(t *testing.T) {
	tests := []struct {
		name string
		got  []byte
		want string
	}{
		{"0", Uvarint(nil, 0), "\x00"},
		{"1", Uvarint(nil, 1), "\x01"},
		{"the last of one byte", Uvarint(nil, 127), "\x7f"},
		{"the first of two bytes", Uvarint(nil, 128), "\x80\x01"},
		{"300", Uvarint(nil, 300), "\xac\x02"},
		{"the last of two bytes", Uvarint(nil, 1<<14-1), "\xff\x7f"},
		{"the first of three bytes", Uvarint(nil, 1<<14), "\x80\x80\x01"},
		{"the last of nine bytes", Uvarint(nil, 1<<63-1), "\xff\xff\xff\xff\xff\xff\xff\xff\x7f"},
		{"the first of ten bytes", Uvarint(nil, 1<<63), "\x80\x80\x80\x80\x80\x80\x80\x80\x80\x01"},
		{"the greatest", Uvarint(nil, math.MaxUint64), "\xff\xff\xff\xff\xff\xff\xff\xff\xff\x01"},
		{"with sign 0", Varint(nil, 0), "\x00"},
		{"with sign -1", Varint(nil, -1), "\x01"},
		{"with sign 1", Varint(nil, 1), "\x02"},
		{"with sign -2", Varint(nil, -2), "\x03"},
		{"with sign 63", Varint(nil, 63), "\x7e"},
		{"with sign -64", Varint(nil, -64), "\x7f"},
		{"with sign 64", Varint(nil, 64), "\x80\x01"},
		{"with sign -65", Varint(nil, -65), "\x81\x01"},
		{"with sign the greatest", Varint(nil, math.MaxInt64), "\xfe\xff\xff\xff\xff\xff\xff\xff\xff\x01"},
		{"with sign the least", Varint(nil, math.MinInt64), "\xff\xff\xff\xff\xff\xff\xff\xff\xff\x01"},
		{"four bytes", Fixed4(nil, 0x04030201), "\x01\x02\x03\x04"},
		{"four bytes of 0", Fixed4(nil, 0), "\x00\x00\x00\x00"},
		{"four bytes, the greatest", Fixed4(nil, math.MaxUint32), "\xff\xff\xff\xff"},
		{"eight bytes", Fixed8(nil, 0x0807060504030201), "\x01\x02\x03\x04\x05\x06\x07\x08"},
		{"eight bytes of 0", Fixed8(nil, 0), "\x00\x00\x00\x00\x00\x00\x00\x00"},
		{"eight bytes, the greatest", Fixed8(nil, math.MaxUint64), "\xff\xff\xff\xff\xff\xff\xff\xff"},
		{"no bytes", Bytes(nil, nil), "\x00"},
		{"an empty list of bytes", Bytes(nil, []byte{}), "\x00"},
		{"bytes", Bytes(nil, []byte("ab")), "\x02ab"},
		{"bytes of any value", Bytes(nil, []byte("\x00\xff")), "\x02\x00\xff"},
		{"behind an empty list", Uvarint([]byte{}, 300), "\xac\x02"},
		{"behind bytes", Bytes(Fixed8(Fixed4(Varint(Uvarint([]byte("x"), 300), -1), 7), 8), []byte("ab")),
			"x\xac\x02\x01\x07\x00\x00\x00\x08\x00\x00\x00\x00\x00\x00\x00\x02ab"},
	}
	for _, c := range tests {
		if string(c.got) != c.want {
			t.Errorf("%s: %x, not %x", c.name, c.got, c.want)
		}
	}
	s := bytes.Repeat([]byte("z"), 300)
	if got := Bytes([]byte("x"), s); string(got) != "x\xac\x02"+string(s) {
		t.Errorf("300 bytes: %x", got)
	}
}

// writers are the functions that write, of the number n.
func writers(n uint64) []func(b []byte) []byte {
	return []func(b []byte) []byte{
		func(b []byte) []byte { return Uvarint(b, n) },
		func(b []byte) []byte { return Varint(b, int64(n)) },
		func(b []byte) []byte { return Fixed4(b, uint32(n)) },
		func(b []byte) []byte { return Fixed8(b, n) },
		func(b []byte) []byte { return Bytes(b, make([]byte, n%200)) },
	}
}

// Wi1, R3: what is there, and the room behind it, is neither turned nor handed out again.
func TestWritingGoesIntoRoomOfItsOwn(t *testing.T) {
	for _, n := range []uint64{0, 5, 127, 128, 199, math.MaxUint64} {
		for i, write := range writers(n) {
			for _, size := range []int{0, 1, 3, 64} {
				room := bytes.Repeat([]byte{0xee}, size+300)
				b := room[:size]
				one, two := write(b), write(b)
				for _, d := range room {
					if d != 0xee {
						t.Fatalf("writer %d of %d behind %d bytes turned what it was given", i, n, size)
					}
				}
				if !bytes.HasPrefix(one, b) || !bytes.Equal(one, two) || len(one) == size {
					t.Fatalf("writer %d of %d behind %d bytes: %x and %x", i, n, size, one, two)
				}
				clear(room)
				clear(two[:cap(two)])
				if !bytes.Equal(one, write(bytes.Repeat([]byte{0xee}, size))) {
					t.Fatalf("writer %d of %d behind %d bytes shares memory", i, n, size)
				}
				for _, d := range one[len(one):cap(one)] {
					if d == 0xee {
						t.Fatalf("writer %d of %d behind %d bytes: spare room with what others wrote", i, n, size)
					}
				}
			}
		}
	}
}

// Wi1, R3: the bytes that follow may be those that are there, or lie in the room behind them.
func TestBytesOfTheSameMemory(t *testing.T) {
	room := []byte("abcdefgh")
	if got := Bytes(room[:3], room[3:6]); string(got) != "abc\x03def" {
		t.Errorf("bytes out of the room behind: %q", got)
	}
	if got := Bytes(room[:3], room[:3]); string(got) != "abc\x03abc" {
		t.Errorf("bytes behind themselves: %q", got)
	}
	if string(room) != "abcdefgh" {
		t.Errorf("turned: %q", room)
	}
}

// readers are the methods that read; each tells whether it told a zero value.
func readers() []func(r *Reader) bool {
	return []func(r *Reader) bool{
		func(r *Reader) bool { return r.Uvarint() == 0 },
		func(r *Reader) bool { return r.Varint() == 0 },
		func(r *Reader) bool { return r.Fixed4() == 0 },
		func(r *Reader) bool { return r.Fixed8() == 0 },
		func(r *Reader) bool { return r.Byte() == 0 },
		func(r *Reader) bool { return r.Number(-1) == 0 },
		func(r *Reader) bool { return r.Number(math.MaxInt) == 0 },
		func(r *Reader) bool { return r.Number(0) == 0 },
		func(r *Reader) bool { return len(r.Bytes(-1)) == 0 },
		func(r *Reader) bool { return len(r.Bytes(math.MaxInt)) == 0 },
		func(r *Reader) bool { return len(r.Bytes(0)) == 0 },
	}
}

// stuck tells whether a reader is behind something wrong: nothing more is read, and nothing changes.
func stuck(t *testing.T, name string, r *Reader, code api.Errno, left int) {
	t.Helper()
	for i, read := range readers() {
		if !read(r) {
			t.Errorf("%s: reader %d tells something behind what was wrong", name, i)
		}
		if r.Err() != code || r.Done() != code || r.Left() != left {
			t.Errorf("%s: reader %d: Err %d, Done %d, Left %d; not %d, %d", name, i, r.Err(), r.Done(), r.Left(), code, left)
		}
	}
}

// Wi2: numbers in any form but their one, and too few bytes.
func TestNumbersThatCannotBeRead(t *testing.T) {
	tests := []struct{ name, bytes string }{
		{"nothing", ""},
		{"no last digit", "\x80"},
		{"no last digit of nine", "\xff\xff\xff\xff\xff\xff\xff\xff\xff"},
		{"two bytes of a 0", "\x80\x00"},
		{"two bytes of a 1", "\x81\x00"},
		{"a last digit 0 behind two", "\xff\xff\x00"},
		{"a last digit 0 of ten", "\xff\xff\xff\xff\xff\xff\xff\xff\xff\x00"},
		{"64 bits and one more", "\x80\x80\x80\x80\x80\x80\x80\x80\x80\x02"},
		{"64 bits and many more", "\xff\xff\xff\xff\xff\xff\xff\xff\xff\x7f"},
		{"eleven bytes", "\x80\x80\x80\x80\x80\x80\x80\x80\x80\x80\x01"},
		{"eleven bytes of a number that fits", "\x81\x80\x80\x80\x80\x80\x80\x80\x80\x81\x00"},
	}
	ask := []func(r *Reader) bool{
		func(r *Reader) bool { return r.Uvarint() == 0 },
		func(r *Reader) bool { return r.Varint() == 0 },
		func(r *Reader) bool { return r.Number(-1) == 0 },
		func(r *Reader) bool { return r.Number(0) == 0 },
		func(r *Reader) bool { return r.Number(math.MaxInt) == 0 },
		func(r *Reader) bool { return len(r.Bytes(-1)) == 0 },
		func(r *Reader) bool { return len(r.Bytes(0)) == 0 },
		func(r *Reader) bool { return len(r.Bytes(math.MaxInt)) == 0 },
	}
	for _, c := range tests {
		for i, read := range ask {
			r := Read([]byte(c.bytes))
			if !read(r) {
				t.Errorf("%s: reader %d tells something", c.name, i)
			}
			stuck(t, c.name, r, api.ErrText, len(c.bytes))
			// The place is where the number begins, not where the bytes do.
			r = Read([]byte("ab" + c.bytes))
			r.Byte()
			r.Byte()
			if !read(r) {
				t.Errorf("%s: reader %d tells something behind two bytes", c.name, i)
			}
			stuck(t, c.name, r, api.ErrText, len(c.bytes))
		}
	}
}

// Wi2: as many bytes as are asked for, or none of them.
func TestFixedAtTheEnd(t *testing.T) {
	for left := range 9 {
		b := []byte("xabcdefgh")[:1+left]
		for _, c := range []struct {
			size int
			read func(r *Reader) uint64
			want uint64
		}{
			{1, func(r *Reader) uint64 { return uint64(r.Byte()) }, 'a'},
			{4, func(r *Reader) uint64 { return uint64(r.Fixed4()) }, 0x64636261},
			{8, func(r *Reader) uint64 { return r.Fixed8() }, 0x6867666564636261},
		} {
			r := Read(b)
			if r.Byte() != 'x' {
				t.Fatal("the first byte")
			}
			got := c.read(r)
			if left < c.size {
				if got != 0 {
					t.Errorf("%d bytes of %d: %x", c.size, left, got)
				}
				stuck(t, "too few", r, api.ErrText, left)
				continue
			}
			if got != c.want || r.Err() != api.OK || r.Left() != left-c.size {
				t.Errorf("%d bytes of %d: %x, Err %d, Left %d", c.size, left, got, r.Err(), r.Left())
			}
		}
	}
}

// Wi2: Number at its bound, and beyond it.
func TestNumberAtMost(t *testing.T) {
	tests := []struct {
		n    uint64
		most int
		want int
		err  api.Errno
	}{
		{0, 0, 0, api.OK},
		{1, 0, 0, api.ErrLong},
		{299, 299, 299, api.OK},
		{300, 300, 300, api.OK},
		{300, 299, 0, api.ErrLong},
		{math.MaxInt, math.MaxInt, math.MaxInt, api.OK},
		{math.MaxInt, math.MaxInt - 1, 0, api.ErrLong},
		{math.MaxInt + 1, math.MaxInt, 0, api.ErrLong},
		{math.MaxUint64, math.MaxInt, 0, api.ErrLong},
		{math.MaxUint64, 0, 0, api.ErrLong},
	}
	for _, c := range tests {
		b := Uvarint(nil, c.n)
		r := Read(append(b, 'x'))
		if got := r.Number(c.most); got != c.want || r.Err() != c.err {
			t.Errorf("Number(%d) of %d: %d, %d; not %d, %d", c.most, c.n, got, r.Err(), c.want, c.err)
		}
		if c.err != api.OK {
			stuck(t, "too great a number", r, c.err, len(b)+1)
		} else if r.Left() != 1 || r.Byte() != 'x' {
			t.Errorf("Number(%d) of %d: it does not stand behind it", c.most, c.n)
		}
	}
}

// Wi2: Bytes at its bound, beyond it, and at the end.
func TestBytesAtMost(t *testing.T) {
	tests := []struct {
		name string
		b    string
		most int
		want string
		err  api.Errno
		left int
	}{
		{"none", "\x00", 0, "", api.OK, 0},
		{"none, and one behind", "\x00x", 0, "", api.OK, 1},
		{"as many as may be", "\x02abx", 2, "ab", api.OK, 1},
		{"fewer than may be", "\x02abx", 3, "ab", api.OK, 1},
		{"far fewer than may be", "\x02abx", math.MaxInt, "ab", api.OK, 1},
		{"more than may be", "\x02abx", 1, "", api.ErrLong, 4},
		{"more than none", "\x01ax", 0, "", api.ErrLong, 3},
		{"too few", "\x03ab", 3, "", api.ErrText, 3},
		{"too few, and far fewer than may be", "\x03ab", math.MaxInt, "", api.ErrText, 3},
		{"too few, and more than may be", "\x03ab", 2, "", api.ErrLong, 3},
		{"none of one", "\x01", 1, "", api.ErrText, 1},
		{"how many, in another form", "\x82\x00ab", 2, "", api.ErrText, 4},
		{"how many, in another form, and more than may be", "\x82\x00ab", 1, "", api.ErrText, 4},
		{"as many as an int can say", string(Uvarint(nil, math.MaxInt)) + "ab", math.MaxInt, "", api.ErrText, 11},
		{"as many as an int can say, and one more than may be", string(Uvarint(nil, math.MaxInt)) + "ab", math.MaxInt - 1, "", api.ErrLong, 11},
		{"more than an int can say", string(Uvarint(nil, math.MaxInt+1)) + "ab", math.MaxInt, "", api.ErrLong, 12},
		{"the most that can be said", string(Uvarint(nil, math.MaxUint64)) + "ab", math.MaxInt, "", api.ErrLong, 12},
	}
	for _, c := range tests {
		r := Read([]byte("y" + c.b))
		r.Byte()
		if got := r.Bytes(c.most); string(got) != c.want || r.Err() != c.err || r.Left() != c.left {
			t.Errorf("%s: %q, Err %d, Left %d; not %q, %d, %d", c.name, got, r.Err(), r.Left(), c.want, c.err, c.left)
		}
		if c.err != api.OK {
			stuck(t, c.name, r, c.err, c.left)
		}
	}
}

// Wi2: where most is below 0, any number is above it, 0 too; Uvarint and Varint have no such bound.
func TestMostBelowNothing(t *testing.T) {
	for _, most := range []int{-1, -2, -300, math.MinInt + 1, math.MinInt} {
		for _, n := range numbers() {
			b := Uvarint(nil, n)
			for _, behind := range []string{"", "x", "abcdefgh"} {
				all := string(b) + behind
				r := Read([]byte("y" + all))
				r.Byte()
				if got := r.Number(most); got != 0 {
					t.Errorf("Number(%d) of %d: %d", most, n, got)
				}
				stuck(t, "a number above one below 0", r, api.ErrLong, len(all))
				r = Read([]byte("y" + all))
				r.Byte()
				if got := r.Bytes(most); len(got) != 0 {
					t.Errorf("Bytes(%d), %d of them: %q", most, n, got)
				}
				stuck(t, "bytes more than some below 0", r, api.ErrLong, len(all))
			}
			if r := Read(b); r.Uvarint() != n || r.Done() != api.OK {
				t.Errorf("Uvarint of %d: Done %d", n, r.Done())
			}
			if r := Read(Varint(nil, int64(n))); r.Varint() != int64(n) || r.Done() != api.OK {
				t.Errorf("Varint of %d: Done %d", int64(n), r.Done())
			}
		}
	}
}

// Wi2: Done is of what was wrong, then of what is left; it is no reading.
func TestDone(t *testing.T) {
	r := Read([]byte("ab"))
	for left := 2; left > 0; left-- {
		if r.Done() != api.ErrText || r.Err() != api.OK || r.Left() != left {
			t.Errorf("%d left: Done %d, Err %d, Left %d", left, r.Done(), r.Err(), r.Left())
		}
		r.Byte()
	}
	if r.Done() != api.OK || r.Err() != api.OK || r.Left() != 0 {
		t.Errorf("at the end: Done %d, Err %d, Left %d", r.Done(), r.Err(), r.Left())
	}
	r.Byte()
	stuck(t, "behind the end", r, api.ErrText, 0)
	r = Read([]byte{0xac, 2})
	r.Number(299)
	stuck(t, "the document's example", r, api.ErrLong, 2)
}

// Wi2: readers of nothing: of nil, of no bytes, and those that no call made.
func TestReadersOfNothing(t *testing.T) {
	var none *Reader
	stuck(t, "a nil reader", none, api.ErrText, 0)
	for name, r := range map[string]*Reader{"nil": Read(nil), "empty": Read([]byte{}), "zero": {}} {
		if r.Err() != api.OK || r.Done() != api.OK || r.Left() != 0 {
			t.Errorf("%s: Err %d, Done %d, Left %d", name, r.Err(), r.Done(), r.Left())
		}
		stuck(t, name, failed(r), api.ErrText, 0)
	}
}

func failed(r *Reader) *Reader {
	r.Byte()
	return r
}

// R3: a reader keeps nothing that was handed in, and what it tells is nobody else's.
func TestReaderMemory(t *testing.T) {
	room := []byte("\x02ab\x02cdefgh")
	r := Read(room[:6])
	clear(room)
	one := r.Bytes(2)
	if string(one) != "ab" {
		t.Fatalf("what is read was turned from outside: %q", one)
	}
	for i := range one[:cap(one)] {
		one[:cap(one)][i] = 0xee
	}
	if two := r.Bytes(2); string(two) != "cd" || r.Done() != api.OK {
		t.Errorf("what is read was turned by an answer: %q", two)
	}
	if string(room) != "\x00\x00\x00\x00\x00\x00\x00\x00\x00\x00" {
		t.Errorf("reading turned what was handed in: %q", room)
	}
	b := Bytes(nil, []byte("ab"))
	first, again := Read(b).Bytes(2), Read(b).Bytes(2)
	clear(first[:cap(first)])
	if string(again) != "ab" || string(b) != "\x02ab" {
		t.Errorf("two readers share: %q, %q", again, b)
	}
}

// Wi3: what was written one behind the other is read back, and Done is OK.
func TestWrittenIsReadBack(t *testing.T) {
	var b []byte
	l := numbers()
	for _, n := range l {
		b = Fixed8(Fixed4(Varint(Varint(Uvarint(b, n), int64(n)), -int64(n)), uint32(n)), n)
		b = Uvarint(Bytes(b, bytes.Repeat([]byte{byte(n)}, int(n%301))), n/2)
	}
	r := Read(b)
	for _, n := range l {
		s := bytes.Repeat([]byte{byte(n)}, int(n%301))
		if r.Uvarint() != n || r.Varint() != int64(n) || r.Varint() != -int64(n) || r.Fixed4() != uint32(n) || r.Fixed8() != n ||
			!bytes.Equal(r.Bytes(len(s)), s) || r.Number(int(n/2)) != int(n/2) {
			t.Fatalf("%d was not read back", n)
		}
	}
	if r.Done() != api.OK || r.Left() != 0 {
		t.Errorf("Done %d, Left %d", r.Done(), r.Left())
	}
}

// kinds are reading and writing again, of each kind.
func kinds() []func(r *Reader, b []byte) []byte {
	return []func(r *Reader, b []byte) []byte{
		func(r *Reader, b []byte) []byte { return Uvarint(b, r.Uvarint()) },
		func(r *Reader, b []byte) []byte { return Varint(b, r.Varint()) },
		func(r *Reader, b []byte) []byte { return Fixed4(b, r.Fixed4()) },
		func(r *Reader, b []byte) []byte { return Fixed8(b, r.Fixed8()) },
		func(r *Reader, b []byte) []byte { return append(b, r.Byte()) },
		func(r *Reader, b []byte) []byte { return Uvarint(b, uint64(r.Number(math.MaxInt))) },
		func(r *Reader, b []byte) []byte { return Bytes(b, r.Bytes(math.MaxInt)) },
	}
}

// rewrite holds Wi3 against any bytes: what is read, written again, is just the bytes that were read.
func rewrite(t *testing.T, b []byte) {
	for i, turn := range kinds() {
		r := Read(b)
		var again []byte
		for {
			next := turn(r, again)
			if r.Err() != api.OK {
				break
			}
			again = next
			if !bytes.Equal(again, b[:len(b)-r.Left()]) {
				t.Fatalf("kind %d of %x: written again as %x, Left %d", i, b, again, r.Left())
			}
		}
		if len(again)+r.Left() != len(b) {
			t.Fatalf("kind %d of %x: the place moved by what could not be read: Left %d behind %x", i, b, r.Left(), again)
		}
	}
}

// Wi3: all lists of up to two bytes, and those about the ends of long numbers.
func TestReadIsWrittenAgain(t *testing.T) {
	for x := range 1 << 8 {
		rewrite(t, []byte{byte(x)})
		for y := range 1 << 8 {
			rewrite(t, []byte{byte(x), byte(y)})
			rewrite(t, append(bytes.Repeat([]byte{0x80}, 8), byte(x), byte(y)))
		}
	}
	var all []byte
	for _, n := range numbers() {
		all = append(all, Uvarint(nil, n)...)
	}
	for i := range all {
		rewrite(t, all[i:])
	}
}

// Wi2: a number without sign has one form, of as many digits as it needs and no more.
func TestOneForm(t *testing.T) {
	for _, n := range numbers() {
		b := Uvarint(nil, n)
		long := slices.Clone(b)
		long[len(long)-1] |= 128
		for size := range 3 {
			r := Read(append(slices.Clone(long), append(make([]byte, size), 0)...))
			if r.Uvarint() != 0 || r.Err() != api.ErrText {
				t.Errorf("%d is read out of %d bytes, too", n, len(b)+1)
			}
		}
		for size := range b {
			r := Read(b[:size])
			if r.Uvarint() != 0 || r.Err() != api.ErrText || r.Left() != size {
				t.Errorf("%d is read out of its first %d bytes", n, size)
			}
		}
	}
}

// Wi3: of any bytes.
func FuzzReadIsWrittenAgain(f *testing.F) {
	f.Add([]byte("\xac\x02\x01\x07\x00\x00\x00\x02ab"))
	f.Add([]byte("\xff\xff\xff\xff\xff\xff\xff\xff\xff\x01\x80\x00"))
	f.Fuzz(rewrite)
}
