package frame

import (
	"bytes"
	"hash/crc32"
	"math/rand"
	"testing"

	"gudgeon/api"
)

// words is a frame's bytes by the chapter's words, without the layers below.
func words(kind byte, b []byte) []byte {
	text := append([]byte{kind}, b...)
	var frame []byte
	n := len(text) + 4
	for ; n >= 128; n >>= 7 {
		frame = append(frame, byte(n)|128)
	}
	sum := crc32.ChecksumIEEE(text)
	frame = append(frame, byte(n), byte(sum>>24), byte(sum>>16), byte(sum>>8), byte(sum))
	return append(frame, text...)
}

// some are frames of sizes at which the number's form turns, and of others, the same in each run.
func some() (kinds []byte, data [][]byte) {
	r := rand.New(rand.NewSource(4))
	for _, size := range []int{0, 1, 2, 3, 7, 50, 121, 122, 123, 124, 0, 250, 1000, 0, 16377, 16378, 16379, 16380, 5} {
		b := make([]byte, size)
		r.Read(b)
		kinds, data = append(kinds, byte(r.Intn(256))), append(data, b)
	}
	return kinds, data
}

// refused tells whether Next tells that error, and nothing beside it.
func refused(t *testing.T, name string, b []byte, want api.Errno) {
	t.Helper()
	kind, data, n, e := Next(b)
	if e != want || kind != 0 || len(data) > 0 || n != 0 {
		t.Errorf("%s: kind %d, %d bytes, %d in all, error %d, not %d alone", name, kind, len(data), n, e, want)
	}
}

// Fr1: example 1, and others whose sums are known.
func TestPut(t *testing.T) {
	tests := []struct {
		kind        byte
		bytes, want string
	}{
		{7, "", "\x05\x4c\x66\x7a\x2e\x07"},
		{0, "", "\x05\xd2\x02\xef\x8d\x00"},
		{255, "", "\x05\xff\x00\x00\x00\xff"},
		{'a', "bc", "\x07\x35\x24\x41\xc2abc"},
		{'1', "23456789", "\x0d\xcb\xf4\x39\x26123456789"},
	}
	for _, c := range tests {
		b, e := Put(c.kind, []byte(c.bytes))
		if e != api.OK || string(b) != c.want || string(b) != string(words(c.kind, []byte(c.bytes))) {
			t.Errorf("Put(%d, %q): %x, error %d, not %x", c.kind, c.bytes, b, e, c.want)
		}
	}
	if b, e := Put(7, nil); e != api.OK || string(b) != tests[0].want {
		t.Errorf("Put(7, nil): %x, error %d", b, e)
	}
}

// Fr1: a frame is put and told at all sizes where its number's form turns, whatever stands behind it.
func TestNextOfPut(t *testing.T) {
	kinds, data := some()
	for i, kind := range kinds {
		b, e := Put(kind, data[i])
		if e != api.OK || !bytes.Equal(b, words(kind, data[i])) {
			t.Fatalf("%d bytes: not put as the words say, error %d", len(data[i]), e)
		}
		for _, behind := range []string{"", "\x00", "\x80\x80\x80\x80", string(b)} {
			k, d, n, e := Next(append(bytes.Clone(b), behind...))
			if e != api.OK || k != kind || n != len(b) || !bytes.Equal(d, data[i]) {
				t.Errorf("%d bytes ahead of %q: kind %d, %d bytes, %d in all, error %d", len(data[i]), behind, k, len(d), n, e)
			}
		}
	}
}

// Fr1: a body of MaxBytes may be, one of a byte more may not; nor one of many more.
func TestPutAtMost(t *testing.T) {
	most := bytes.Repeat([]byte("x"), api.MaxBytes-5)
	b, e := Put(9, most)
	if e != api.OK || len(b) != 3+api.MaxBytes || string(b[:3]) != "\x80\x80\x40" {
		t.Fatalf("the longest: %d bytes, error %d", len(b), e)
	}
	kind, data, n, e := Next(b)
	if e != api.OK || kind != 9 || n != len(b) || !bytes.Equal(data, most) {
		t.Errorf("the longest is told as %d bytes, error %d", len(data), e)
	}
	refused(t, "the longest without its last byte", b[:len(b)-1], api.ErrGap)
	for _, more := range []int{1, 2, 5, 6, api.MaxBytes} {
		if b, e := Put(9, make([]byte, len(most)+more)); e != api.ErrLong || len(b) > 0 {
			t.Errorf("%d bytes too many: %d bytes, error %d", more, len(b), e)
		}
	}
}

// Fr1: bytes that have more to come.
func TestNextGap(t *testing.T) {
	refused(t, "nil", nil, api.ErrGap)
	tests := []struct{ name, bytes string }{
		{"none", ""},
		{"one byte of a number", "\x80"},
		{"one byte of another", "\xff"},
		{"two bytes of a number", "\x80\x80"},
		{"two bytes of another", "\xff\xff"},
		{"two bytes that begin with less than 5", "\x81\x80"},
		{"the number 5 alone", "\x05"},
		{"the number 5, and four bytes", "\x05\xd2\x02\xef\x8d"},
		{"the number 5, and other four bytes", "\x05\xff\xff\xff\xff"},
		{"the number 127, and few bytes", "\x7f\x00"},
		{"the number 128 alone", "\x80\x01"},
		{"the number 16383 alone", "\xff\x7f"},
		{"the number 16384 alone", "\x80\x80\x01"},
		{"MaxBytes alone", "\x80\x80\x40"},
		{"one below MaxBytes, and bytes", "\xff\xff\x3fabcde"},
	}
	for _, c := range tests {
		refused(t, c.name, []byte(c.bytes), api.ErrGap)
	}
}

// Fr1: bytes that no frame begins with, whatever is to come.
func TestNextText(t *testing.T) {
	tests := []struct{ name, bytes string }{
		{"the number 0", "\x00"},
		{"the number 0, and bytes", "\x00\x00\x00\x00\x00\x00"},
		{"the number 1", "\x01\x00"},
		{"the number 4", "\x04"},
		{"the number 4, and the sum of none", "\x04\x00\x00\x00\x00"},
		{"0 in two bytes", "\x80\x00"},
		{"5 in two bytes", "\x85\x00"},
		{"5 in two bytes, and a body", "\x85\x00\xd2\x02\xef\x8d\x00"},
		{"5 in three bytes", "\x85\x80\x00"},
		{"127 in two bytes", "\xff\x00"},
		{"three bytes of a number", "\x80\x80\x80"},
		{"three bytes of another", "\xff\xff\xff"},
		{"three bytes that a 0 is behind", "\x85\x80\x80\x00"},
		{"four bytes of a number", "\x80\x80\x80\x80"},
		{"nine bytes of a number", "\x80\x80\x80\x80\x80\x80\x80\x80\x80"},
		{"one above MaxBytes", "\x81\x80\x40"},
		{"the greatest of three bytes", "\xff\xff\x7f"},
		{"the least of four bytes", "\x80\x80\x80\x01"},
		{"2^32 + 5", "\x85\x80\x80\x80\x10"},
		{"2^64 - 1", "\xff\xff\xff\xff\xff\xff\xff\xff\xff\x01"},
		{"2^64 + 5", "\x85\x80\x80\x80\x80\x80\x80\x80\x80\x02"},
		{"another sum", "\x05\xd2\x02\xef\x8d\x01"},
		{"a sum with the lowest first", "\x05\x8d\xef\x02\xd2\x00"},
		{"a sum behind the kind", "\x05\x00\xd2\x02\xef\x8d"},
		{"a body of one byte less than its number", "\x06\xd2\x02\xef\x8d\x00\x00"},
		{"a body of one byte more than its number", "\x06\x35\x24\x41\xc2abc"},
	}
	for _, c := range tests {
		refused(t, c.name, []byte(c.bytes), api.ErrText)
	}
	b := append([]byte("\x81\x80\x40"), make([]byte, api.MaxBytes+1)...)
	refused(t, "one above MaxBytes, and so many bytes", b, api.ErrText)
}

// Fr1: of all numbers of one to three bytes, alone: which are wrong, and which wait for their bodies.
func TestNextOfNumbersAlone(t *testing.T) {
	var b [3]byte
	for i := range 1 << 24 {
		b[0], b[1], b[2] = byte(i), byte(i>>8), byte(i>>16)
		size := 3
		if b[0] < 128 {
			size = 1
		} else if b[1] < 128 {
			size = 2
		}
		if size < 3 && b[2] != 0 {
			continue
		}
		value := int(b[0]%128) | int(b[1]%128)<<7 | int(b[2])<<14
		if size == 1 {
			value = int(b[0])
		} else if size == 2 {
			value = int(b[0]%128) | int(b[1])<<7
		}
		want := api.ErrGap
		if value < 5 || value > 1<<20 || b[2] >= 128 || size > 1 && b[size-1] == 0 {
			want = api.ErrText
		}
		if _, _, _, e := Next(b[:size]); e != want {
			t.Fatalf("Next(%x): error %d, not %d", b[:size], e, want)
		}
	}
}

// told tells whether All tells those frames and no other, and that error.
func told(t *testing.T, name string, b []byte, kinds []byte, data [][]byte, n int, want api.Errno) {
	t.Helper()
	k, d, size, e := All(b)
	if e != want || size != n || !bytes.Equal(k, kinds) || len(d) != len(data) {
		t.Fatalf("%s: %d kinds, %d lists, %d bytes, error %d; not %d frames, %d bytes, error %d",
			name, len(k), len(d), size, e, len(kinds), n, want)
	}
	for i := range d {
		if !bytes.Equal(d[i], data[i]) {
			t.Fatalf("%s: frame %d has other bytes", name, i)
		}
	}
}

// Fr2: frames up to the end, or to the first one that is not right or not whole, told beside the error.
func TestAll(t *testing.T) {
	one, two, three := words(7, nil), words(0, []byte("abc")), words(255, make([]byte, 200))
	wrong := bytes.Clone(two)
	wrong[8] ^= 1
	tests := []struct {
		name   string
		pieces [][]byte
		frames int
		want   api.Errno
	}{
		{"nothing", nil, 0, api.OK},
		{"one", [][]byte{one}, 1, api.OK},
		{"three", [][]byte{one, two, three}, 3, api.OK},
		{"three and a 0", [][]byte{one, two, three, {0}}, 3, api.ErrText},
		{"three and a number's beginning", [][]byte{one, two, three, {128}}, 3, api.ErrGap},
		{"three and a number", [][]byte{one, two, three, {5}}, 3, api.ErrGap},
		{"the last is cut", [][]byte{one, two, three[:len(three)-1]}, 2, api.ErrGap},
		{"the second is cut", [][]byte{one, two[:len(two)-1]}, 1, api.ErrGap},
		{"the second is turned", [][]byte{one, wrong, three}, 1, api.ErrText},
		{"the first is turned", [][]byte{wrong, one, three}, 0, api.ErrText},
		{"a number that is wrong alone", [][]byte{{4}}, 0, api.ErrText},
		{"a number's beginning alone", [][]byte{{128, 128}}, 0, api.ErrGap},
		{"another number ahead", [][]byte{one, {133, 0}, two}, 1, api.ErrText},
	}
	kinds, data := []byte{7, 0, 255}, [][]byte{nil, []byte("abc"), make([]byte, 200)}
	ends := []int{0, len(one), len(one) + len(two), len(one) + len(two) + len(three)}
	for _, c := range tests {
		told(t, c.name, bytes.Join(c.pieces, nil), kinds[:c.frames], data[:c.frames], ends[c.frames], c.want)
	}
	told(t, "nil", nil, nil, nil, 0, api.OK)
	told(t, "one twice", append(bytes.Clone(two), two...), []byte{0, 0}, [][]byte{data[1], data[1]}, 2*len(two), api.OK)
}

// Fr2: all frames' bytes, up to the shorter list's end; what is behind it may be too long.
func TestJoin(t *testing.T) {
	one, two := words(7, nil), words(1, []byte("abc"))
	both := append(bytes.Clone(one), two...)
	long := make([]byte, api.MaxBytes-4)
	tests := []struct {
		name  string
		kinds []byte
		data  [][]byte
		want  []byte
		e     api.Errno
	}{
		{"none", nil, nil, nil, api.OK},
		{"empty ones", []byte{}, [][]byte{}, nil, api.OK},
		{"kinds alone", []byte{1, 2}, nil, nil, api.OK},
		{"bytes alone", nil, [][]byte{{1}, {2}}, nil, api.OK},
		{"bytes alone, too long", nil, [][]byte{long}, nil, api.OK},
		{"two", []byte{7, 1}, [][]byte{nil, []byte("abc")}, both, api.OK},
		{"more kinds", []byte{7, 1, 9}, [][]byte{{}, []byte("abc")}, both, api.OK},
		{"more bytes", []byte{7}, [][]byte{nil, []byte("abc")}, one, api.OK},
		{"too long behind the end", []byte{7, 1}, [][]byte{nil, []byte("abc"), long}, both, api.OK},
		{"too long alone", []byte{7}, [][]byte{long}, nil, api.ErrLong},
		{"too long at the beginning", []byte{7, 1}, [][]byte{long, nil}, nil, api.ErrLong},
		{"too long at the end", []byte{7, 1}, [][]byte{nil, long}, nil, api.ErrLong},
		{"too long in the middle", []byte{7, 1, 2}, [][]byte{nil, long, nil}, nil, api.ErrLong},
	}
	for _, c := range tests {
		if b, e := Join(c.kinds, c.data); e != c.e || !bytes.Equal(b, c.want) {
			t.Errorf("%s: %d bytes, error %d, not %d bytes, error %d", c.name, len(b), e, len(c.want), c.e)
		}
	}
}

// Fr2, Fr3: frames that together are longer than one may be.
func TestJoinOfLongFrames(t *testing.T) {
	most := bytes.Repeat([]byte("y"), api.MaxBytes-5)
	kinds, data := []byte{1, 2, 3}, [][]byte{most, nil, most}
	b, e := Join(kinds, data)
	if e != api.OK || len(b) != 2*(api.MaxBytes+3)+6 {
		t.Fatalf("%d bytes, error %d", len(b), e)
	}
	told(t, "long frames", b, kinds, data, len(b), api.OK)
}

// Fr3: All of Join is what it was; of each beginning of it the frames that are whole, and OK or ErrGap.
func TestAllOfBeginnings(t *testing.T) {
	kinds, data := some()
	b, e := Join(kinds, data)
	if e != api.OK {
		t.Fatalf("Join: error %d", e)
	}
	told(t, "all", b, kinds, data, len(b), api.OK)
	kinds, data = kinds[:13], data[:13]
	b, _ = Join(kinds, data)
	whole, end := 0, 0
	for size := range len(b) + 1 {
		next := 0
		if whole < len(kinds) {
			next = len(words(kinds[whole], data[whole]))
		}
		if whole < len(kinds) && end+next == size {
			whole, end = whole+1, size
		}
		want := api.ErrGap
		if end == size {
			want = api.OK
		}
		told(t, "a beginning", b[:size], kinds[:whole], data[:whole], end, want)
	}
	if whole != len(kinds) {
		t.Fatalf("%d frames were whole", whole)
	}
}

// Fr3: a frame of which a bit is turned, or whose first bytes are lost, is not told as it was.
func TestTurnedFramesAreNotTold(t *testing.T) {
	kinds, data := some()
	for i, kind := range kinds[:13] {
		frame, _ := Put(kind, data[i])
		same := func(b []byte) bool {
			k, d, _, e := Next(b)
			return e == api.OK && k == kind && bytes.Equal(d, data[i])
		}
		for bit := range 8 * len(frame) {
			frame[bit/8] ^= 1 << (bit % 8)
			if same(frame) || same(append(bytes.Clone(frame), frame...)) {
				t.Fatalf("%d bytes: told with bit %d turned", len(data[i]), bit)
			}
			frame[bit/8] ^= 1 << (bit % 8)
		}
		for lost := 1; lost < len(frame); lost++ {
			if same(frame[lost:]) || same(append(bytes.Clone(frame[lost:]), frame[:lost]...)) {
				t.Fatalf("%d bytes: told without its first %d", len(data[i]), lost)
			}
		}
	}
}

// Fr1, Fr2, Fr3, R1: any bytes are read to an end; what is told is, joined again, what was read.
func FuzzAll(f *testing.F) {
	kinds, data := some()
	b, _ := Join(kinds[:12], data[:12])
	for _, s := range [][]byte{nil, {128}, {4}, b, b[:len(b)-1], b[1:]} {
		f.Add(s)
	}
	f.Fuzz(func(t *testing.T, b []byte) {
		kinds, data, n, e := All(b)
		again, wrong := Join(kinds, data)
		if wrong != api.OK || len(kinds) != len(data) || !bytes.Equal(again, b[:n]) {
			t.Fatalf("%d bytes are told as %d frames, %d bytes", len(b), len(kinds), n)
		}
		if (e == api.OK) != (n == len(b)) || e != api.OK && e != api.ErrGap && e != api.ErrText {
			t.Fatalf("%d bytes of %d: error %d", n, len(b), e)
		}
		if _, _, _, next := Next(b[n:]); e != api.OK && next != e {
			t.Fatalf("All tells error %d, Next %d", e, next)
		}
	})
}

// R3: what is handed in, and the room behind it, is not turned, and answers share no memory with it.
func TestPutAndJoinAreNewMemory(t *testing.T) {
	room := bytes.Repeat([]byte{0xee}, 400)
	given := room[:100]
	want := words(1, given)
	kinds := append(make([]byte, 0, 50), 1, 1)
	data := append(make([][]byte, 0, 50), given, given)
	put, _ := Put(1, given)
	joined, _ := Join(kinds, data)
	again, _ := Join(kinds, data)
	if bytes.Count(room, []byte{0xee}) != 400 || bytes.Count(kinds[:50], []byte{0}) != 48 {
		t.Fatal("what was given is turned")
	}
	for _, d := range data[2:50] {
		if d != nil {
			t.Fatal("room behind a list is turned")
		}
	}
	clear(room)
	clear(kinds)
	clear(again[:cap(again)])
	if !bytes.Equal(put, want) || !bytes.Equal(joined, append(bytes.Clone(want), want...)) {
		t.Error("an answer shares memory")
	}
}

// R3, Ways: what Next and All tell shares no memory with what was read, nor one list with another, with all
// the room that it has.
func TestNextAndAllAreNewMemory(t *testing.T) {
	kinds, data := some()
	b, _ := Join(kinds, data)
	room := append(bytes.Clone(b), bytes.Repeat([]byte{0xee}, 100)...)
	given := room[:len(b)]
	_, first, _, _ := Next(given)
	k, d, _, e := All(given)
	if e != api.OK || !bytes.Equal(given, b) || bytes.Count(room[len(b):], []byte{0xee}) != 100 {
		t.Fatal("what was given is turned")
	}
	clear(room)
	if !bytes.Equal(first, data[0]) || !bytes.Equal(k, kinds) {
		t.Error("an answer shares memory with what was read")
	}
	for i := range d {
		if !bytes.Equal(d[i], data[i]) {
			t.Fatalf("frame %d shares memory", i)
		}
		if cap(d[i]) != len(d[i]) {
			t.Errorf("frame %d has spare room", i)
		}
		clear(d[i])
	}
}
