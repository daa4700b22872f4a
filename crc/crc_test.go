package crc

import (
	"bytes"
	"hash/crc32"
	"math/bits"
	"math/rand"
	"testing"
)

// slow is the sum by the chapter's words, bit for bit.
func slow(b []byte) uint32 {
	n := ^uint32(0)
	for _, d := range b {
		for bit := range 8 {
			high := n >> 31
			n <<= 1
			if high != uint32(d>>bit)&1 {
				n ^= 0x04C11DB7
			}
		}
	}
	return ^bits.Reverse32(n)
}

// some are bytes of each size up to the most, of any values, the same in each run.
func some(most int) [][]byte {
	r := rand.New(rand.NewSource(3))
	l := make([][]byte, most+1)
	for size := range l {
		l[size] = make([]byte, size)
		r.Read(l[size])
	}
	return l
}

// Cr1: sums that are known.
func TestOf(t *testing.T) {
	tests := []struct {
		bytes string
		want  uint32
	}{
		{"", 0},
		{"\x00", 0xD202EF8D},
		{"\x00\x00\x00\x00", 0x2144DF1C},
		{"\xff", 0xFF000000},
		{"\xff\xff\xff\xff", 0xFFFFFFFF},
		{"a", 0xE8B7BE43},
		{"abc", 0x352441C2},
		{"123456789", 0xCBF43926},
		{"The quick brown fox jumps over the lazy dog", 0x414FA339},
	}
	for _, c := range tests {
		if got := Of([]byte(c.bytes)); got != c.want {
			t.Errorf("the sum of %q: %08X, not %08X", c.bytes, got, c.want)
		}
	}
	if Of(nil) != Of([]byte{}) {
		t.Error("the sums of nil and of the empty list are unlike")
	}
}

// Cr1: the sum of each byte, and of bytes of many sizes, is as the chapter says it bit for bit.
func TestOfAsTheWordsSay(t *testing.T) {
	for d := range 256 {
		b := []byte{byte(d)}
		if got, want := Of(b), slow(b); got != want {
			t.Errorf("the sum of %x: %08X, not %08X", b, got, want)
		}
	}
	for _, b := range some(600) {
		if got, want := Of(b), slow(b); got != want || got != crc32.ChecksumIEEE(b) {
			t.Errorf("the sum of %d bytes: %08X, not %08X", len(b), got, want)
		}
	}
	long := bytes.Repeat([]byte("gudgeon\x00\xff"), 1<<17)
	if got, want := Of(long), slow(long); got != want {
		t.Errorf("the sum of %d bytes: %08X, not %08X", len(long), got, want)
	}
}

// Cr1: bytes that go on, wherever they are cut, and in how many pieces.
func TestStep(t *testing.T) {
	for _, b := range some(70) {
		want, bytewise := slow(b), Of(nil)
		for cut := range len(b) + 1 {
			if got := Step(Of(b[:cut]), b[cut:]); got != want {
				t.Errorf("%d bytes and %d: %08X, not %08X", cut, len(b)-cut, got, want)
			}
		}
		for i := range b {
			bytewise = Step(bytewise, b[i:i+1])
		}
		if bytewise != want {
			t.Errorf("%d bytes, one by one: %08X, not %08X", len(b), bytewise, want)
		}
	}
}

// Cr1: any number is the sum of some bytes; behind it bytes go on as behind those.
func TestStepFromAnySum(t *testing.T) {
	for _, sum := range []uint32{0, 1, 0x7FFFFFFF, 0x80000000, 0xCBF43926, 0xFFFFFFFE, 0xFFFFFFFF} {
		if Step(sum, nil) != sum || Step(sum, []byte{}) != sum {
			t.Errorf("no bytes turn the sum %08X", sum)
		}
		for _, b := range some(40) {
			if got, want := Step(sum, b), crc32.Update(sum, crc32.IEEETable, b); got != want {
				t.Errorf("%d bytes behind %08X: %08X, not %08X", len(b), sum, got, want)
			}
		}
	}
}

// Cr1: sums are alike of the same bytes, of some that are unlike, and of few.
func TestSame(t *testing.T) {
	// The last four bytes bring each one's sum to 0, that of no bytes.
	one, two := []byte("a\xde\xb4\x6e\x85"), []byte("b\x64\xe5\x67\x1c")
	tests := []struct {
		name string
		a, b []byte
		want bool
	}{
		{"none", nil, nil, true},
		{"nil and the empty list", nil, []byte{}, true},
		{"the same", []byte("123456789"), []byte("123456789"), true},
		{"another last byte", []byte("123456789"), []byte("123456788"), false},
		{"one byte less", []byte("123456789"), []byte("12345678"), false},
		{"a 0 more", []byte("a"), []byte("a\x00"), false},
		{"none, and a 0", nil, []byte{0}, false},
		{"another order", []byte("ab"), []byte("ba"), false},
		{"unlike bytes of one sum", one, two, true},
		{"none, and bytes of its sum", nil, one, true},
	}
	for _, c := range tests {
		if Same(c.a, c.b) != c.want || Same(c.b, c.a) != c.want {
			t.Errorf("%s: %v", c.name, !c.want)
		}
	}
}

// Cr2: the sum in four bytes, the highest first; behind it the bytes.
func TestSeal(t *testing.T) {
	tests := []struct{ bytes, want string }{
		{"", "\x00\x00\x00\x00"},
		{"\x00", "\xd2\x02\xef\x8d\x00"},
		{"abc", "\x35\x24\x41\xc2abc"},
		{"123456789", "\xcb\xf4\x39\x26123456789"},
		{"a\xde\xb4\x6e\x85", "\x00\x00\x00\x00a\xde\xb4\x6e\x85"},
	}
	for _, c := range tests {
		if got := Seal([]byte(c.bytes)); string(got) != c.want {
			t.Errorf("%q is sealed as %x, not %x", c.bytes, got, c.want)
		}
		if got, ok := Open([]byte(c.want)); !ok || string(got) != c.bytes {
			t.Errorf("%x is opened as %q, %v, not %q", c.want, got, ok, c.bytes)
		}
	}
	if got := Seal(nil); string(got) != "\x00\x00\x00\x00" {
		t.Errorf("nil is sealed as %x", got)
	}
}

// Cr2: what is sealed is opened, at all sizes; once and again.
func TestOpenWhatIsSealed(t *testing.T) {
	for _, b := range some(600) {
		sealed := Seal(b)
		if len(sealed) != len(b)+4 {
			t.Fatalf("%d bytes are sealed as %d", len(b), len(sealed))
		}
		if got, ok := Open(sealed); !ok || !bytes.Equal(got, b) {
			t.Fatalf("%d bytes are not opened as they were: %v", len(b), ok)
		}
		twice, ok := Open(Seal(sealed))
		if !ok || !bytes.Equal(twice, sealed) {
			t.Fatalf("%d bytes, sealed twice, are not opened as they were sealed once: %v", len(b), ok)
		}
	}
}

// refused tells whether bytes are not opened, and nothing is told beside the false.
func refused(t *testing.T, name string, b []byte) {
	t.Helper()
	if got, ok := Open(b); ok || len(got) > 0 {
		t.Errorf("%s: opened as %x, %v", name, got, ok)
	}
}

// Cr2: bytes that no sum, or another one, stands ahead of.
func TestOpenRefuses(t *testing.T) {
	tests := []struct{ name, bytes string }{
		{"nothing", ""},
		{"one byte", "\x00"},
		{"two bytes", "\x00\x00"},
		{"three bytes", "\x00\x00\x00"},
		{"four bytes that are not the sum of none", "\x00\x00\x00\x01"},
		{"all ones ahead of none", "\xff\xff\xff\xff"},
		{"no sum", "123456789"},
		{"a sum with the lowest first", "\x26\x39\xf4\xcb123456789"},
		{"a sum whose bits were not turned", "\x34\x0b\xc6\xd9123456789"},
		{"a sum behind the bytes", "123456789\xcb\xf4\x39\x26"},
		{"one byte less", "\xcb\xf4\x39\x2612345678"},
		{"one byte more", "\xcb\xf4\x39\x26123456789\x00"},
		{"a byte ahead", "\x00\xcb\xf4\x39\x26123456789"},
		{"the sum alone", "\xcb\xf4\x39\x26"},
	}
	refused(t, "nil", nil)
	for _, c := range tests {
		refused(t, c.name, []byte(c.bytes))
	}
}

// Cr2: any bit that is turned, in the sum or behind it; any piece that is cut off.
func TestOpenRefusesWhatWasTurned(t *testing.T) {
	for _, b := range some(40) {
		sealed := Seal(b)
		for bit := range 8 * len(sealed) {
			sealed[bit/8] ^= 1 << (bit % 8)
			refused(t, "a turned bit", sealed)
			sealed[bit/8] ^= 1 << (bit % 8)
		}
		for size := range len(sealed) {
			// No bytes behind a sum of 0 are right ones.
			if size != 4 || Of(b) != 0 {
				refused(t, "a cut end", sealed[:size])
			}
		}
	}
}

// Cr2, R3: what is handed in, and the room behind it, is neither turned nor handed out again.
func TestAnswersAreNewMemory(t *testing.T) {
	for _, b := range some(80) {
		room := append(bytes.Clone(b), bytes.Repeat([]byte{0xee}, 300)...)
		given := room[:len(b)]
		sealed, again := Seal(given), Seal(given)
		opened, ok := Open(again)
		want := bytes.Clone(again)
		if !ok || !bytes.Equal(given, b) || bytes.Count(room[len(b):], []byte{0xee}) != 300 {
			t.Fatalf("%d bytes: what was given is turned", len(b))
		}
		clear(room)
		clear(sealed[:cap(sealed)])
		if !bytes.Equal(again, want) {
			t.Fatalf("%d bytes: what is sealed shares memory", len(b))
		}
		clear(again[:cap(again)])
		if !bytes.Equal(opened, b) {
			t.Fatalf("%d bytes: what is opened shares memory", len(b))
		}
		for _, d := range opened[len(opened):cap(opened)] {
			if d != 0 {
				t.Fatalf("%d bytes: spare room with what others wrote", len(b))
			}
		}
	}
}

// R3: sums of bytes turn nothing.
func TestSumsTurnNothing(t *testing.T) {
	room := bytes.Repeat([]byte{0xee}, 100)
	Of(room[:50])
	Step(7, room[:50])
	Same(room[:50], room[20:60])
	Open(room[:50])
	if bytes.Count(room, []byte{0xee}) != 100 {
		t.Error("what was given is turned")
	}
}

// turned is bytes with some bits turned.
func turned(b []byte, which ...int) []byte {
	c := bytes.Clone(b)
	for _, bit := range which {
		c[bit/8] ^= 1 << (bit % 8)
	}
	return c
}

// Cr3: one, two or three bits, wherever they stand in 256 bytes. What a bit turns in the sum hangs on how many
// bytes are behind it alone, and bits turn it each on its own (the next test); so no bit may turn nothing, no
// two the same, and no two together what a third one does. In fewer bytes the bits are the last ones of these.
func TestNoThreeBitsCancel(t *testing.T) {
	b := make([]byte, 256)
	sum := Of(b)
	by := map[uint32]int{}
	var turns []uint32
	for bit := range 8 * len(b) {
		turn := sum ^ Of(turned(b, bit))
		if turn == 0 {
			t.Fatalf("bit %d does not turn the sum", bit)
		}
		if other, ok := by[turn]; ok {
			t.Fatalf("bits %d and %d cancel", other, bit)
		}
		by[turn] = bit
		turns = append(turns, turn)
	}
	for i, one := range turns {
		for j, two := range turns[:i] {
			if k, ok := by[one^two]; ok {
				t.Fatalf("bits %d, %d and %d cancel", i, j, k)
			}
		}
	}
}

// Cr3: in bytes of any values, of all sizes up to 256; and each bit turns the sum on its own.
func TestFewBitsTurnTheSum(t *testing.T) {
	r := rand.New(rand.NewSource(4))
	for _, b := range some(256)[1:] {
		for range 200 {
			i, j, k := r.Intn(8*len(b)), r.Intn(8*len(b)), r.Intn(8*len(b))
			one, two, three := turned(b, i), turned(b, j), turned(b, k)
			if i == j || j == k || i == k {
				continue
			}
			all := turned(b, i, j, k)
			if Same(b, one) || Same(b, turned(b, i, j)) || Same(b, all) {
				t.Fatalf("%d bytes: bits %d, %d, %d do not turn the sum", len(b), i, j, k)
			}
			if Of(all) != Of(one)^Of(two)^Of(three) {
				t.Fatalf("%d bytes: bits %d, %d, %d do not turn the sum each on its own", len(b), i, j, k)
			}
		}
	}
}
