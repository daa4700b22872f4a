package snap

import (
	"bytes"
	"fmt"
	"math"
	"slices"
	"testing"

	"gudgeon/api"
)

// gathered is a basket for so many bytes.
func gathered(t *testing.T, size int) *Basket {
	t.Helper()
	x, e := Gather(size)
	if e != api.OK || x == nil {
		t.Fatalf("Gather(%d): %v, error %d", size, x, e)
	}
	return x
}

// puts tells whether each of these chunks of bytes is put.
func puts(t *testing.T, x *Basket, b []byte, chunks ...int) {
	t.Helper()
	for _, i := range chunks {
		c, ok := Chunk(b, i)
		if !ok {
			t.Fatalf("Chunk(%s, %d): none", brief(b), i)
		}
		is(t, fmt.Sprintf("Put(%d)", i), x.Put(i, c), api.OK)
	}
}

// misses tells whether a basket misses just these chunks, and has no bytes to tell, but if it misses none.
func misses(t *testing.T, what string, x *Basket, want ...int) {
	t.Helper()
	if got := x.Missing(); !slices.Equal(got, want) {
		t.Errorf("%s: Missing %v, not %v", what, got, want)
	}
	if b, ok := x.Bytes(); ok != (len(want) == 0) || !ok && len(b) != 0 {
		t.Errorf("%s: Bytes %s, %t, though %v are missing", what, brief(b), ok, want)
	}
}

// has tells whether a basket has all, and is these bytes.
func has(t *testing.T, what string, x *Basket, want []byte) {
	t.Helper()
	misses(t, what, x)
	if b, ok := x.Bytes(); !ok || !bytes.Equal(b, want) {
		t.Errorf("%s: Bytes %s, %t, not %s", what, brief(b), ok, brief(want))
	}
}

// Example 1.
func TestExample1(t *testing.T) {
	b := some(300)
	if n := Count(300); n != 2 {
		t.Errorf("Count(300) is %d", n)
	}
	first, ok1 := Chunk(b, 0)
	second, ok2 := Chunk(b, 1)
	_, ok3 := Chunk(b, 2)
	if !ok1 || !ok2 || ok3 || !bytes.Equal(first, b[:256]) || !bytes.Equal(second, b[256:]) || len(second) != 44 {
		t.Errorf("chunks of %d and %d bytes, %t %t %t", len(first), len(second), ok1, ok2, ok3)
	}
}

// Sn2: how many chunks, at all edges; the greatest size has them, too.
func TestCount(t *testing.T) {
	for _, c := range []struct{ size, want int }{
		{0, 1}, {1, 1}, {2, 1}, {255, 1}, {256, 1}, {257, 2}, {300, 2}, {511, 2}, {512, 2}, {513, 3}, {768, 3}, {769, 4},
		{32767, 128}, {32768, 128}, {32769, 129}, {1 << 20, 4096}, {math.MaxInt32, 1 << 23}, {1 << 32, 1 << 24},
		{math.MaxInt - 256, 1<<55 - 1}, {math.MaxInt - 255, 1<<55 - 1}, {math.MaxInt - 254, 1 << 55}, {math.MaxInt - 1, 1 << 55}, {math.MaxInt, 1 << 55},
		{-1, 0}, {-2, 0}, {-255, 0}, {-256, 0}, {-257, 0}, {-32768, 0}, {math.MinInt32, 0}, {math.MinInt + 1, 0}, {math.MinInt, 0},
	} {
		if n := Count(c.size); n != c.want {
			t.Errorf("Count(%d) is %d, not %d", c.size, n, c.want)
		}
	}
	for size := range 5000 {
		if n := Count(size); n != len(sizes(size)) {
			t.Errorf("Count(%d) is %d, not %d", size, n, len(sizes(size)))
		}
	}
}

// Sn2: the chunks of bytes of all sizes, one behind the other, are they; each of as many bytes as the words have it.
func TestChunk(t *testing.T) {
	for _, size := range []int{0, 1, 2, 44, 255, 256, 257, 300, 511, 512, 513, 767, 768, 769, 32767, 32768, 32769, 65536, 100000, 1 << 20} {
		b := some(size)
		var all []byte
		for i, want := range sizes(size) {
			c, ok := Chunk(b, i)
			if !ok || len(c) != want {
				t.Errorf("Chunk(%d bytes, %d): %d bytes, %t, not %d", size, i, len(c), ok, want)
			}
			all = append(all, c...)
		}
		if !bytes.Equal(all, b) {
			t.Errorf("chunks of %s: %s", brief(b), brief(all))
		}
	}
}

// Sn2: there are no others.
func TestChunkNone(t *testing.T) {
	for _, size := range []int{0, 1, 255, 256, 257, 300, 512, 513, 32768} {
		n := len(sizes(size))
		for _, i := range []int{-1, -2, -n, n, n + 1, 256, 1000, 1 << 32, 1 << 55, 1 << 56, 1<<56 + 1, 1 << 62, math.MaxInt, math.MinInt, math.MinInt + 1} {
			if c, ok := Chunk(some(size), i); ok || len(c) != 0 {
				t.Errorf("Chunk(%d bytes, %d): %x, %t", size, i, c, ok)
			}
		}
	}
	if c, ok := Chunk(nil, 0); !ok || len(c) != 0 {
		t.Errorf("Chunk(nil, 0): %x, %t", c, ok)
	}
}

// Sn2: which sizes a basket may have; it has no chunk at first.
func TestGather(t *testing.T) {
	for _, size := range []int{-1, -2, -256, -32768, 32769, 32770, 65536, 1 << 32, 1<<32 + 300, math.MaxInt, math.MinInt, math.MinInt + 300} {
		if x, e := Gather(size); x != nil || e != api.ErrArg {
			t.Errorf("Gather(%d): %v, error %d", size, x, e)
		}
	}
	for _, size := range []int{0, 1, 256, 257, 300, 512, 513, 32767, 32768} {
		var all []int
		for i := range sizes(size) {
			all = append(all, i)
		}
		misses(t, fmt.Sprint("of ", size), gathered(t, size), all...)
	}
}

// Sn2: of no bytes there is one chunk, empty; without it the basket is not whole.
func TestNoBytes(t *testing.T) {
	x := gathered(t, 0)
	misses(t, "at first", x, 0)
	is(t, "a byte", x.Put(0, []byte{0}), api.ErrArg)
	is(t, "the second", x.Put(1, nil), api.ErrArg)
	is(t, "ahead of it", x.Put(-1, nil), api.ErrArg)
	misses(t, "refused", x, 0)
	is(t, "it", x.Put(0, nil), api.OK)
	has(t, "put", x, nil)
	is(t, "again", x.Put(0, []byte{}), api.OK)
	is(t, "a byte, again", x.Put(0, []byte{0}), api.ErrArg)
	has(t, "put twice", x, nil)
}

// Sn2: what is missing grows less, chunk by chunk, and is told rising.
func TestMissing(t *testing.T) {
	b := some(1100)
	x := gathered(t, 1100)
	misses(t, "none", x, 0, 1, 2, 3, 4)
	puts(t, x, b, 3)
	misses(t, "3", x, 0, 1, 2, 4)
	puts(t, x, b, 0, 3)
	misses(t, "3, 0", x, 1, 2, 4)
	puts(t, x, b, 4)
	misses(t, "3, 0, 4", x, 1, 2)
	puts(t, x, b, 2, 2)
	misses(t, "3, 0, 4, 2", x, 1)
	puts(t, x, b, 1)
	has(t, "all", x, b)
	puts(t, x, b, 4, 3, 2, 1, 0)
	has(t, "all, twice", x, b)
}

// Sn2: a chunk that is none such, or of another length, is refused; nothing turns.
func TestPutArg(t *testing.T) {
	b := some(600)
	x := gathered(t, 600)
	puts(t, x, b, 1)
	for _, i := range []int{-1, -2, 3, 4, -3, 256, 1 << 32, 1<<32 + 1, 1 << 56, 1<<56 + 1, math.MaxInt, math.MinInt, math.MinInt + 1} {
		for _, n := range []int{0, 88, 256} {
			is(t, fmt.Sprintf("Put(%d, %d bytes)", i, n), x.Put(i, b[:n]), api.ErrArg)
		}
	}
	for _, n := range []int{0, 1, 87, 88, 89, 255, 257, 344, 512, 600} {
		if n != 256 {
			is(t, fmt.Sprintf("Put(0, %d bytes)", n), x.Put(0, b[:n]), api.ErrArg)
			is(t, fmt.Sprintf("Put(1, %d bytes)", n), x.Put(1, b[:n]), api.ErrArg)
		}
		if n != 88 {
			is(t, fmt.Sprintf("Put(2, %d bytes)", n), x.Put(2, b[:n]), api.ErrArg)
		}
	}
	is(t, "a whole one at the last place", x.Put(2, b[:256]), api.ErrArg)
	misses(t, "refused", x, 0, 2)
	puts(t, x, b, 2, 0)
	has(t, "the right ones", x, b)
}

// Sn2: other bytes at a chunk's place are refused, wherever they are other; the first ones stay.
func TestPutSame(t *testing.T) {
	b := some(300)
	x := gathered(t, 300)
	puts(t, x, b, 0, 1)
	for i, size := range sizes(300) {
		c, _ := Chunk(b, i)
		for at := range size {
			c[at] ^= 1
			is(t, fmt.Sprintf("Put(%d), other at %d", i, at), x.Put(i, c), api.ErrSame)
			c[at] ^= 1
		}
		is(t, "noughts", x.Put(i, make([]byte, size)), api.ErrSame)
		is(t, "a byte less", x.Put(i, c[:size-1]), api.ErrArg)
		is(t, "itself", x.Put(i, c), api.OK)
	}
	has(t, "refused", x, b)
}

// Sn2: noughts are bytes like others: a place that has none yet takes any, and one that has noughts takes no others.
func TestPutNoughts(t *testing.T) {
	x := gathered(t, 512)
	is(t, "noughts", x.Put(0, make([]byte, 256)), api.OK)
	misses(t, "noughts", x, 1)
	is(t, "others", x.Put(0, some(256)), api.ErrSame)
	is(t, "noughts again", x.Put(0, make([]byte, 256)), api.OK)
	is(t, "the second", x.Put(1, some(256)), api.OK)
	has(t, "both", x, slices.Concat(make([]byte, 256), some(256)))
}

// Sn2: a basket of as many bytes as may be, from its end on.
func TestGreatest(t *testing.T) {
	b := some(32768)
	x := gathered(t, 32768)
	for i := 127; i > 0; i-- {
		puts(t, x, b, i)
	}
	misses(t, "all but the first", x, 0)
	is(t, "beyond", x.Put(128, b[:256]), api.ErrArg)
	is(t, "beyond, empty", x.Put(128, nil), api.ErrArg)
	puts(t, x, b, 0)
	has(t, "all", x, b)
}

// Sn2: a basket that Gather did not give refuses all, and has nothing.
func TestBasketNotGiven(t *testing.T) {
	for name, x := range map[string]*Basket{"nil": nil, "zero": {}, "made by new": new(Basket)} {
		for range 2 {
			for _, i := range []int{-1, 0, 1, math.MaxInt, math.MinInt} {
				for _, n := range []int{0, 1, 256} {
					is(t, name, x.Put(i, make([]byte, n)), api.ErrArg)
				}
			}
			if l := x.Missing(); len(l) != 0 {
				t.Errorf("%s: Missing %v", name, l)
			}
			if b, ok := x.Bytes(); ok || len(b) != 0 {
				t.Errorf("%s: Bytes %x, %t", name, b, ok)
			}
		}
	}
}

// Sn2: baskets do not meet.
func TestBasketsApart(t *testing.T) {
	x, y := gathered(t, 300), gathered(t, 300)
	puts(t, x, some(300), 0)
	misses(t, "the other", y, 0, 1)
	is(t, "other bytes", y.Put(0, make([]byte, 256)), api.OK)
	puts(t, x, some(300), 1)
	misses(t, "the other", y, 1)
	has(t, "the first", x, some(300))
}

// R3: a chunk is new memory, its spare room too; the bytes are as they were.
func TestChunkMemory(t *testing.T) {
	b := some(600)
	for i := range 3 {
		c, _ := Chunk(b, i)
		spoilAll(c)
		if !bytes.Equal(b, some(600)) {
			t.Errorf("chunk %d shares memory with the bytes", i)
		}
		if again, _ := Chunk(b, i); !bytes.Equal(again, b[i*256:min(i*256+256, 600)]) {
			t.Errorf("chunk %d shares memory with another answer", i)
		}
	}
}

// R3: what is put is neither changed nor kept, nor is what lies behind it; what is told is new.
func TestBasketMemory(t *testing.T) {
	b := some(600)
	x := gathered(t, 600)
	for i := range 3 {
		is(t, "Put", x.Put(i, b[i*256:min(i*256+256, 600)]), api.OK)
	}
	if !bytes.Equal(b, some(600)) {
		t.Error("Put changed what was handed in")
	}
	spoilAll(b)
	has(t, "what was put is turned", x, some(600))

	got, _ := x.Bytes()
	spoilAll(got)
	has(t, "what was told is turned", x, some(600))

	y := gathered(t, 600)
	l := y.Missing()
	for i := range l[:cap(l)] {
		l[:cap(l)][i] = 7
	}
	misses(t, "what was told is turned", y, 0, 1, 2)
}
