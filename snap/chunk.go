package snap

import (
	"bytes"

	"gudgeon/api"
)

// Count is how many chunks so many bytes have. The first one is there even without bytes. The size is not rounded up:
// the greatest ones have no room for that.
func Count(size int) int {
	if size < 0 {
		return 0
	}
	return max(size-1, 0)/api.MaxChunk + 1
}

// Chunk is one of bytes' chunks; false: there is none such.
func Chunk(b []byte, i int) ([]byte, bool) {
	if i < 0 || i >= Count(len(b)) {
		return nil, false
	}
	return bytes.Clone(place(b, i)), true
}

// Basket gathers chunks. One that Gather gave has a chunk at least, gathered or not: by that it is told from others.
type Basket struct {
	b   []byte // what was put, in its place
	has []bool // by chunk
}

// Gather is a basket without chunks.
func Gather(size int) (*Basket, api.Errno) {
	if size < 0 || size > mostBytes {
		return nil, api.ErrArg
	}
	return &Basket{b: make([]byte, size), has: make([]bool, Count(size))}, api.OK
}

// Put lets it have a chunk.
func (x *Basket) Put(i int, b []byte) api.Errno {
	if !x.given() || i < 0 || i >= len(x.has) {
		return api.ErrArg
	}
	p := place(x.b, i)
	if len(b) != len(p) {
		return api.ErrArg
	}
	if x.has[i] && !bytes.Equal(b, p) {
		return api.ErrSame
	}
	copy(p, b)
	x.has[i] = true
	return api.OK
}

// Missing is which chunks it has not.
func (x *Basket) Missing() []int {
	if !x.given() {
		return nil
	}
	var l []int
	for i, has := range x.has {
		if !has {
			l = append(l, i)
		}
	}
	return l
}

// Bytes is all bytes; false: some are missing. A basket that Gather did not give misses none either, so that is asked first.
func (x *Basket) Bytes() ([]byte, bool) {
	if !x.given() || len(x.Missing()) > 0 {
		return nil, false
	}
	return bytes.Clone(x.b), true
}

// given tells whether Gather gave the basket.
func (x *Basket) given() bool {
	return x != nil && len(x.has) > 0
}

// place is where a chunk stands in bytes that have it.
func place(b []byte, i int) []byte {
	b = b[i*api.MaxChunk:]
	return b[:min(len(b), api.MaxChunk)]
}
