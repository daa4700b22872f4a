package snap

import (
	"bytes"
	"encoding/binary"
	"fmt"
	"hash/crc32"
	"math"
	"math/rand"
	"slices"
	"strings"
	"testing"

	"gudgeon/api"
	"gudgeon/disk"
)

// framed is a frame's bytes, by the words of layers 2 to 4.
func framed(kind byte, b []byte) []byte {
	inner := append([]byte{kind}, b...)
	body := binary.BigEndian.AppendUint32(nil, crc32.ChecksumIEEE(inner))
	body = append(body, inner...)
	return append(binary.AppendUvarint(nil, uint64(len(body))), body...)
}

// numbers is numbers without sign, one behind the other.
func numbers(l ...uint64) []byte {
	var b []byte
	for _, n := range l {
		b = binary.AppendUvarint(b, n)
	}
	return b
}

// shot is a snapshot.
type shot struct {
	index, term uint64
	b           []byte
}

// equal tells whether two are the same.
func (s shot) equal(o shot) bool {
	return s.index == o.index && s.term == o.term && bytes.Equal(s.b, o.b)
}

// show is one as a short text.
func (s shot) show() string {
	return fmt.Sprintf("(%d, %d, %s)", s.index, s.term, brief(s.b))
}

// brief is bytes as a text, many of them by how many and their sum.
func brief(b []byte) string {
	if len(b) > 40 {
		return fmt.Sprintf("%d bytes %08x", len(b), crc32.ChecksumIEEE(b))
	}
	return fmt.Sprintf("%x", b)
}

// mayBe tells whether a snapshot may be, by the chapter's words.
func (s shot) mayBe() bool {
	return s.index > 0 && len(s.b) <= 32768
}

// bytesBy is a snapshot's bytes, by the chapter's words.
func bytesBy(s shot) []byte {
	return framed(3, slices.Concat(numbers(s.index, s.term), s.b))
}

// shotBy is the snapshot whose bytes these are, by the chapter's words: what is read of them must give them again.
func shotBy(b []byte) (shot, bool) {
	_, digits := binary.Uvarint(b)
	if digits <= 0 || len(b) < digits+5 {
		return shot{}, false
	}
	rest := b[digits+5:]
	index, n := binary.Uvarint(rest)
	if n <= 0 {
		return shot{}, false
	}
	term, m := binary.Uvarint(rest[n:])
	if m <= 0 {
		return shot{}, false
	}
	s := shot{index, term, bytes.Clone(rest[n+m:])}
	if !s.mayBe() || !bytes.Equal(bytesBy(s), b) {
		return shot{}, false
	}
	return s, true
}

// plain is a disk's files, by rising names, and what Save and Load do to them, by the words of this chapter and layer 5's.
type plain []api.File

func (p plain) at(name string) int {
	return slices.IndexFunc(p, func(f api.File) bool { return f.Name == name })
}

func (p *plain) put(f api.File) {
	if i := p.at(f.Name); i >= 0 {
		(*p)[i] = f
		return
	}
	*p = append(*p, f)
	slices.SortFunc(*p, func(a, b api.File) int { return strings.Compare(a.Name, b.Name) })
}

func (p *plain) removed(name string) {
	if i := p.at(name); i >= 0 {
		*p = slices.Delete(*p, i, i+1)
	}
}

func (p *plain) saved(group int, s shot) api.Errno {
	if group < 0 || group > 999 || !s.mayBe() {
		return api.ErrArg
	}
	name := fmt.Sprintf("snap-%d", group)
	if p.at(name+".new") < 0 && len(*p) == 64 {
		return api.ErrFull
	}
	p.removed(name + ".new")
	b := bytesBy(s)
	p.put(api.File{Name: name, Data: b, Safe: len(b)})
	return api.OK
}

func (p plain) loaded(group int) (shot, api.Errno) {
	if group < 0 || group > 999 {
		return shot{}, api.ErrArg
	}
	i := p.at(fmt.Sprintf("snap-%d", group))
	if i < 0 {
		return shot{}, api.ErrNone
	}
	s, ok := shotBy(p[i].Data)
	if !ok {
		return shot{}, api.ErrText
	}
	return s, api.OK
}

func (p plain) crashed(cuts []int) {
	for i := range p {
		stays := p[i].Safe
		if i < len(cuts) {
			stays = min(p[i].Safe+max(cuts[i], 0), len(p[i].Data))
		}
		p[i].Data, p[i].Safe = p[i].Data[:stays:stays], stays
	}
}

// someBytes is so many bytes by chance.
func someBytes(r *rand.Rand, n int) []byte {
	b := make([]byte, n)
	r.Read(b)
	return b
}

// anyShot is a snapshot by chance, near the edges, now and then one that may not be.
func anyShot(r *rand.Rand) shot {
	edges := []uint64{1, 2, 127, 128, 16383, 16384, 1<<32 - 1, 1 << 32, 1 << 62, 1<<63 - 1, 1 << 63, math.MaxUint64, 0}
	s := shot{edges[r.Intn(len(edges)-1)], edges[r.Intn(len(edges))], someBytes(r, r.Intn(20))}
	if r.Intn(3) == 0 {
		s.index, s.term = r.Uint64()>>r.Intn(64)|1, r.Uint64()>>r.Intn(64)
	}
	if r.Intn(12) == 0 {
		s.index = 0
	}
	if r.Intn(12) == 0 {
		s.b = someBytes(r, []int{255, 256, 32767, 32768, 32769, 65536}[r.Intn(6)])
	}
	return s
}

// someGroups is few groups, so that they meet.
var someGroups = []int{0, 1, 10, 100, 999, 4}

// anyGroup is one of them; now and then one that may not be.
func anyGroup(r *rand.Rand) int {
	if r.Intn(10) == 0 {
		return []int{-1, 1000, math.MinInt, math.MaxInt, -4, 1 << 32}[r.Intn(6)]
	}
	return someGroups[r.Intn(len(someGroups))]
}

// spoil lets a file of a group's have more bytes, or none, on both, as a node that crashed in the midst might leave it.
func spoil(r *rand.Rand, d *disk.Disk, p *plain) string {
	name := fmt.Sprintf("snap-%d", someGroups[r.Intn(len(someGroups))]) + []string{"", ".new", ".new"}[r.Intn(3)]
	if r.Intn(3) == 0 {
		d.Remove(name)
		p.removed(name)
		return "Remove " + name
	}
	more := bytesBy(anyShot(r))
	if r.Intn(2) == 0 {
		more = more[:r.Intn(len(more)+1)]
	}
	if d.Append(name, more) == api.OK {
		f := api.File{Name: name}
		if i := p.at(name); i >= 0 {
			f = (*p)[i]
		}
		f.Data = slices.Concat(f.Data, more)
		p.put(f)
	}
	return fmt.Sprintf("Append %s %s", name, brief(more))
}

// crashBoth crashes both by chance.
func crashBoth(r *rand.Rand, d *disk.Disk, p *plain) string {
	cuts := make([]int, r.Intn(7))
	for i := range cuts {
		cuts[i] = r.Intn(30) - 2
	}
	d.Crash(cuts)
	p.crashed(cuts)
	return fmt.Sprint("Crash ", cuts)
}

// told is what Load tells, as one.
func told(d *disk.Disk, group int) (shot, api.Errno) {
	index, term, b, e := Load(d, group)
	return shot{index, term, b}, e
}

// step is one call by chance, on both; whether they told the same.
func step(r *rand.Rand, d *disk.Disk, p *plain) (what string, same bool) {
	group, s := anyGroup(r), anyShot(r)
	switch r.Intn(7) {
	case 0:
		return spoil(r, d, p), true
	case 1:
		return crashBoth(r, d, p), true
	case 2, 3:
		got, e := told(d, group)
		want, code := p.loaded(group)
		return fmt.Sprintf("Load %d: %s, error %d (%s, error %d)", group, got.show(), e, want.show(), code), got.equal(want) && e == code
	default:
		e, code := Save(d, group, s.index, s.term, s.b), p.saved(group, s)
		return fmt.Sprintf("Save %d %s: error %d (%d)", group, s.show(), e, code), e == code
	}
}

// crowded is a disk with so many files of others, and the same by words.
func crowded(t *testing.T, n int) (*disk.Disk, plain) {
	t.Helper()
	var l []api.File
	for i := range n {
		l = append(l, api.File{Name: fmt.Sprintf("other-%02d", i), Data: []byte("abc"), Safe: 1})
	}
	return loaded(t, l...), slices.Clone(l)
}

// Sn1: many calls, one behind the other, are what the words say, on disks with room and without.
func TestWords(t *testing.T) {
	for seed := range int64(300) {
		r := rand.New(rand.NewSource(seed))
		d, p := crowded(t, []int{0, 58, 61, 63, 64}[seed%5])
		var did []string
		for range 80 {
			what, same := step(r, d, &p)
			did = append(did, what)
			if !same || showFiles(d.Files()) != showFiles(p) {
				t.Fatalf("seed %d: files %s, not %s; behind\n%s", seed, showFiles(d.Files()), showFiles(p), strings.Join(did, "\n"))
			}
		}
	}
}

// R4: the same calls tell the same.
func TestSameAgain(t *testing.T) {
	run := func() string {
		r := rand.New(rand.NewSource(7))
		d, p := crowded(t, 60)
		var all strings.Builder
		for range 200 {
			what, _ := step(r, d, &p)
			fmt.Fprintln(&all, what, showFiles(d.Files()))
		}
		return all.String()
	}
	first := run()
	for range 5 {
		if run() != first {
			t.Fatal("the same calls told otherwise")
		}
	}
}

// Sn3: behind any crash each group's Load tells what was saved there last.
func TestLastSavedStays(t *testing.T) {
	for seed := range int64(150) {
		r := rand.New(rand.NewSource(seed))
		d := disk.New()
		last := map[int]shot{}
		for range 50 {
			group, s := anyGroup(r), anyShot(r)
			if Save(d, group, s.index, s.term, s.b) == api.OK {
				last[group] = s
			}
			if r.Intn(3) == 0 {
				crashBoth(r, d, &plain{})
			}
			for _, group := range append(someGroups, 7) {
				want, saved := last[group]
				got, e := told(d, group)
				if !got.equal(want) || saved != (e == api.OK) || !saved && e != api.ErrNone {
					t.Fatalf("seed %d, group %d: %s, error %d, not %s", seed, group, got.show(), e, want.show())
				}
			}
		}
	}
}

// heap is chunks that were put, by the chapter's words: a basket, held plainly.
type heap struct {
	size   int
	chunks map[int][]byte
}

// sizes is how many bytes each chunk has, by the chapter's words.
func sizes(size int) []int {
	if size == 0 {
		return []int{0}
	}
	var l []int
	for ; size > 0; size -= 256 {
		l = append(l, min(size, 256))
	}
	return l
}

func (h *heap) put(i int, b []byte) api.Errno {
	l := sizes(h.size)
	if i < 0 || i >= len(l) || len(b) != l[i] {
		return api.ErrArg
	}
	if c, ok := h.chunks[i]; ok && !bytes.Equal(c, b) {
		return api.ErrSame
	}
	h.chunks[i] = bytes.Clone(b)
	return api.OK
}

func (h *heap) missing() []int {
	var l []int
	for i := range sizes(h.size) {
		if _, ok := h.chunks[i]; !ok {
			l = append(l, i)
		}
	}
	return l
}

func (h *heap) bytes() ([]byte, bool) {
	if len(h.missing()) > 0 {
		return nil, false
	}
	var b []byte
	for i := range sizes(h.size) {
		b = append(b, h.chunks[i]...)
	}
	return b, true
}

// anyChunk is a chunk by chance, of two lists of bytes, now and then of another's length or at another's place.
func anyChunk(r *rand.Rand, all [2][]byte) (i int, b []byte) {
	n := len(sizes(len(all[0])))
	i = r.Intn(n)
	from := all[min(r.Intn(6), 1)^1]
	b = slices.Clone(from[min(i*256, len(from)):min(i*256+256, len(from))])
	switch r.Intn(16) {
	case 0:
		i = []int{-1, n, n + 1, math.MinInt, math.MaxInt, 1 << 56, -n, 1 << 32}[r.Intn(8)]
	case 1:
		i = r.Intn(n)
	case 2:
		b = append(b, 0)
	case 3:
		b = b[:len(b)/2]
	case 4:
		b = nil
	}
	return i, b
}

// Sn2: many chunks, by chance, some twice, some wrong, are put as the words say.
func TestBasketByWords(t *testing.T) {
	for seed := range int64(600) {
		r := rand.New(rand.NewSource(seed))
		size := []int{0, 1, 44, 255, 256, 257, 300, 511, 512, 513, 1000, 1024, 2600, 32768}[seed%14]
		all := [2][]byte{someBytes(r, size), someBytes(r, size)}
		x, e := Gather(size)
		is(t, "Gather", e, api.OK)
		h := &heap{size: size, chunks: map[int][]byte{}}
		for range 120 {
			i, b := anyChunk(r, all)
			e, code := x.Put(i, b), h.put(i, b)
			if e != code {
				t.Fatalf("seed %d: Put(%d, %s): error %d, not %d", seed, i, brief(b), e, code)
			}
			if !slices.Equal(x.Missing(), h.missing()) {
				t.Fatalf("seed %d: Missing %v, not %v", seed, x.Missing(), h.missing())
			}
			got, ok := x.Bytes()
			if want, all := h.bytes(); ok != all || !bytes.Equal(got, want) {
				t.Fatalf("seed %d: Bytes %s, %t, not %s, %t", seed, brief(got), ok, brief(want), all)
			}
		}
	}
}

// Sn3: chunks of all sizes, put in any order, some twice, are the bytes; and a snapshot that goes that way is the same.
func TestChunksAreTheBytes(t *testing.T) {
	for seed := range int64(300) {
		r := rand.New(rand.NewSource(seed))
		b := someBytes(r, r.Intn(32769)>>r.Intn(16))
		x, e := Gather(len(b))
		is(t, "Gather", e, api.OK)
		order := r.Perm(Count(len(b)))
		for n := range order {
			order = append(order, order[r.Intn(n+1)])
		}
		r.Shuffle(len(order), func(i, j int) { order[i], order[j] = order[j], order[i] })
		for _, i := range order {
			c, ok := Chunk(b, i)
			if !ok || x.Put(i, c) != api.OK {
				t.Fatalf("seed %d: chunk %d of %d bytes", seed, i, len(b))
			}
		}
		got, ok := x.Bytes()
		if !ok || !bytes.Equal(got, b) || len(x.Missing()) != 0 {
			t.Fatalf("seed %d: %s, %t, not %s; missing %v", seed, brief(got), ok, brief(b), x.Missing())
		}
		d := disk.New()
		is(t, "Save", Save(d, 4, 9, 2, got), api.OK)
		d.Crash(nil)
		loads(t, "what was gathered", d, 4, shot{9, 2, b}, api.OK)
	}
}
