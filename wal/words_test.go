package wal

import (
	"bytes"
	"cmp"
	"encoding/binary"
	"fmt"
	"hash/crc32"
	"math"
	"math/rand"
	"slices"
	"strings"
	"testing"

	"gudgeon/api"
	"gudgeon/disk"
)

// framed is a frame's bytes, by the words of layers 2 to 4.
func framed(kind byte, b []byte) []byte {
	inner := append([]byte{kind}, b...)
	body := binary.BigEndian.AppendUint32(nil, crc32.ChecksumIEEE(inner))
	body = append(body, inner...)
	return append(binary.AppendUvarint(nil, uint64(len(body))), body...)
}

// rec is a record's bytes.
func rec(index uint64, data string) []byte {
	return framed(1, append(binary.AppendUvarint(nil, index), data...))
}

// number is a number without sign at the beginning of bytes, in its one form, and what is behind it.
func number(b []byte) (n uint64, rest []byte, ok bool) {
	n, size := binary.Uvarint(b)
	if size <= 0 || !bytes.Equal(binary.AppendUvarint(nil, n), b[:size]) {
		return 0, nil, false
	}
	return n, b[size:], true
}

// taken is the record at the beginning of bytes, and what is behind it.
func taken(b []byte) (r api.Record, rest []byte, ok bool) {
	size, rest, ok := number(b)
	if !ok || size < 5 || size > uint64(len(rest)) {
		return r, nil, false
	}
	body, rest := rest[:size], rest[size:]
	if binary.BigEndian.Uint32(body) != crc32.ChecksumIEEE(body[4:]) || body[4] != 1 {
		return r, nil, false
	}
	index, data, ok := number(body[5:])
	if !ok || index == 0 || len(data) > 4096 {
		return r, nil, false
	}
	return api.Record{Index: index, Data: data}, rest, true
}

// spot is a record that is read, in which segment, and where it begins and ends there.
type spot struct {
	api.Record
	segment, from, to int
}

// plain is a disk with a log by the chapter's words: all is read anew at each call.
type plain []api.File

func (p plain) at(name string) int {
	return slices.IndexFunc(p, func(f api.File) bool { return f.Name == name })
}

// numbers is the segments' numbers, rising.
func (p plain) numbers() []int {
	var l []int
	for _, f := range p {
		n := 0
		if _, err := fmt.Sscanf(f.Name, "wal-%08d", &n); err == nil && n > 0 && f.Name == fmt.Sprintf("wal-%08d", n) && len(f.Name) == 12 {
			l = append(l, n)
		}
	}
	slices.Sort(l)
	return l
}

func (p plain) segment(n int) *api.File {
	return &p[p.at(fmt.Sprintf("wal-%08d", n))]
}

// read is the records that are read, and the last segment that the reading comes to; 0: there is none.
func (p plain) read() (l []spot, last, end int) {
	numbers := p.numbers()
	for i, n := range numbers {
		if i > 0 && n != numbers[i-1]+1 {
			return l, last, end
		}
		last, end = n, 0
		data := p.segment(n).Data
		for end < len(data) {
			r, rest, ok := taken(data[end:])
			if !ok || len(l) > 0 && r.Index-1 != l[len(l)-1].Index {
				return l, last, end
			}
			l = append(l, spot{r, n, end, len(data) - len(rest)})
			end = len(data) - len(rest)
		}
	}
	return l, last, end
}

// cutAt takes all behind a place away.
func (p *plain) cutAt(number, end int) {
	for _, n := range p.numbers() {
		if n > number {
			*p = slices.Delete(*p, p.at(p.segment(n).Name), p.at(p.segment(n).Name)+1)
		}
	}
	if number > 0 {
		f := p.segment(number)
		f.Data, f.Safe = f.Data[:end:end], min(f.Safe, end)
	}
}

func (p *plain) open() {
	_, last, end := p.read()
	p.cutAt(last, end)
}

func (p *plain) appended(r api.Record) api.Errno {
	l, last, end := p.read()
	switch {
	case r.Index == 0:
		return api.ErrArg
	case len(r.Data) > 4096:
		return api.ErrLong
	case len(l) > 0 && (l[len(l)-1].Index == math.MaxUint64 || r.Index != l[len(l)-1].Index+1):
		return api.ErrGap
	}
	if last > 0 && end > 4096 {
		p.synced()
	}
	if last == 0 || end > 4096 {
		if last == 99999999 || len(*p) == 64 {
			return api.ErrFull
		}
		last++
		*p = append(*p, api.File{Name: fmt.Sprintf("wal-%08d", last)})
		slices.SortFunc(*p, func(a, b api.File) int { return strings.Compare(a.Name, b.Name) })
	}
	f := p.segment(last)
	f.Data = slices.Concat(f.Data, rec(r.Index, string(r.Data)))
	return api.OK
}

func (p *plain) synced() {
	if _, last, _ := p.read(); last > 0 {
		f := p.segment(last)
		f.Safe = len(f.Data)
	}
}

func (p *plain) cutFrom(index uint64) api.Errno {
	l, _, _ := p.read()
	for _, s := range l {
		if s.Index == index {
			p.cutAt(s.segment, s.from)
			return api.OK
		}
	}
	return api.ErrNone
}

func (p *plain) compacted(index uint64) api.Errno {
	l, last, _ := p.read()
	if !slices.ContainsFunc(l, func(s spot) bool { return s.Index == index }) {
		return api.ErrNone
	}
	for _, n := range p.numbers() {
		if n == last || slices.ContainsFunc(l, func(s spot) bool { return s.segment == n && s.Index > index }) {
			return api.OK
		}
		i := p.at(p.segment(n).Name)
		*p = slices.Delete(*p, i, i+1)
	}
	return api.OK
}

func (p plain) crashed(cuts []int) {
	for i := range p {
		f := &p[i]
		stays := f.Safe
		if i < len(cuts) {
			stays = min(f.Safe+max(cuts[i], 0), len(f.Data))
		}
		f.Data, f.Safe = f.Data[:stays:stays], stays
	}
}

// records is the records of spots.
func records(l []spot) []api.Record {
	var out []api.Record
	for _, s := range l {
		out = append(out, s.Record)
	}
	return out
}

// show is records as a text: nil and empty bytes are the same.
func show(l []api.Record) string {
	var b strings.Builder
	for _, r := range l {
		if len(r.Data) > 12 {
			fmt.Fprintf(&b, "[%d: %d bytes %08x]", r.Index, len(r.Data), crc32.ChecksumIEEE(r.Data))
			continue
		}
		fmt.Fprintf(&b, "[%d: %q]", r.Index, r.Data)
	}
	return b.String()
}

// showFiles is files as a text.
func showFiles(l []api.File) string {
	var b strings.Builder
	for _, f := range l {
		fmt.Fprintf(&b, "[%s: %d bytes %08x, %d safe]", f.Name, len(f.Data), crc32.ChecksumIEEE(f.Data), f.Safe)
	}
	return b.String()
}

// alike tells whether a log and its disk are as the plain one.
func alike(t *testing.T, what string, w *Wal, d *disk.Disk, p plain) bool {
	t.Helper()
	l, _, _ := p.read()
	ok := has(t, what, w, records(l)...)
	if got, want := showFiles(d.Files()), showFiles(p); got != want {
		t.Errorf("%s: files %s, not %s", what, got, want)
		return false
	}
	return ok
}

// script is calls by chance, on a log and on the plain one.
type script struct {
	r *rand.Rand
	d *disk.Disk
	w *Wal
	p plain
}

// some is an Index by chance, near those that the log has.
func (s *script) some() uint64 {
	return s.w.First() + uint64(s.r.Intn(int(s.w.Last()-s.w.First()+1)+3)) - 1
}

// add appends a record, mostly the one that may follow.
func (s *script) add() (what string, told, want api.Errno) {
	sizes := []int{0, 1, 7, 100, 119, 120, 121, 122, 1000, 2000, 2000, 4087, 4088, 4089, 4095, 4096, 4097}
	r := api.Record{Index: s.w.Last() + 1, Data: make([]byte, sizes[s.r.Intn(len(sizes))])}
	s.r.Read(r.Data)
	switch s.r.Intn(12) {
	case 0:
		r.Index = s.some()
	case 1:
		r.Index = s.r.Uint64() >> s.r.Intn(64)
	}
	return fmt.Sprintf("Append %d, %d bytes", r.Index, len(r.Data)), s.w.Append(r), s.p.appended(r)
}

// step is one call; what each told. Behind a crash, of which one in two is followed by no Open, the next call reads anew.
func (s *script) step() (what string, told, want api.Errno) {
	index := s.some()
	switch s.r.Intn(20) {
	case 0, 1:
		s.w.Sync()
		s.p.synced()
		return "Sync", 0, 0
	case 2:
		return fmt.Sprint("CutFrom ", index), s.w.CutFrom(index), s.p.cutFrom(index)
	case 3:
		return fmt.Sprint("Compact ", index), s.w.Compact(index), s.p.compacted(index)
	case 4, 5:
		cuts := make([]int, s.r.Intn(len(s.p)+2))
		for i := range cuts {
			cuts[i] = s.r.Intn(6000) - 500
		}
		s.d.Crash(cuts)
		s.p.crashed(cuts)
		s.p.open()
		if s.r.Intn(2) == 0 {
			return "Crash", 0, 0
		}
		w, e := Open(s.d)
		s.w = w
		return "Crash, Open", e, 0
	default:
		return s.add()
	}
}

// Wa1, Wa2: calls by chance, held against a log by the chapter's words, its disk too.
func TestByWords(t *testing.T) {
	for seed := range 120 {
		r := rand.New(rand.NewSource(int64(seed)))
		var files plain
		for i := range []int{0, 1, 57, 60, 62, 63, 64}[r.Intn(7)] {
			files = append(files, api.File{Name: fmt.Sprintf("other-%02d", i), Data: []byte("other"), Safe: i % 6})
		}
		d, e := disk.Load(files)
		is(t, "Load", e, api.OK)
		w, e := Open(d)
		is(t, "Open", e, api.OK)
		s := &script{r: r, d: d, w: w, p: files}
		for range 80 {
			what, told, want := s.step()
			what = fmt.Sprintf("seed %d: %s", seed, what)
			is(t, what, told, want)
			if !alike(t, what, s.w, s.d, s.p) {
				return
			}
		}
	}
}

// noise is bytes of a segment by chance: frames, right and wrong ones, near the Index next; and that behind them.
func noise(r *rand.Rand, next uint64) ([]byte, uint64) {
	var b []byte
	for range r.Intn(4) {
		data := strings.Repeat("d", []int{0, 1, 9, 130}[r.Intn(4)])
		switch r.Intn(30) {
		case 0:
			b = append(b, framed(byte(r.Intn(4)), append(binary.AppendUvarint(nil, next), data...))...)
		case 1:
			b = append(b, rec(next+uint64(r.Intn(3))-1, data)...)
		case 2:
			f := rec(next, data)
			b = append(b, f[:r.Intn(len(f))]...)
		case 3:
			f := rec(next, data)
			f[r.Intn(len(f))] ^= 1 << r.Intn(8)
			b = append(b, f...)
		case 4:
			b = append(b, rec(next, strings.Repeat("x", 4095+r.Intn(4)))...)
		case 5:
			b = append(b, framed(1, []byte{0x85, 0})...)
		default:
			b = append(b, rec(next, data)...)
		}
		next++
	}
	return b, next
}

// noisy is files by chance, by rising names: segments, mostly in their order, and others.
func noisy(r *rand.Rand) []api.File {
	next := []uint64{1, 1, 5, 127, 1 << 40, math.MaxUint64 - 3, 0}[r.Intn(7)]
	n := []int{1, 2, 9, 99, 99999995, 0}[r.Intn(6)]
	var l []api.File
	for range r.Intn(7) {
		f := api.File{Name: fmt.Sprintf("wal-%08d", n)}
		if r.Intn(12) == 0 {
			f.Name += ".new"
		}
		f.Data, next = noise(r, next)
		f.Safe = r.Intn(len(f.Data) + 1)
		l = append(l, f)
		n++
		if r.Intn(12) == 0 {
			n++
		}
		if r.Intn(12) == 0 {
			next = uint64(r.Intn(9))
		}
	}
	slices.SortFunc(l, func(a, b api.File) int { return cmp.Compare(a.Name, b.Name) })
	return l
}

// Wa1: files by chance, read and opened as the chapter's words say; and in whatever order the list has them.
func TestNoise(t *testing.T) {
	read := 0
	for seed := range 6000 {
		r := rand.New(rand.NewSource(int64(seed)))
		l := noisy(r)
		spots, _, _ := plain(l).read()
		read += len(spots)
		mixed := slices.Clone(l)
		r.Shuffle(len(mixed), func(i, j int) { mixed[i], mixed[j] = mixed[j], mixed[i] })
		for _, files := range [][]api.File{l, mixed} {
			if got := show(Read(files)); got != show(records(spots)) {
				t.Fatalf("seed %d: %s is read as %s, not %s", seed, showFiles(files), got, show(records(spots)))
			}
		}
		d, e := disk.Load(l)
		is(t, "Load", e, api.OK)
		w, e := Open(d)
		is(t, "Open", e, api.OK)
		p := plain(l)
		p.open()
		if !alike(t, fmt.Sprintf("seed %d", seed), w, d, p) {
			return
		}
		record := api.Record{Index: w.Last() + 1, Data: []byte("more")}
		is(t, fmt.Sprintf("seed %d: Append", seed), w.Append(record), p.appended(record))
		if !alike(t, fmt.Sprintf("seed %d: appended", seed), w, d, p) {
			return
		}
	}
	if read < 6000 {
		t.Errorf("all that chance gave was %d records", read)
	}
}
