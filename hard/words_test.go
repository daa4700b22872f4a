package hard

import (
	"bytes"
	"encoding/binary"
	"fmt"
	"hash/crc32"
	"math"
	"math/rand"
	"slices"
	"strings"
	"testing"

	"gudgeon/api"
	"gudgeon/disk"
)

// framed is a frame's bytes, by the words of layers 2 to 4.
func framed(kind byte, b []byte) []byte {
	inner := append([]byte{kind}, b...)
	body := binary.BigEndian.AppendUint32(nil, crc32.ChecksumIEEE(inner))
	body = append(body, inner...)
	return append(binary.AppendUvarint(nil, uint64(len(body))), body...)
}

// numbers is numbers without sign, one behind the other.
func numbers(l ...uint64) []byte {
	var b []byte
	for _, n := range l {
		b = binary.AppendUvarint(b, n)
	}
	return b
}

// bytesBy is a state's bytes, by the chapter's words.
func bytesBy(h api.Hard) []byte {
	return framed(2, numbers(h.Term, uint64(h.Vote), h.Commit))
}

// stateBy is the state whose bytes these are, by the chapter's words: what is read of them must give them again.
func stateBy(b []byte) (h api.Hard, ok bool) {
	if len(b) < 6 {
		return api.Hard{}, false
	}
	rest := b[6:] // one byte says how many; no state has so many that it takes two
	var l [3]uint64
	for i := range l {
		n, size := binary.Uvarint(rest)
		if size <= 0 {
			return api.Hard{}, false
		}
		l[i], rest = n, rest[size:]
	}
	if l[1] > 7 {
		return api.Hard{}, false
	}
	h = api.Hard{Term: l[0], Vote: int(l[1]), Commit: l[2]}
	if !bytes.Equal(bytesBy(h), b) {
		return api.Hard{}, false
	}
	return h, true
}

// plain is a disk with groups' files, by the chapter's words.
type plain []api.File

func (p plain) at(name string) int {
	return slices.IndexFunc(p, func(f api.File) bool { return f.Name == name })
}

func (p *plain) put(f api.File) {
	if i := p.at(f.Name); i >= 0 {
		(*p)[i] = f
		return
	}
	*p = append(*p, f)
	slices.SortFunc(*p, func(a, b api.File) int { return strings.Compare(a.Name, b.Name) })
}

func (p *plain) removed(name string) {
	if i := p.at(name); i >= 0 {
		*p = slices.Delete(*p, i, i+1)
	}
}

func (p *plain) saved(group int, h api.Hard) api.Errno {
	if group < 0 || group > 999 || h.Vote < 0 || h.Vote > 7 {
		return api.ErrArg
	}
	name := fmt.Sprintf("hard-%d", group)
	if p.at(name+".new") < 0 && len(*p) == 64 {
		return api.ErrFull
	}
	p.removed(name + ".new")
	b := bytesBy(h)
	p.put(api.File{Name: name, Data: b, Safe: len(b)})
	return api.OK
}

func (p plain) loaded(group int) (api.Hard, api.Errno) {
	if group < 0 || group > 999 {
		return api.Hard{}, api.ErrArg
	}
	i := p.at(fmt.Sprintf("hard-%d", group))
	if i < 0 {
		return api.Hard{}, api.OK
	}
	h, ok := stateBy(p[i].Data)
	if !ok {
		return api.Hard{}, api.ErrText
	}
	return h, api.OK
}

func (p plain) crashed(cuts []int) {
	for i := range p {
		stays := p[i].Safe
		if i < len(cuts) {
			stays = min(p[i].Safe+max(cuts[i], 0), len(p[i].Data))
		}
		p[i].Data, p[i].Safe = p[i].Data[:stays:stays], stays
	}
}

// anyState is a state by chance, near the edges, now and then one that may not be.
func anyState(r *rand.Rand) api.Hard {
	edges := []uint64{0, 1, 2, 127, 128, 16383, 16384, 1<<32 - 1, 1 << 32, 1 << 62, 1<<63 - 1, 1 << 63, math.MaxUint64}
	h := api.Hard{Term: edges[r.Intn(len(edges))], Vote: r.Intn(8), Commit: edges[r.Intn(len(edges))]}
	if r.Intn(3) == 0 {
		h.Term, h.Commit = r.Uint64()>>r.Intn(64), r.Uint64()>>r.Intn(64)
	}
	if r.Intn(10) == 0 {
		h.Vote = []int{-1, 8, math.MinInt, math.MaxInt, -7, 256, 1 << 32}[r.Intn(7)]
	}
	return h
}

// anyGroup is one of few groups, so that they meet; now and then one that may not be.
func anyGroup(r *rand.Rand) int {
	if r.Intn(10) == 0 {
		return []int{-1, 1000, math.MinInt, math.MaxInt, -4, 1 << 32}[r.Intn(6)]
	}
	return []int{0, 1, 10, 100, 999, 4}[r.Intn(6)]
}

// spoil lets a file of a group's have more bytes, or none, on both, as a node that crashed in the midst might leave it.
func spoil(r *rand.Rand, d *disk.Disk, p *plain) string {
	name := fmt.Sprintf("hard-%d", []int{0, 1, 10, 100, 999, 4}[r.Intn(6)]) + []string{"", ".new", ".new"}[r.Intn(3)]
	if r.Intn(4) == 0 {
		d.Remove(name)
		p.removed(name)
		return "Remove " + name
	}
	more := bytesBy(api.Hard{Term: r.Uint64(), Vote: 3})
	more = more[:r.Intn(len(more)+1)]
	if d.Append(name, more) == api.OK {
		f := api.File{Name: name}
		if i := p.at(name); i >= 0 {
			f = (*p)[i]
		}
		f.Data = slices.Concat(f.Data, more)
		p.put(f)
	}
	return fmt.Sprintf("Append %s %x", name, more)
}

// crashBoth crashes both by chance.
func crashBoth(r *rand.Rand, d *disk.Disk, p *plain) string {
	cuts := make([]int, r.Intn(7))
	for i := range cuts {
		cuts[i] = r.Intn(30) - 2
	}
	d.Crash(cuts)
	p.crashed(cuts)
	return fmt.Sprint("Crash ", cuts)
}

// step is one call by chance, on both; whether they told the same.
func step(r *rand.Rand, d *disk.Disk, p *plain) (what string, same bool) {
	group, h := anyGroup(r), anyState(r)
	switch r.Intn(7) {
	case 0:
		return spoil(r, d, p), true
	case 1:
		return crashBoth(r, d, p), true
	case 2, 3:
		told, e := Load(d, group)
		want, code := p.loaded(group)
		return fmt.Sprintf("Load %d: %v, error %d (%v, error %d)", group, told, e, want, code), told == want && e == code
	default:
		e, code := Save(d, group, h), p.saved(group, h)
		return fmt.Sprintf("Save %d %v: error %d (%d)", group, h, e, code), e == code
	}
}

// crowded is a disk with so many files of others, and the same by words.
func crowded(t *testing.T, n int) (*disk.Disk, plain) {
	t.Helper()
	var l []api.File
	for i := range n {
		l = append(l, api.File{Name: fmt.Sprintf("other-%02d", i), Data: []byte("abc"), Safe: 1})
	}
	return loaded(t, l...), slices.Clone(l)
}

// Ha1, Ha2: many calls, one behind the other, are what the words say, on disks with room and without.
func TestWords(t *testing.T) {
	for seed := range int64(400) {
		r := rand.New(rand.NewSource(seed))
		d, p := crowded(t, []int{0, 58, 61, 63, 64}[seed%5])
		var did []string
		for range 100 {
			what, same := step(r, d, &p)
			did = append(did, what)
			if !same || showFiles(d.Files()) != showFiles(p) {
				t.Fatalf("seed %d: files %s, not %s; behind\n%s", seed, showFiles(d.Files()), showFiles(p), strings.Join(did, "\n"))
			}
		}
	}
}

// R4: the same calls tell the same.
func TestSameAgain(t *testing.T) {
	run := func() string {
		r := rand.New(rand.NewSource(7))
		d, p := crowded(t, 60)
		var told strings.Builder
		for range 200 {
			what, _ := step(r, d, &p)
			fmt.Fprintln(&told, what, showFiles(d.Files()))
		}
		return told.String()
	}
	first := run()
	for range 5 {
		if run() != first {
			t.Fatal("the same calls told otherwise")
		}
	}
}

// Ha3: behind any crash each group's Load tells what was saved there last.
func TestLastSavedStays(t *testing.T) {
	for seed := range int64(200) {
		r := rand.New(rand.NewSource(seed))
		d := disk.New()
		last := map[int]api.Hard{}
		for range 60 {
			group, h := anyGroup(r), anyState(r)
			if Save(d, group, h) == api.OK {
				last[group] = h
			}
			if r.Intn(3) == 0 {
				crashBoth(r, d, &plain{})
			}
			for _, group := range []int{0, 1, 4, 10, 100, 999, 7} {
				if told, e := Load(d, group); e != api.OK || told != last[group] {
					t.Fatalf("seed %d, group %d: %v, error %d, not %v", seed, group, told, e, last[group])
				}
			}
		}
	}
}
