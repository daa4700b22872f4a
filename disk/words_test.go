package disk

import (
	"bytes"
	"fmt"
	"math/rand"
	"slices"
	"strings"
	"testing"

	"gudgeon/api"
)

// plain is a disk by the chapter's words: a list that is gone through.
type plain []api.File

func (p plain) at(name string) int {
	return slices.IndexFunc(p, func(f api.File) bool { return f.Name == name })
}

func (p *plain) add(f api.File) {
	*p = append(*p, f)
	slices.SortFunc(*p, func(a, b api.File) int { return strings.Compare(a.Name, b.Name) })
}

func (p *plain) appended(name string, b []byte) api.Errno {
	i := p.at(name)
	switch {
	case name == "" || len(name) > 32 || strings.Trim(name, "abcdefghijklmnopqrstuvwxyz0123456789.-") != "":
		return api.ErrArg
	case i < 0 && (len(*p) == 64 || len(b) > 65536):
		return api.ErrFull
	case i < 0:
		p.add(api.File{Name: name, Data: bytes.Clone(b)})
	case len((*p)[i].Data)+len(b) > 65536:
		return api.ErrFull
	default:
		(*p)[i].Data = slices.Concat((*p)[i].Data, b)
	}
	return api.OK
}

func (p plain) cut(name string, n int) api.Errno {
	i := p.at(name)
	if i < 0 {
		return api.ErrNone
	}
	if n < 0 || n > len(p[i].Data) {
		return api.ErrArg
	}
	p[i].Data, p[i].Safe = bytes.Clone(p[i].Data[:n]), min(p[i].Safe, n)
	return api.OK
}

func (p *plain) renamed(from, to string) api.Errno {
	i := p.at(from)
	if i < 0 {
		return api.ErrNone
	}
	if to == "" || to == "A" {
		return api.ErrArg
	}
	f := (*p)[i]
	p.removed(from)
	p.removed(to)
	f.Name = to
	p.add(f)
	return api.OK
}

func (p *plain) removed(name string) api.Errno {
	i := p.at(name)
	if i < 0 {
		return api.ErrNone
	}
	*p = slices.Delete(*p, i, i+1)
	return api.OK
}

func (p plain) synced(name string) api.Errno {
	i := p.at(name)
	if i < 0 {
		return api.ErrNone
	}
	p[i].Safe = len(p[i].Data)
	return api.OK
}

func (p plain) crashed(cuts []int) {
	for i := range p {
		stays := p[i].Safe
		for i < len(cuts) && stays < len(p[i].Data) && stays < p[i].Safe+cuts[i] {
			stays++
		}
		p[i].Data, p[i].Safe = bytes.Clone(p[i].Data[:stays]), stays
	}
}

// step is one call by chance, on both; what each told.
func step(r *rand.Rand, d *Disk, p *plain) (what string, told, want api.Errno) {
	names := []string{"a", "b", "c", "c.new", "d-1", "", "A"}
	name, to := names[r.Intn(len(names))], names[r.Intn(len(names))]
	n := r.Intn(12) - 2
	switch r.Intn(9) {
	case 0:
		return "Sync " + name, d.Sync(name), p.synced(name)
	case 1:
		return fmt.Sprint("Cut ", name, " ", n), d.Cut(name, n), p.cut(name, n)
	case 2:
		return "Rename " + name + " " + to, d.Rename(name, to), p.renamed(name, to)
	case 3:
		return "Remove " + name, d.Remove(name), p.removed(name)
	case 4:
		cuts := make([]int, r.Intn(5))
		for i := range cuts {
			cuts[i] = r.Intn(6) - 1
		}
		d.Crash(cuts)
		p.crashed(cuts)
		return fmt.Sprint("Crash ", cuts), 0, 0
	case 5:
		b := make([]byte, 20000)
		return "Append much " + name, d.Append(name, b), p.appended(name, b)
	default:
		b := make([]byte, r.Intn(6))
		r.Read(b)
		return fmt.Sprint("Append ", name, len(b)), d.Append(name, b), p.appended(name, b)
	}
}

// same tells whether two lists of files are the same, byte by byte.
func same(a, b []api.File) bool {
	return slices.EqualFunc(a, b, func(x, y api.File) bool {
		return x.Name == y.Name && x.Safe == y.Safe && bytes.Equal(x.Data, y.Data)
	})
}

// Di1, Di2: many calls, one behind the other, are what the words say; and a disk loaded of its files goes on as it.
func TestWords(t *testing.T) {
	for seed := range int64(300) {
		r := rand.New(rand.NewSource(seed))
		d, p := New(), plain{}
		var did []string
		for range 120 {
			what, told, want := step(r, d, &p)
			did = append(did, what)
			if told != want || !same(d.Files(), p) {
				t.Fatalf("seed %d: error %d, not %d; files %s, not %s; behind\n%s", seed, told, want, show(d.Files()), show(p), strings.Join(did, "\n"))
			}
			if r.Intn(10) == 0 {
				d = loaded(t, d.Files()...)
			}
		}
	}
}

// R4: the same calls tell the same.
func TestSameAgain(t *testing.T) {
	run := func() string {
		r := rand.New(rand.NewSource(55))
		d, p := New(), plain{}
		var told strings.Builder
		for range 200 {
			what, e, _ := step(r, d, &p)
			fmt.Fprintln(&told, what, int(e), show(d.Files()))
		}
		return told.String()
	}
	first := run()
	for range 10 {
		if run() != first {
			t.Fatal("the same calls told otherwise")
		}
	}
}

// Di3: what was safe, and neither cut, renamed nor removed, is there behind any crash; and a file's bytes are a beginning of what they were.
func TestSafeStays(t *testing.T) {
	for seed := range int64(200) {
		r := rand.New(rand.NewSource(seed))
		d := New()
		safe := map[string][]byte{}
		for range 100 {
			name := string(rune('a' + r.Intn(5)))
			b := make([]byte, r.Intn(5))
			r.Read(b)
			is(t, "Append", d.Append(name, b), api.OK)
			if r.Intn(3) == 0 {
				is(t, "Sync", d.Sync(name), api.OK)
				safe[name], _ = d.Read(name)
			}
			if r.Intn(4) == 0 {
				crashOnce(t, r, d, safe)
			}
		}
	}
}

// crashOnce crashes a disk by chance, and holds it against what it was.
func crashOnce(t *testing.T, r *rand.Rand, d *Disk, safe map[string][]byte) {
	t.Helper()
	was := d.Files()
	cuts := make([]int, r.Intn(7))
	for i := range cuts {
		cuts[i] = r.Intn(8) - 2
	}
	d.Crash(cuts)
	now := d.Files()
	if len(now) != len(was) {
		t.Fatalf("%d files of %d", len(now), len(was))
	}
	for i, f := range now {
		if f.Name != was[i].Name || !bytes.HasPrefix(was[i].Data, f.Data) || !bytes.HasPrefix(f.Data, safe[f.Name]) || f.Safe != len(f.Data) {
			t.Fatalf("a crash of %v: %s of %s, %q of it safe", cuts, show(now[i:i+1]), show(was[i:i+1]), safe[f.Name])
		}
		safe[f.Name] = f.Data
	}
}
