package disk

import (
	"bytes"
	"fmt"
	"math"
	"math/rand"
	"slices"
	"strconv"
	"strings"
	"testing"

	"gudgeon/api"
)

// file1 is a file of texts.
func file1(name, data string, safe int) api.File {
	return api.File{Name: name, Data: []byte(data), Safe: safe}
}

// loaded is a disk with files that may be.
func loaded(t *testing.T, l ...api.File) *Disk {
	t.Helper()
	d, e := Load(l)
	if e != api.OK || d == nil {
		t.Fatalf("Load(%s): error %d", show(l), e)
	}
	return d
}

// show is files as a text: nil and empty bytes are the same.
func show(l []api.File) string {
	var b strings.Builder
	for _, f := range l {
		if len(f.Data) > 20 {
			fmt.Fprintf(&b, "[%q of %d, %d safe]", f.Name, len(f.Data), f.Safe)
			continue
		}
		fmt.Fprintf(&b, "[%q %q %d]", f.Name, f.Data, f.Safe)
	}
	return b.String()
}

// has tells whether a disk has these files and no others, by Files and by Read.
func has(t *testing.T, what string, d *Disk, want ...api.File) {
	t.Helper()
	got := d.Files()
	if show(got) != show(want) {
		t.Errorf("%s: files %s, not %s", what, show(got), show(want))
		return
	}
	for i, f := range want {
		b, ok := d.Read(f.Name)
		if !ok || !bytes.Equal(b, f.Data) || !bytes.Equal(got[i].Data, f.Data) {
			t.Errorf("%s: %q is read as %q, %t", what, f.Name, b, ok)
		}
	}
}

// is tells whether a call told that error.
func is(t *testing.T, what string, e, want api.Errno) {
	t.Helper()
	if e != want {
		t.Errorf("%s: error %d, not %d", what, e, want)
	}
}

// fine are names that may be; wrong ones may not.
var (
	fine  = []string{"a", "z", "0", "9", ".", "-", "..", "wal-00000001", "hard-7.new", "m5", strings.Repeat("a", 32), strings.Repeat("-", 32)}
	wrong = []string{"", "A", "Z", "_", "/", " ", ":", "`", "{", ",", "+", "*", "\x00", "\x7f", "\xe1", "\xff", "é", "aB", "Ab", "a/b", "a b", "a\n", "\na", "a\x00", strings.Repeat("a", 33), strings.Repeat("a", 1000), strings.Repeat("a", 31) + "A", strings.Repeat("é", 16)}
)

// Di1: New is without files, and so is Load of none; two of them have nothing in common.
func TestNew(t *testing.T) {
	d, other := New(), New()
	has(t, "New", d)
	has(t, "Load(nil)", loaded(t))
	has(t, "Load of an empty list", loaded(t, []api.File{}...))
	is(t, "Append", d.Append("a", []byte("x")), api.OK)
	has(t, "New, the other one", other)
	if b, ok := other.Read("a"); ok || len(b) > 0 {
		t.Errorf("Read of none: %q, %t", b, ok)
	}
	has(t, "New, behind others", New())
}

// Di1: a disk has what was loaded, its safe bytes too.
func TestLoad(t *testing.T) {
	l := []api.File{file1("-", "", 0), file1(".", "abc", 0), file1("0", "abc", 1), file1("a", "abc", 2), file1("a.new", "abc", 3), file1("b", "", 0)}
	d := loaded(t, l...)
	has(t, "Load", d, l...)
	d.Crash(nil)
	has(t, "Load, and a crash", d, file1("-", "", 0), file1(".", "", 0), file1("0", "a", 1), file1("a", "ab", 2), file1("a.new", "abc", 3), file1("b", "", 0))
}

// Di1: each byte alone, all bytes, and names at their lengths' edges.
func TestNames(t *testing.T) {
	const may = "abcdefghijklmnopqrstuvwxyz0123456789.-"
	for c := range 256 {
		name := string([]byte{byte(c)})
		want := api.ErrArg
		if strings.Contains(may, name) {
			want = api.OK
		}
		for _, n := range []string{name, name + "a", "a" + name, "a" + name + "a"} {
			named(t, n, want)
		}
	}
	for _, n := range fine {
		named(t, n, api.OK)
	}
	for _, n := range wrong {
		named(t, n, api.ErrArg)
	}
	for size := range 70 {
		want := api.ErrArg
		if size >= 1 && size <= 32 {
			want = api.OK
		}
		named(t, strings.Repeat("q", size), want)
	}
}

// named tells whether all calls that may give a name tell that of it.
func named(t *testing.T, name string, want api.Errno) {
	t.Helper()
	d := New()
	is(t, fmt.Sprintf("Append(%q)", name), d.Append(name, []byte("x")), want)
	if _, ok := d.Read(name); ok != (want == api.OK) || len(d.Files()) > 1 || len(d.Files()) > 0 != ok {
		t.Errorf("Append(%q): files %s", name, show(d.Files()))
	}
	d, e := Load([]api.File{file1(name, "x", 1)})
	if e != want || (d != nil) != (want == api.OK) {
		t.Errorf("Load of %q: error %d, %t", name, e, d != nil)
	}
	d = loaded(t, file1("from", "xy", 1))
	is(t, fmt.Sprintf("Rename to %q", name), d.Rename("from", name), want)
	if want == api.OK {
		has(t, "Rename", d, file1(name, "xy", 1))
	} else {
		has(t, "Rename that is refused", d, file1("from", "xy", 1))
	}
}

// Di1: what Load refuses, wherever it stands in the list.
func TestLoadRefuses(t *testing.T) {
	a, b, c := file1("a", "abc", 3), file1("b", "", 0), file1("c", "x", 0)
	big := api.File{Name: "b", Data: make([]byte, api.MaxFile+1)}
	tests := map[string][]api.File{
		"one name twice":        {a, a},
		"one name twice, last":  {a, b, b},
		"falling":               {b, a},
		"falling, last":         {a, c, b},
		"falling, first":        {c, a, b},
		"apart, but twice":      {a, b, a},
		"longer ahead":          {file1("ab", "", 0), file1("a", "", 0)},
		"a digit behind a dash": {file1("0", "", 0), file1("-", "", 0)},
		"Safe below 0":          {file1("a", "abc", -1)},
		"Safe far below 0":      {file1("a", "abc", math.MinInt)},
		"Safe one above":        {file1("a", "abc", 4)},
		"Safe far above":        {file1("a", "abc", math.MaxInt)},
		"Safe of no bytes":      {file1("a", "", 1)},
		"Safe, last":            {a, b, file1("c", "x", 2)},
		"too many bytes":        {big},
		"too many bytes, last":  {a, big},
		"too many bytes, first": {big, c},
		"no name":               {file1("", "x", 0)},
		"no name, last":         {a, file1("", "", 0)},
		"no name, first":        {file1("", "", 0), a},
		"a name, last":          {a, file1("b_", "", 0)},
		"too many files":        many(65),
		"far too many files":    many(1000),
	}
	for name, l := range tests {
		if d, e := Load(l); d != nil || e != api.ErrArg {
			t.Errorf("%s: error %d, a disk: %t", name, e, d != nil)
		}
	}
	loaded(t, a, b, c)
	loaded(t, many(64)...)
	loaded(t, api.File{Name: "b", Data: make([]byte, api.MaxFile), Safe: api.MaxFile})
}

// many is so many files by rising names.
func many(n int) []api.File {
	var l []api.File
	for i := range n {
		l = append(l, file1(fmt.Sprintf("f-%04d", i), "x", 1))
	}
	return l
}

// Di1: bytes stand behind what was there, and what was safe stays that, and no more.
func TestAppend(t *testing.T) {
	d := New()
	is(t, "Append of nothing", d.Append("n", nil), api.OK)
	has(t, "a new file of no bytes", d, file1("n", "", 0))
	is(t, "Append", d.Append("b", []byte("ab")), api.OK)
	is(t, "Append", d.Append("b", []byte("cd")), api.OK)
	is(t, "Append", d.Append("b", []byte{}), api.OK)
	has(t, "appended", d, file1("b", "abcd", 0), file1("n", "", 0))
	is(t, "Sync", d.Sync("b"), api.OK)
	is(t, "Append", d.Append("b", []byte("\x00")), api.OK)
	is(t, "Append", d.Append("a", []byte("ab")), api.OK)
	is(t, "Append of nothing", d.Append("b", nil), api.OK)
	has(t, "appended behind a sync", d, file1("a", "ab", 0), file1("b", "abcd\x00", 4), file1("n", "", 0))
	is(t, "Sync", d.Sync("b"), api.OK)
	is(t, "Sync again", d.Sync("b"), api.OK)
	is(t, "Sync of no bytes", d.Sync("n"), api.OK)
	has(t, "synced", d, file1("a", "ab", 0), file1("b", "abcd\x00", 5), file1("n", "", 0))
}

// Di1: a file has MaxFile bytes at most, in one piece or in many.
func TestAppendFullFile(t *testing.T) {
	d := New()
	is(t, "too much at once", d.Append("a", make([]byte, api.MaxFile+1)), api.ErrFull)
	is(t, "far too much at once", d.Append("a", make([]byte, 3*api.MaxFile)), api.ErrFull)
	has(t, "no file was made", d)
	is(t, "all at once", d.Append("a", make([]byte, api.MaxFile)), api.OK)
	is(t, "one more", d.Append("a", []byte("x")), api.ErrFull)
	is(t, "none more", d.Append("a", nil), api.OK)
	is(t, "but one", d.Append("b", make([]byte, api.MaxFile-1)), api.OK)
	is(t, "two more", d.Append("b", []byte("xy")), api.ErrFull)
	has(t, "refused", d, api.File{Name: "a", Data: make([]byte, api.MaxFile)}, api.File{Name: "b", Data: make([]byte, api.MaxFile-1)})
	is(t, "one more", d.Append("b", []byte{0}), api.OK)
	is(t, "one more again", d.Append("b", []byte{0}), api.ErrFull)
	has(t, "full", d, api.File{Name: "a", Data: make([]byte, api.MaxFile)}, api.File{Name: "b", Data: make([]byte, api.MaxFile)})
	is(t, "Cut", d.Cut("b", 10), api.OK)
	is(t, "room again", d.Append("b", make([]byte, api.MaxFile-10)), api.OK)
	is(t, "no room again", d.Append("b", []byte{0}), api.ErrFull)
}

// Di1: a disk has MaxFiles files at most; those that are there may grow. A wrong name is told first.
func TestAppendFullDisk(t *testing.T) {
	d := loaded(t, many(63)...)
	is(t, "the 64th", d.Append("a", nil), api.OK)
	is(t, "the 65th", d.Append("b", []byte("x")), api.ErrFull)
	is(t, "the 65th, of no bytes", d.Append("b", nil), api.ErrFull)
	is(t, "a wrong name on a full disk", d.Append("B", nil), api.ErrArg)
	is(t, "a wrong name, and too much", d.Append("B", make([]byte, api.MaxFile+1)), api.ErrArg)
	if _, ok := d.Read("b"); ok || len(d.Files()) != 64 {
		t.Errorf("refused, but there: %d files", len(d.Files()))
	}
	is(t, "one that is there", d.Append("a", []byte("x")), api.OK)
	is(t, "another that is there", d.Append("f-0000", []byte("y")), api.OK)
	is(t, "Rename on a full disk", d.Rename("a", "b"), api.OK)
	is(t, "the old name is a new one", d.Append("a", nil), api.ErrFull)
	is(t, "Remove", d.Remove("f-0001"), api.OK)
	is(t, "room for one", d.Append("a", nil), api.OK)
	is(t, "and no other", d.Append("f-0001", nil), api.ErrFull)
	is(t, "Rename on another", d.Rename("a", "b"), api.OK)
	is(t, "room for one again", d.Append("f-0001", nil), api.OK)
}

// Di1, Di2: calls on what is not there change nothing, whatever else is wrong.
func TestNone(t *testing.T) {
	want := []api.File{file1("a", "abc", 1), file1("c", "x", 0)}
	d := loaded(t, want...)
	for _, name := range slices.Concat([]string{"b", "aa", "a.new", "d", "ab", "c-"}, wrong) {
		is(t, "Sync of "+strconv.Quote(name), d.Sync(name), api.ErrNone)
		for _, n := range []int{-1, 0, 1, math.MaxInt, math.MinInt} {
			is(t, "Cut of "+strconv.Quote(name), d.Cut(name, n), api.ErrNone)
		}
		for _, to := range []string{"a", "c", "x", name, "", "A"} {
			is(t, "Rename of "+strconv.Quote(name), d.Rename(name, to), api.ErrNone)
		}
		is(t, "Remove of "+strconv.Quote(name), d.Remove(name), api.ErrNone)
		if b, ok := d.Read(name); ok || len(b) > 0 {
			t.Errorf("Read(%q): %q, %t", name, b, ok)
		}
	}
	has(t, "refused", d, want...)
}

// Di1: Files are by rising bytes of names, however they came.
func TestFilesRise(t *testing.T) {
	names := []string{"-", "-a", ".", "0", "00", "10", "9", "a", "a-", "a.", "a0", "aa", "b", "wal-00000002", "wal-00000010", "z"}
	for range 20 {
		d := New()
		for _, i := range rand.New(rand.NewSource(5)).Perm(len(names)) {
			is(t, "Append", d.Append(names[i], []byte(names[i])), api.OK)
		}
		var want []api.File
		for _, n := range names {
			want = append(want, file1(n, n, 0))
		}
		has(t, "Files", d, want...)
	}
}

// Di2: a cut at each place, of each number of safe bytes.
func TestCut(t *testing.T) {
	const text = "abcdef"
	for safe := range len(text) + 1 {
		for n := range len(text) + 1 {
			d := loaded(t, file1("a", text, safe), file1("b", text, safe))
			is(t, "Cut", d.Cut("a", n), api.OK)
			has(t, "Cut", d, file1("a", text[:n], min(safe, n)), file1("b", text, safe))
			is(t, "Append", d.Append("a", []byte("xy")), api.OK)
			has(t, "Cut, and appended", d, file1("a", text[:n]+"xy", min(safe, n)), file1("b", text, safe))
			d.Crash(nil)
			has(t, "Cut, appended, and a crash", d, file1("a", text[:min(safe, n)], min(safe, n)), file1("b", text[:safe], safe))
		}
	}
	d := loaded(t, file1("a", text, 2), file1("b", "", 0))
	for _, n := range []int{-1, -2, 7, 8, math.MaxInt, math.MinInt} {
		is(t, "Cut", d.Cut("a", n), api.ErrArg)
	}
	is(t, "Cut of no bytes", d.Cut("b", 1), api.ErrArg)
	is(t, "Cut of no bytes", d.Cut("b", 0), api.OK)
	has(t, "refused", d, file1("a", text, 2), file1("b", "", 0))
}

// Di2: a renamed file is as it was; one that was named so is no more; and it is safe at once.
func TestRename(t *testing.T) {
	l := []api.File{file1("b", "bbbb", 2), file1("c", "c", 1)}
	d := loaded(t, l...)
	is(t, "Rename to a new name", d.Rename("b", "x"), api.OK)
	has(t, "to a new name", d, file1("c", "c", 1), file1("x", "bbbb", 2))
	is(t, "Sync of the old name", d.Sync("b"), api.ErrNone)
	is(t, "Append to the old name", d.Append("b", []byte("new")), api.OK)
	is(t, "Append to the new name", d.Append("x", []byte("e")), api.OK)
	has(t, "both names", d, file1("b", "new", 0), file1("c", "c", 1), file1("x", "bbbbe", 2))
	d.Crash(nil)
	has(t, "and a crash", d, file1("b", "", 0), file1("c", "c", 1), file1("x", "bb", 2))

	d = loaded(t, l...)
	is(t, "Rename to one that is there", d.Rename("b", "c"), api.OK)
	has(t, "to one that is there", d, file1("c", "bbbb", 2))
	d.Crash([]int{1})
	has(t, "and a crash", d, file1("c", "bbb", 3))

	d = loaded(t, l...)
	is(t, "Rename to itself", d.Rename("b", "b"), api.OK)
	has(t, "to itself", d, l...)

	d = loaded(t, l...)
	for _, to := range wrong {
		is(t, "Rename to "+strconv.Quote(to), d.Rename("b", to), api.ErrArg)
	}
	has(t, "refused", d, l...)
}

// Di2: a file that is removed is no more, not behind a crash either; a new one of its name has nothing of it.
func TestRemove(t *testing.T) {
	d := loaded(t, file1("a", "aa", 2), file1("b", "bb", 1), file1("c", "", 0))
	is(t, "Remove", d.Remove("a"), api.OK)
	has(t, "removed", d, file1("b", "bb", 1), file1("c", "", 0))
	is(t, "Remove again", d.Remove("a"), api.ErrNone)
	d.Crash([]int{9, 9, 9})
	has(t, "removed, and a crash", d, file1("b", "bb", 2), file1("c", "", 0))
	is(t, "Append", d.Append("a", []byte("x")), api.OK)
	has(t, "a new one", d, file1("a", "x", 0), file1("b", "bb", 2), file1("c", "", 0))
	for _, name := range []string{"c", "b", "a"} {
		is(t, "Remove", d.Remove(name), api.OK)
	}
	has(t, "all removed", d)
	is(t, "Append", d.Append("b", nil), api.OK)
	has(t, "a first one again", d, file1("b", "", 0))
}

// Di2, example 1: a crash of 1.
func TestExample1(t *testing.T) {
	d := New()
	is(t, "Append", d.Append("a", []byte("ab")), api.OK)
	is(t, "Sync", d.Sync("a"), api.OK)
	is(t, "Append", d.Append("a", []byte("cd")), api.OK)
	d.Crash([]int{1})
	has(t, "example 1", d, file1("a", "abc", 3))
}

// Di2: each cut of each number of safe bytes; all that stays is safe.
func TestCrash(t *testing.T) {
	const text = "abcdef"
	for safe := range len(text) + 1 {
		for _, cut := range []int{math.MinInt, -7, -1, 0, 1, 2, 3, 4, 5, 6, 7, 100, math.MaxInt - 6, math.MaxInt - 1, math.MaxInt} {
			d := loaded(t, file1("a", text, safe))
			stays := safe
			for stays < len(text) && stays-safe < cut {
				stays++
			}
			d.Crash([]int{cut})
			has(t, fmt.Sprintf("a crash of %d, %d safe", cut, safe), d, file1("a", text[:stays], stays))
			d.Crash(nil)
			has(t, "and another one", d, file1("a", text[:stays], stays))
			is(t, "Append", d.Append("a", []byte("xy")), api.OK)
			has(t, "and appended", d, file1("a", text[:stays]+"xy", stays))
		}
	}
}

// Di2: the i-th cut is the i-th file's, by rising names, however they came; files without cuts keep what is safe, and cuts without files are nobody's.
func TestCrashByNames(t *testing.T) {
	for _, names := range [][]string{{"a", "b", "c", "d"}, {"d", "c", "b", "a"}, {"c", "a", "d", "b"}} {
		for _, c := range []struct {
			cuts []int
			want [4]int
		}{
			{nil, [4]int{1, 1, 1, 1}},
			{[]int{}, [4]int{1, 1, 1, 1}},
			{[]int{2}, [4]int{3, 1, 1, 1}},
			{[]int{0, 1, 2, 3}, [4]int{1, 2, 3, 4}},
			{[]int{3, 2, 1}, [4]int{4, 3, 2, 1}},
			{[]int{-1, 2, -5, 9}, [4]int{1, 3, 1, 4}},
			{[]int{1, 1, 1, 1, 3, 3}, [4]int{2, 2, 2, 2}},
		} {
			d := New()
			for _, n := range names {
				is(t, "Append", d.Append(n, []byte("s")), api.OK)
				is(t, "Sync", d.Sync(n), api.OK)
				is(t, "Append", d.Append(n, []byte("tuv")), api.OK)
			}
			d.Crash(c.cuts)
			var want []api.File
			for i, n := range []string{"a", "b", "c", "d"} {
				want = append(want, file1(n, "stuv"[:c.want[i]], c.want[i]))
			}
			has(t, fmt.Sprintf("crash of %v", c.cuts), d, want...)
		}
	}
	d := New()
	d.Crash([]int{1, 2})
	has(t, "a crash without files", d)
}

// Of a Disk that neither New nor Load gave: ErrArg, nothing, false; and it stays so.
func TestNotGiven(t *testing.T) {
	for name, d := range map[string]*Disk{"nil": nil, "zero": {}, "made by new": new(Disk)} {
		for range 2 {
			for _, n := range []string{"a", "", "A"} {
				is(t, name+": Append", d.Append(n, []byte("x")), api.ErrArg)
				is(t, name+": Append of nothing", d.Append(n, nil), api.ErrArg)
				is(t, name+": Append of too much", d.Append(n, make([]byte, api.MaxFile+1)), api.ErrArg)
				is(t, name+": Sync", d.Sync(n), api.ErrArg)
				is(t, name+": Cut", d.Cut(n, 0), api.ErrArg)
				is(t, name+": Rename", d.Rename(n, "b"), api.ErrArg)
				is(t, name+": Rename", d.Rename(n, "B"), api.ErrArg)
				is(t, name+": Remove", d.Remove(n), api.ErrArg)
				if b, ok := d.Read(n); ok || len(b) > 0 {
					t.Errorf("%s: Read: %q, %t", name, b, ok)
				}
			}
			d.Crash(nil)
			d.Crash([]int{1, 2})
			has(t, name, d)
		}
	}
	is(t, "by a name that may not be a given one is told: Sync", New().Sync(""), api.ErrNone)
}

// R3: what is handed in is not kept, nor changed, nor what lies behind it.
func TestArgumentsStay(t *testing.T) {
	room := []byte("abcdefgh")
	d := New()
	is(t, "Append", d.Append("a", room[:2]), api.OK)
	is(t, "Append", d.Append("a", room[2:4]), api.OK)
	l := []api.File{{Name: "a", Data: room[:3], Safe: 1}, {Name: "b", Data: room[:5]}, {Name: "c"}}
	from := loaded(t, l[:2]...)
	is(t, "Append to what was loaded", from.Append("a", []byte("xyz")), api.OK)
	is(t, "Cut of what was loaded", from.Cut("b", 1), api.OK)
	is(t, "Append to what was loaded", from.Append("b", []byte("xyz")), api.OK)
	cuts := []int{1, -1, 5}
	from.Crash(cuts[:2])
	if string(room) != "abcdefgh" || !slices.Equal(cuts, []int{1, -1, 5}) || show(l) != `["a" "abc" 1]["b" "abcde" 0]["c" "" 0]` {
		t.Errorf("changed: %q, %v, %s", room, cuts, show(l))
	}
	copy(room, "????????")
	l[0] = file1("q", "", 0)
	has(t, "what was appended", d, file1("a", "abcd", 0))
	has(t, "what was loaded", from, file1("a", "ab", 2), file1("b", "", 0))
}

// R3: an answer has nothing in common with what the disk keeps, nor with another list of it, its spare room too.
func TestAnswersAreNew(t *testing.T) {
	want := []api.File{file1("a", "abc", 1), file1("b", "", 0), file1("c", "abcdefg", 7)}
	d := loaded(t, want...)
	spoil := func() {
		for range 2 {
			l := d.Files()
			for _, f := range l {
				fill(f.Data)
			}
			for _, f := range want {
				b, _ := d.Read(f.Name)
				fill(b)
			}
			_ = append(l, file1("z", "z", 0))
			for i := range l {
				l[i] = api.File{}
			}
		}
	}
	spoil()
	has(t, "spoilt", d, want...)
	for i, f := range want {
		is(t, "Append", d.Append(f.Name, []byte("xy")), api.OK)
		want[i] = file1(f.Name, string(f.Data)+"xy", f.Safe)
	}
	spoil()
	has(t, "appended, and spoilt", d, want...)
	l := d.Files()
	fill(l[0].Data)
	if show(l[1:]) != show(want[1:]) {
		t.Errorf("lists of one answer: %s", show(l))
	}
	is(t, "Append", d.Append("c", []byte("q")), api.OK)
	if show(l[1:]) != show(want[1:]) {
		t.Errorf("an answer changed later: %s", show(l))
	}
}

// fill spoils bytes, and the room behind them.
func fill(b []byte) {
	b = b[:cap(b)]
	for i := range b {
		b[i] = '?'
	}
}

// R3: two disks of the same files, and a disk of another's files, go their own ways.
func TestDisksApart(t *testing.T) {
	l := []api.File{file1("a", "abc", 1), file1("b", "xy", 2)}
	one, two := loaded(t, l...), loaded(t, l...)
	three := loaded(t, one.Files()...)
	is(t, "Append", one.Append("a", []byte("d")), api.OK)
	is(t, "Remove", one.Remove("b"), api.OK)
	is(t, "Append", three.Append("a", []byte("e")), api.OK)
	is(t, "Cut", three.Cut("b", 1), api.OK)
	is(t, "Append", three.Append("b", []byte("z")), api.OK)
	has(t, "one", one, file1("a", "abcd", 1))
	has(t, "two", two, l...)
	has(t, "three", three, file1("a", "abce", 1), file1("b", "xz", 1))
}
