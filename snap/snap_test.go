package snap

import (
	"bytes"
	"fmt"
	"math"
	"slices"
	"strings"
	"testing"

	"gudgeon/api"
	"gudgeon/disk"
)

// is tells whether a call told that error.
func is(t *testing.T, what string, e, want api.Errno) {
	t.Helper()
	if e != want {
		t.Errorf("%s: error %d, not %d", what, e, want)
	}
}

// loaded is a disk with files.
func loaded(t *testing.T, l ...api.File) *disk.Disk {
	t.Helper()
	d, e := disk.Load(l)
	if e != api.OK {
		t.Fatalf("Load(%s): error %d", showFiles(l), e)
	}
	return d
}

// file is a file of which so many bytes are safe.
func file(name string, b []byte, safe int) api.File {
	return api.File{Name: name, Data: b, Safe: safe}
}

// allSafe is a file of which all bytes are.
func allSafe(name string, b []byte) api.File {
	return file(name, b, len(b))
}

// showFiles is files as a text.
func showFiles(l []api.File) string {
	var s strings.Builder
	for _, f := range l {
		fmt.Fprintf(&s, "[%s %s %d]", f.Name, brief(f.Data), f.Safe)
	}
	return s.String()
}

// hasFiles tells whether a disk has these files and no others.
func hasFiles(t *testing.T, what string, d *disk.Disk, want ...api.File) {
	t.Helper()
	if got := showFiles(d.Files()); got != showFiles(want) {
		t.Errorf("%s: files %s, not %s", what, got, showFiles(want))
	}
}

// saves tells whether a snapshot is saved.
func saves(t *testing.T, d *disk.Disk, group int, s shot) {
	t.Helper()
	is(t, fmt.Sprintf("Save(%d, %s)", group, s.show()), Save(d, group, s.index, s.term, s.b), api.OK)
}

// loads tells whether Load tells that.
func loads(t *testing.T, what string, d *disk.Disk, group int, want shot, code api.Errno) {
	t.Helper()
	was := showFiles(d.Files())
	if s, e := told(d, group); !s.equal(want) || e != code {
		t.Errorf("%s: Load(%d): %s, error %d, not %s, error %d", what, group, s.show(), e, want.show(), code)
	}
	if now := showFiles(d.Files()); now != was {
		t.Errorf("%s: Load(%d) changed files: %s, not %s", what, group, now, was)
	}
}

// some is so many bytes, each unlike its neighbours, also those 256 away.
func some(n int) []byte {
	b := make([]byte, n)
	for i := range b {
		b[i] = byte(i*7 + i/251)
	}
	return b
}

// edges is numbers where their bytes become more, and where kinds of numbers end.
func edges() []uint64 {
	l := []uint64{0, 1, 2, 3, 7, 8, math.MaxUint32, math.MaxInt64, math.MaxUint64}
	for bits := 7; bits < 64; bits += 7 {
		l = append(l, 1<<bits-1, 1<<bits)
	}
	return l
}

// groupsBeyond is groups that may not be.
func groupsBeyond() []int {
	return []int{-1, 1000, -4, -999, 1001, 9999, 1 << 16, 1 << 32, 1<<32 + 4, math.MaxInt, math.MinInt, math.MinInt + 4}
}

// disksBeyond is disks that layer 5 did not give.
func disksBeyond() map[string]*disk.Disk {
	return map[string]*disk.Disk{"nil": nil, "zero": {}, "made by new": new(disk.Disk)}
}

// fine is a snapshot that may be; older is one ahead of it.
func fine() shot  { return shot{3, 2, []byte("ab")} }
func older() shot { return shot{1, 1, []byte("old")} }

// Words: a snapshot's bytes, to the letter.
func TestBytes(t *testing.T) {
	for _, c := range []struct {
		s    shot
		want []byte // but for the sum
	}{
		{shot{1, 0, nil}, []byte{7, 0, 0, 0, 0, 3, 1, 0}},
		{shot{3, 2, []byte("ab")}, []byte{9, 0, 0, 0, 0, 3, 3, 2, 'a', 'b'}},
		{shot{300, 128, []byte{0}}, []byte{10, 0, 0, 0, 0, 3, 0xac, 2, 0x80, 1, 0}},
		{shot{math.MaxUint64, 1 << 63, []byte{9}}, []byte{26, 0, 0, 0, 0, 3, 255, 255, 255, 255, 255, 255, 255, 255, 255, 1, 128, 128, 128, 128, 128, 128, 128, 128, 128, 1, 9}},
	} {
		d := disk.New()
		saves(t, d, 4, c.s)
		b, _ := d.Read("snap-4")
		if !bytes.Equal(b, framed(3, c.want[6:])) || len(b) != len(c.want) || b[0] != c.want[0] || !bytes.Equal(b[5:], c.want[5:]) {
			t.Errorf("%s: %x, not %x but for the sum", c.s.show(), b, c.want)
		}
	}
}

// Sn1: what is saved is loaded, at all edges of its numbers.
func TestThereAndBack(t *testing.T) {
	for _, index := range edges()[1:] {
		for _, term := range edges() {
			for _, b := range [][]byte{nil, {0}, {0x80}, []byte("ab"), {3, 2, 1}} {
				d := disk.New()
				s := shot{index, term, b}
				saves(t, d, 4, s)
				hasFiles(t, "saved", d, allSafe("snap-4", bytesBy(s)))
				loads(t, "saved", d, 4, s, api.OK)
			}
		}
	}
}

// Sn1: so many bytes may be, and no more; wrong is told of files likewise.
func TestHowManyBytes(t *testing.T) {
	for _, n := range []int{0, 1, 127, 128, 255, 256, 257, 4096, 16384, 32767, 32768} {
		for _, number := range []uint64{1, math.MaxUint64} {
			d := disk.New()
			s := shot{number, number, some(n)}
			saves(t, d, 4, s)
			hasFiles(t, "saved", d, allSafe("snap-4", bytesBy(s)))
			loads(t, "saved", d, 4, s, api.OK)
		}
	}
	for _, n := range []int{32769, 32770, 40000, 65535, 65536, 65537, 1 << 20, 1<<20 + 1} {
		d := disk.New()
		is(t, fmt.Sprint(n, " bytes"), Save(d, 4, 1, 1, some(n)), api.ErrArg)
		hasFiles(t, "refused", d)
	}
	for _, n := range []int{32769, 32770, 40000, 65000} {
		loads(t, fmt.Sprint(n, " bytes"), loaded(t, allSafe("snap-4", bytesBy(shot{1, 1, some(n)}))), 4, shot{}, api.ErrText)
	}
}

// strange is bytes that are those of no snapshot, each by another fault.
func strange() map[string][]byte {
	whole, long := bytesBy(fine()), slices.Concat(make([]byte, 9), []byte{1})
	for i := range 9 {
		long[i] = 0x80
	}
	return map[string][]byte{
		"nothing":                   nil,
		"a nought":                  {0},
		"many noughts":              make([]byte, 40),
		"a full file of noughts":    make([]byte, api.MaxFile),
		"a number without end":      {0x80, 0x80, 0x80},
		"another form of the size":  slices.Concat([]byte{0x89, 0}, whole[1:]),
		"a byte behind":             slices.Concat(whole, []byte{0}),
		"a byte ahead":              slices.Concat([]byte{0}, whole),
		"twice":                     slices.Concat(whole, whole),
		"an empty frame behind":     slices.Concat(whole, framed(3, nil)),
		"the beginning of another":  slices.Concat(whole, whole[:4]),
		"kind 0":                    framed(0, whole[6:]),
		"kind 1":                    framed(1, whole[6:]),
		"kind 2":                    framed(2, whole[6:]),
		"kind 4":                    framed(4, whole[6:]),
		"kind 131":                  framed(131, whole[6:]),
		"no frame":                  whole[6:],
		"no number":                 framed(3, nil),
		"one number":                framed(3, numbers(3)),
		"Index 0":                   framed(3, numbers(0, 2, 1)),
		"Index 0, nothing else":     framed(3, numbers(0, 0)),
		"another form of Index":     framed(3, []byte{0x83, 0, 2, 'a'}),
		"another form of Index 0":   framed(3, []byte{0x80, 0, 2, 'a'}),
		"another form of Term":      framed(3, []byte{3, 0x82, 0, 'a'}),
		"another form of Term 0":    framed(3, []byte{3, 0x80, 0}),
		"Index without end":         framed(3, []byte{0x83}),
		"Term without end":          framed(3, []byte{3, 0x81}),
		"Index of 65 bits":          framed(3, slices.Concat(long[:9], []byte{2, 2, 'a'})),
		"Term of 65 bits":           framed(3, slices.Concat([]byte{3}, long[:9], []byte{3, 'a'})),
		"Term of eleven digits":     framed(3, slices.Concat([]byte{3, 0x80}, long, []byte{'a'})),
		"the sum's bytes backward":  slices.Concat(whole[:1], []byte{whole[4], whole[3], whole[2], whole[1]}, whole[5:]),
		"two frames, wrong by kind": slices.Concat(framed(1, numbers(3, 2)), whole),
	}
}

// Sn1: a group's file that is no snapshot's bytes is told as that, and saved over.
func TestText(t *testing.T) {
	for what, b := range strange() {
		for _, safe := range []int{0, len(b)} {
			d := loaded(t, file("snap-4", b, safe))
			loads(t, what, d, 4, shot{}, api.ErrText)
			saves(t, d, 4, fine())
			loads(t, what+", saved over", d, 4, fine(), api.OK)
		}
	}
}

// Sn1: no beginning of a snapshot's bytes, and no bytes with bits of them turned, are any snapshot's.
func TestTornAndTurned(t *testing.T) {
	for _, s := range []shot{fine(), {1, 0, nil}, {300, 128, some(30)}, {math.MaxUint64, math.MaxUint64, some(130)}} {
		whole := bytesBy(s)
		for n := range len(whole) {
			refused(t, "a beginning", whole[:n])
			refused(t, "without a beginning", whole[n+1:])
			for mask := 1; mask < 256; mask++ {
				b := bytes.Clone(whole)
				b[n] ^= byte(mask)
				refused(t, fmt.Sprintf("turned at %d", n), b)
			}
			for _, more := range []byte{0, 1, 3, 127, 128, 255} {
				refused(t, "a byte more", slices.Insert(bytes.Clone(whole), n, more))
			}
		}
	}
}

// refused tells whether a group's file of such bytes has no snapshot.
func refused(t *testing.T, what string, b []byte) {
	t.Helper()
	d := disk.New()
	d.Append("snap-4", b)
	if index, term, data, e := Load(d, 4); index != 0 || term != 0 || len(data) != 0 || e != api.ErrText {
		t.Errorf("%s: Load of %x: %d, %d, %x, error %d, not ErrText", what, b, index, term, data, e)
	}
}

// Sn1: all short bytes within the frame are read as the words have it.
func TestLoadByWords(t *testing.T) {
	alphabet := []byte{0, 1, 7, 127, 128, 129, 255}
	for size := range 6 {
		for i := range int(math.Pow(7, float64(size))) {
			var data []byte
			for n := i; len(data) < size; n /= 7 {
				data = append(data, alphabet[n%7])
			}
			readAsWords(t, framed(3, data))
		}
	}
}

// readAsWords tells whether a group's file of such bytes is loaded as the words have it.
func readAsWords(t *testing.T, b []byte) {
	t.Helper()
	d := disk.New()
	if d.Append("snap-4", b) != api.OK {
		return
	}
	want, ok := shotBy(b)
	s, e := told(d, 4)
	if !s.equal(want) || (e == api.OK) != ok || e != api.OK && e != api.ErrText {
		t.Fatalf("Load of %x: %s, error %d, not %s, %t", b, s.show(), e, want.show(), ok)
	}
}

// Sn1: each group has its own file, named as the words have it, synced, with nothing beside it.
func TestNames(t *testing.T) {
	for group := range 1000 {
		d := disk.New()
		s := shot{uint64(group) + 1, 7, []byte{byte(group)}}
		saves(t, d, group, s)
		hasFiles(t, "saved", d, allSafe(fmt.Sprintf("snap-%d", group), bytesBy(s)))
		loads(t, "saved", d, group, s, api.OK)
	}
}

// Sn1: groups do not meet, though names begin alike.
func TestGroupsApart(t *testing.T) {
	d := disk.New()
	groups := []int{0, 1, 10, 100, 11, 110, 111, 9, 99, 999, 90, 900}
	of := func(round uint64, group int) shot { return shot{round + 1, uint64(group), some(group)} }
	for round := range uint64(3) {
		for _, group := range groups {
			saves(t, d, group, of(round, group))
		}
		for _, group := range groups {
			loads(t, "its own", d, group, of(round, group), api.OK)
		}
	}
	loads(t, "no group's", d, 2, shot{}, api.ErrNone)
	if n := len(d.Files()); n != len(groups) {
		t.Errorf("%d files of %d groups", n, len(groups))
	}
}

// Sn1: without the group's file there is none, whatever else is there.
func TestLoadNone(t *testing.T) {
	loads(t, "a new disk", disk.New(), 4, shot{}, api.ErrNone)
	b := bytesBy(fine())
	for _, name := range []string{"snap-4.new", "snap-04", "snap-004", "snap-40", "snap-", "snap--4", "snap", "snap-4-", "snap-4.", "snap4", "4", "snap-5", "hard-4", "snap-4.new.new", "wal-00000004"} {
		loads(t, name, loaded(t, allSafe(name, b)), 4, shot{}, api.ErrNone)
	}
	loads(t, "one that is there", loaded(t, allSafe("snap-4", b)), 4, fine(), api.OK)
	loads(t, "one that is not safe", loaded(t, file("snap-4", b, 0)), 4, fine(), api.OK)
	loads(t, "one without bytes", loaded(t, file("snap-4", nil, 0)), 4, shot{}, api.ErrText)
}

// Sn1: wrong arguments, each alone and all together; nothing on the disk turns.
func TestArg(t *testing.T) {
	old := []api.File{allSafe("snap-4", bytesBy(older())), file("snap-4.new", []byte("torn"), 1)}
	d := loaded(t, old...)
	for _, group := range groupsBeyond() {
		is(t, fmt.Sprint("group ", group), Save(d, group, 3, 2, nil), api.ErrArg)
		is(t, fmt.Sprint("all, group ", group), Save(d, group, 0, 2, some(32769)), api.ErrArg)
		loads(t, "beyond", d, group, shot{}, api.ErrArg)
	}
	for _, term := range edges() {
		is(t, "Index 0", Save(d, 4, 0, term, []byte("ab")), api.ErrArg)
	}
	is(t, "too many bytes", Save(d, 4, 3, 2, some(32769)), api.ErrArg)
	hasFiles(t, "refused", d, old...)
	for name, d := range disksBeyond() {
		for _, group := range append(groupsBeyond(), 0, 4, 999) {
			is(t, name, Save(d, group, 3, 2, nil), api.ErrArg)
			is(t, name, Save(d, group, 0, 2, nil), api.ErrArg)
			is(t, name, Save(d, group, 3, 2, some(32769)), api.ErrArg)
			loads(t, name, d, group, shot{}, api.ErrArg)
		}
		hasFiles(t, name, d)
	}
}

// Sn1: ErrArg comes ahead of ErrFull.
func TestArgAheadOfFull(t *testing.T) {
	d, _ := crowded(t, 64)
	is(t, "full", Save(d, 4, 3, 2, nil), api.ErrFull)
	is(t, "full, a group beyond", Save(d, 1000, 3, 2, nil), api.ErrArg)
	is(t, "full, a group below", Save(d, -1, 3, 2, nil), api.ErrArg)
	is(t, "full, Index 0", Save(d, 4, 0, 2, nil), api.ErrArg)
	is(t, "full, too many bytes", Save(d, 4, 3, 2, some(32769)), api.ErrArg)
}

// Sn1: a disk without a place for one more file refuses, though the group's is there; nothing turns, and Load tells what it told.
func TestFull(t *testing.T) {
	_, others := crowded(t, 63)
	l := append(others, file("snap-4", bytesBy(older()), 2))
	d := loaded(t, l...)
	for _, group := range []int{4, 5} {
		is(t, "full", Save(d, group, 3, 2, []byte("ab")), api.ErrFull)
		hasFiles(t, "full", d, l...)
	}
	loads(t, "full", d, 4, older(), api.OK)
	loads(t, "full, another group", d, 5, shot{}, api.ErrNone)

	is(t, "Remove", d.Remove("other-00"), api.OK)
	saves(t, d, 4, fine())
	loads(t, "room again", d, 4, fine(), api.OK)
	saves(t, d, 5, older())
	loads(t, "the last place", d, 5, older(), api.OK)
	is(t, "full again", Save(d, 4, 9, 9, nil), api.ErrFull)
	loads(t, "full again", d, 4, fine(), api.OK)
}

// Sn1: on a full disk that has the new file already nothing is refused: that one is written.
func TestFullWithNewFile(t *testing.T) {
	_, others := crowded(t, 63)
	d := loaded(t, append(slices.Clone(others), file("snap-4.new", []byte("torn"), 1))...)
	saves(t, d, 4, fine())
	hasFiles(t, "64 files", d, append(slices.Clone(others), allSafe("snap-4", bytesBy(fine())))...)

	d = loaded(t, append(slices.Clone(others[:62]), allSafe("snap-4", bytesBy(older())), file("snap-4.new", nil, 0))...)
	saves(t, d, 4, fine())
	hasFiles(t, "64 files, both", d, append(slices.Clone(others[:62]), allSafe("snap-4", bytesBy(fine())))...)

	d = loaded(t, append(slices.Clone(others), file("snap-5.new", nil, 0))...)
	is(t, "another group's new file", Save(d, 4, 3, 2, nil), api.ErrFull)
}

// Sn1: whatever the new file has, it is cut to nothing first: it may be full, or a snapshot's already.
func TestNewFileIsCut(t *testing.T) {
	whole := bytesBy(fine())
	for what, b := range map[string][]byte{
		"empty":                nil,
		"a byte":               {9},
		"torn":                 whole[:5],
		"the same snapshot":    whole,
		"another snapshot":     bytesBy(older()),
		"one of as many bytes": bytesBy(shot{9, 9, some(32768)}),
		"full":                 make([]byte, api.MaxFile),
		"full but for a byte":  make([]byte, api.MaxFile-1),
		"full but for one":     make([]byte, api.MaxFile-len(whole)),
	} {
		for _, safe := range []int{0, len(b) / 2, len(b)} {
			for _, old := range [][]api.File{nil, {allSafe("snap-4", bytesBy(older()))}} {
				for _, s := range []shot{fine(), {7, 7, some(32768)}} {
					d := loaded(t, append(slices.Clone(old), file("snap-4.new", b, safe))...)
					saves(t, d, 4, s)
					hasFiles(t, what, d, allSafe("snap-4", bytesBy(s)))
				}
			}
		}
	}
}

// Sn1: what is saved stands in the old one's place, however long that was, of whatever Index and Term.
func TestSaveOver(t *testing.T) {
	d := disk.New()
	for _, s := range []shot{{math.MaxUint64, math.MaxUint64, some(32768)}, fine(), {1, 0, nil}, {1 << 40, 0, some(300)}, {5, 9, some(32768)}, {5, 9, some(32767)}} {
		saves(t, d, 4, s)
		hasFiles(t, "saved", d, allSafe("snap-4", bytesBy(s)))
		loads(t, "saved", d, 4, s, api.OK)
	}
	long := loaded(t, file("snap-4", make([]byte, api.MaxFile), 3))
	saves(t, long, 4, fine())
	hasFiles(t, "over a long one", long, allSafe("snap-4", bytesBy(fine())))
}

// Sn1: other files stay as they are, safe or not.
func TestOthersStay(t *testing.T) {
	others := []api.File{file("a", []byte("abc"), 1), file("snap-40", []byte("x"), 0), file("snap-40.new", []byte("y"), 0), file("z", nil, 0)}
	d := loaded(t, others...)
	saves(t, d, 4, fine())
	hasFiles(t, "saved", d, others[0], allSafe("snap-4", bytesBy(fine())), others[1], others[2], others[3])
}

// Sn3: behind each crash, at each of the steps by which a snapshot is saved, the group's is the old one or the new one, whole; and the next is saved.
func TestCrashAtEachStep(t *testing.T) {
	s, next := shot{9, 4, some(20)}, shot{10, 4, some(40)}
	b := bytesBy(s)
	steps := [][]api.File{
		{allSafe("snap-4", bytesBy(older())), file("snap-4.new", []byte("left"), 4)},
		{allSafe("snap-4", bytesBy(older())), file("snap-4.new", nil, 0)},
		{allSafe("snap-4", bytesBy(older())), file("snap-4.new", b, 0)},
		{allSafe("snap-4", bytesBy(older())), allSafe("snap-4.new", b)},
		{allSafe("snap-4", b)},
	}
	for i, l := range steps {
		want := older()
		if i == len(steps)-1 {
			want = s
		}
		for cut := range len(b) + 2 {
			d := loaded(t, l...)
			d.Crash([]int{cut - 1, cut})
			loads(t, fmt.Sprintf("step %d, crash of %d", i, cut), d, 4, want, api.OK)
			saves(t, d, 4, next)
			d.Crash([]int{-1, cut})
			loads(t, fmt.Sprintf("step %d, saved behind it", i), d, 4, next, api.OK)
		}
	}
}

// Sn3: a refused Save leaves what was saved last, behind a crash, too.
func TestRefusedThenCrash(t *testing.T) {
	d, _ := crowded(t, 63)
	saves(t, d, 4, fine())
	is(t, "full", Save(d, 4, 4, 4, nil), api.ErrFull)
	is(t, "Index 0", Save(d, 4, 0, 4, nil), api.ErrArg)
	is(t, "too many bytes", Save(d, 4, 4, 4, some(32769)), api.ErrArg)
	d.Crash(nil)
	loads(t, "behind the crash", d, 4, fine(), api.OK)
}

// R3: what is handed to Save is neither changed nor kept, nor is what lies behind it; what Load tells is new.
func TestSnapMemory(t *testing.T) {
	d := disk.New()
	room := []byte("ab+behind")
	is(t, "Save", Save(d, 4, 3, 2, room[:2]), api.OK)
	if string(room) != "ab+behind" {
		t.Errorf("Save changed %q", room)
	}
	copy(room, "??")
	loads(t, "what was handed in is turned", d, 4, fine(), api.OK)

	_, _, b, _ := Load(d, 4)
	spoilAll(b)
	loads(t, "what was told is turned", d, 4, fine(), api.OK)
	hasFiles(t, "what was told is turned", d, allSafe("snap-4", bytesBy(fine())))

	_, _, first, _ := Load(d, 4)
	_, _, second, _ := Load(d, 4)
	spoilAll(first)
	if string(second) != "ab" {
		t.Errorf("two answers share memory: %q", second)
	}
}

// spoilAll turns bytes and their spare room.
func spoilAll(b []byte) {
	b = b[:cap(b)]
	for i := range b {
		b[i] ^= 0xff
	}
}

// Sn1: bytes that are told as a snapshot are just that snapshot's.
func FuzzLoad(f *testing.F) {
	for _, b := range strange() {
		if len(b) < 100 {
			f.Add(b)
		}
	}
	f.Add(bytesBy(fine()))
	f.Add(bytesBy(fine())[6:])
	f.Add(bytesBy(shot{math.MaxUint64, math.MaxUint64, some(300)}))
	f.Fuzz(func(t *testing.T, b []byte) {
		readAsWords(t, b)
		readAsWords(t, framed(3, b)) // behind the right sum more is read
	})
}
