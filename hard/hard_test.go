package hard

import (
	"bytes"
	"fmt"
	"math"
	"slices"
	"strings"
	"testing"

	"gudgeon/api"
	"gudgeon/disk"
)

// is tells whether a call told that error.
func is(t *testing.T, what string, e, want api.Errno) {
	t.Helper()
	if e != want {
		t.Errorf("%s: error %d, not %d", what, e, want)
	}
}

// state is one.
func state(term uint64, vote int, commit uint64) api.Hard {
	return api.Hard{Term: term, Vote: vote, Commit: commit}
}

// loaded is a disk with files.
func loaded(t *testing.T, l ...api.File) *disk.Disk {
	t.Helper()
	d, e := disk.Load(l)
	if e != api.OK {
		t.Fatalf("Load(%s): error %d", showFiles(l), e)
	}
	return d
}

// file is a file of which so many bytes are safe.
func file(name string, b []byte, safe int) api.File {
	return api.File{Name: name, Data: b, Safe: safe}
}

// allSafe is a file of which all bytes are.
func allSafe(name string, b []byte) api.File {
	return file(name, b, len(b))
}

// showFiles is files as a text.
func showFiles(l []api.File) string {
	var s strings.Builder
	for _, f := range l {
		fmt.Fprintf(&s, "[%s %x %d]", f.Name, f.Data, f.Safe)
	}
	return s.String()
}

// hasFiles tells whether a disk has these files and no others.
func hasFiles(t *testing.T, what string, d *disk.Disk, want ...api.File) {
	t.Helper()
	if got := showFiles(d.Files()); got != showFiles(want) {
		t.Errorf("%s: files %s, not %s", what, got, showFiles(want))
	}
}

// saves tells whether a state is saved.
func saves(t *testing.T, d *disk.Disk, group int, h api.Hard) {
	t.Helper()
	is(t, fmt.Sprintf("Save(%d, %v)", group, h), Save(d, group, h), api.OK)
}

// loads tells whether Load tells that.
func loads(t *testing.T, what string, d *disk.Disk, group int, want api.Hard, code api.Errno) {
	t.Helper()
	was := showFiles(d.Files())
	if h, e := Load(d, group); h != want || e != code {
		t.Errorf("%s: Load(%d): %v, error %d, not %v, error %d", what, group, h, e, want, code)
	}
	if now := showFiles(d.Files()); now != was {
		t.Errorf("%s: Load(%d) changed files: %s, not %s", what, group, now, was)
	}
}

// encoded is a state's bytes.
func encoded(t *testing.T, h api.Hard) []byte {
	t.Helper()
	b, e := Encode(h)
	is(t, fmt.Sprintf("Encode(%v)", h), e, api.OK)
	return b
}

// refused tells whether bytes are none of a state.
func refused(t *testing.T, what string, b []byte) {
	t.Helper()
	if h, e := Decode(b); h != (api.Hard{}) || e != api.ErrText {
		t.Errorf("%s: Decode(%x): %v, error %d, not ErrText", what, b, h, e)
	}
}

// edges is numbers where their bytes become more, and where kinds of numbers end.
func edges() []uint64 {
	l := []uint64{0, 1, 2, 3, 7, 8, math.MaxUint32, math.MaxInt64, math.MaxUint64}
	for bits := 7; bits < 64; bits += 7 {
		l = append(l, 1<<bits-1, 1<<bits)
	}
	return l
}

// votesBeyond is votes that may not be; some of them would, if their low bits were taken alone.
func votesBeyond() []int {
	return []int{-1, 8, -7, -8, 9, 128, 255, 256, 259, 1 << 16, 1 << 32, 1<<32 + 1, math.MaxInt32, math.MaxInt, math.MinInt, math.MinInt + 3}
}

// groupsBeyond is groups that may not be.
func groupsBeyond() []int {
	return []int{-1, 1000, -4, -999, 1001, 9999, 1 << 16, 1 << 32, 1<<32 + 4, math.MaxInt, math.MinInt, math.MinInt + 4}
}

// disksBeyond is disks that layer 5 did not give.
func disksBeyond() map[string]*disk.Disk {
	return map[string]*disk.Disk{"nil": nil, "zero": {}, "made by new": new(disk.Disk)}
}

// Example 1.
func TestExample1(t *testing.T) {
	d := disk.New()
	saves(t, d, 4, state(3, 1, 7))
	d.Crash(nil)
	loads(t, "behind the crash", d, 4, state(3, 1, 7), api.OK)
}

// Words: a state's bytes, to the letter.
func TestBytes(t *testing.T) {
	for _, c := range []struct {
		h    api.Hard
		want []byte // but for the sum
	}{
		{state(0, 0, 0), []byte{8, 0, 0, 0, 0, 2, 0, 0, 0}},
		{state(3, 1, 7), []byte{8, 0, 0, 0, 0, 2, 3, 1, 7}},
		{state(300, 7, 128), []byte{10, 0, 0, 0, 0, 2, 0xac, 2, 7, 0x80, 1}},
		{state(math.MaxUint64, 5, 1<<63), []byte{26, 0, 0, 0, 0, 2, 255, 255, 255, 255, 255, 255, 255, 255, 255, 1, 5, 128, 128, 128, 128, 128, 128, 128, 128, 128, 1}},
	} {
		b := encoded(t, c.h)
		if !bytes.Equal(b, framed(2, c.want[6:])) || len(b) != len(c.want) || b[0] != c.want[0] || !bytes.Equal(b[5:], c.want[5:]) {
			t.Errorf("%v: %x, not %x but for the sum", c.h, b, c.want)
		}
	}
}

// Ha1: of each state that may be Encode tells its bytes, and Decode of these tells it.
func TestThereAndBack(t *testing.T) {
	for _, term := range edges() {
		for vote := range 8 {
			for _, commit := range edges() {
				h := state(term, vote, commit)
				b := encoded(t, h)
				if !bytes.Equal(b, bytesBy(h)) {
					t.Errorf("Encode(%v): %x, not %x", h, b, bytesBy(h))
				}
				if back, e := Decode(b); back != h || e != api.OK {
					t.Errorf("Decode of Encode(%v): %v, error %d", h, back, e)
				}
			}
		}
	}
}

// Ha1: what may not be has no bytes; by its Vote alone.
func TestEncodeArg(t *testing.T) {
	for _, vote := range votesBeyond() {
		for _, n := range []uint64{0, 3, math.MaxUint64} {
			if b, e := Encode(state(n, vote, n)); e != api.ErrArg || len(b) != 0 {
				t.Errorf("Vote %d: %x, error %d", vote, b, e)
			}
		}
	}
}

// strange is bytes that are those of no state that may be, each by another fault.
func strange() map[string][]byte {
	fine, long := bytesBy(state(3, 1, 7)), slices.Concat(make([]byte, 9), []byte{1})
	for i := range 9 {
		long[i] = 0x80
	}
	return map[string][]byte{
		"nothing":                   nil,
		"empty":                     {},
		"a nought":                  {0},
		"many noughts":              make([]byte, 40),
		"a number without end":      {0x80, 0x80, 0x80},
		"another form of the size":  slices.Concat([]byte{0x88, 0}, fine[1:]),
		"a byte behind":             slices.Concat(fine, []byte{0}),
		"a byte ahead":              slices.Concat([]byte{0}, fine),
		"twice":                     slices.Concat(fine, fine),
		"an empty frame behind":     slices.Concat(fine, framed(2, nil)),
		"the beginning of another":  slices.Concat(fine, fine[:4]),
		"kind 0":                    framed(0, numbers(3, 1, 7)),
		"kind 1":                    framed(1, numbers(3, 1, 7)),
		"kind 3":                    framed(3, numbers(3, 1, 7)),
		"kind 130":                  framed(130, numbers(3, 1, 7)),
		"no frame":                  numbers(3, 1, 7),
		"no number":                 framed(2, nil),
		"one number":                framed(2, numbers(3)),
		"two numbers":               framed(2, numbers(3, 1)),
		"four numbers":              framed(2, numbers(3, 1, 7, 0)),
		"a byte within behind":      framed(2, append(numbers(3, 1, 7), 0x80)),
		"another form of Term":      framed(2, []byte{0x83, 0, 1, 7}),
		"another form of Vote":      framed(2, []byte{3, 0x81, 0, 7}),
		"another form of Commit":    framed(2, []byte{3, 1, 0x87, 0}),
		"Term without end":          framed(2, []byte{0x83}),
		"Vote without end":          framed(2, []byte{3, 0x81}),
		"Commit without end":        framed(2, []byte{3, 1, 0x87}),
		"Term of 65 bits":           framed(2, slices.Concat(long[:9], []byte{2, 1, 7})),
		"Commit of 65 bits":         framed(2, slices.Concat([]byte{3, 1}, long[:9], []byte{3})),
		"Commit of eleven digits":   framed(2, slices.Concat([]byte{3, 1, 0x80}, long)),
		"Vote of 64 bits":           framed(2, slices.Concat([]byte{3}, long, []byte{7})),
		"Vote 8":                    framed(2, numbers(3, 8, 7)),
		"Vote 128":                  framed(2, numbers(3, 128, 7)),
		"Vote 257":                  framed(2, numbers(3, 257, 7)),
		"Vote 2^32 + 1":             framed(2, numbers(3, 1<<32+1, 7)),
		"Vote 2^64 - 1":             framed(2, numbers(3, math.MaxUint64, 7)),
		"the sum's bytes backward":  slices.Concat(fine[:1], []byte{fine[4], fine[3], fine[2], fine[1]}, fine[5:]),
		"a frame of 2^20 noughts":   framed(2, make([]byte, 1<<20-5)),
		"a frame of 2^20 and more":  framed(2, make([]byte, 1<<20)),
		"two frames, wrong by kind": slices.Concat(framed(1, numbers(3, 1, 7)), fine),
	}
}

// Ha1: bytes of no state that may be are refused; so they are as a group's file.
func TestDecodeText(t *testing.T) {
	for what, b := range strange() {
		refused(t, what, b)
		if len(b) > api.MaxFile {
			continue
		}
		d := loaded(t, file("hard-4", b, 0))
		loads(t, what, d, 4, api.Hard{}, api.ErrText)
		saves(t, d, 4, state(5, 2, 9))
		loads(t, what+", saved over", d, 4, state(5, 2, 9), api.OK)
	}
}

// Ha1: no beginning of a state's bytes, and no bytes with bits of them turned, are any state's.
func TestTornAndTurned(t *testing.T) {
	for _, h := range []api.Hard{{}, state(3, 1, 7), state(300, 7, 128), state(math.MaxUint64, 5, math.MaxUint64)} {
		whole := bytesBy(h)
		for n := range len(whole) {
			refused(t, "a beginning", whole[:n])
			refused(t, "without a beginning", whole[n+1:])
			for mask := 1; mask < 256; mask++ {
				b := bytes.Clone(whole)
				b[n] ^= byte(mask)
				refused(t, fmt.Sprintf("turned at %d", n), b)
			}
			for more := range 256 {
				refused(t, "a byte more", slices.Insert(bytes.Clone(whole), n, byte(more)))
			}
		}
	}
}

// Ha1: all short bytes within the frame are read as the words have it.
func TestDecodeByWords(t *testing.T) {
	alphabet := []byte{0, 1, 7, 8, 127, 128, 129, 255}
	for size := range 6 {
		for i := range int(math.Pow(8, float64(size))) {
			var data []byte
			for n := i; len(data) < size; n /= 8 {
				data = append(data, alphabet[n%8])
			}
			b := framed(2, data)
			want, ok := stateBy(b)
			h, e := Decode(b)
			if h != want || (e == api.OK) != ok || e != api.OK && e != api.ErrText {
				t.Fatalf("Decode(%x): %v, error %d, not %v, %t", b, h, e, want, ok)
			}
		}
	}
}

// Ha1: what may follow what, one by one.
func TestLater(t *testing.T) {
	b := state(5, 2, 10)
	free := state(5, 0, 10)
	for _, c := range []struct {
		what string
		a, b api.Hard
		want bool
	}{
		{"itself", b, b, true},
		{"more committed", state(5, 2, 11), b, true},
		{"less committed", state(5, 2, 9), b, false},
		{"another vote", state(5, 3, 10), b, false},
		{"another vote, more committed", state(5, 3, 11), b, false},
		{"no vote any more", state(5, 0, 10), b, false},
		{"no vote any more, more committed", state(5, 0, 11), b, false},
		{"a first vote", state(5, 2, 10), free, true},
		{"a first vote, more committed", state(5, 7, 11), free, true},
		{"a first vote, less committed", state(5, 2, 9), free, false},
		{"no vote yet", free, free, true},
		{"no vote yet, less committed", state(5, 0, 9), free, false},
		{"a term above", state(6, 2, 10), b, true},
		{"a term above, another vote", state(6, 3, 10), b, true},
		{"a term above, no vote", state(6, 0, 10), b, true},
		{"a term above, less committed", state(6, 3, 0), b, true},
		{"a term far above", state(math.MaxUint64, 1, 0), b, true},
		{"a term below", state(4, 2, 10), b, false},
		{"a term below, more committed", state(4, 2, 11), b, false},
		{"a term below, behind no vote", state(4, 2, 11), free, false},
		{"the zero one behind it", api.Hard{}, b, false},
		{"behind the zero one", b, api.Hard{}, true},
		{"zero ones", api.Hard{}, api.Hard{}, true},
		{"committed 2^63 behind 2^63 - 1", state(5, 2, 1<<63), state(5, 2, 1<<63-1), true},
		{"committed 2^63 - 1 behind 2^63", state(5, 2, 1<<63-1), state(5, 2, 1<<63), false},
		{"committed 0 behind 2^64 - 1", state(5, 2, 0), state(5, 2, math.MaxUint64), false},
		{"term 2^63 behind 2^63 - 1", state(1<<63, 2, 1), state(1<<63-1, 1, 1), true},
		{"term 2^63 - 1 behind 2^63", state(1<<63-1, 1, 1), state(1<<63, 1, 1), false},
		{"term 0 behind 2^64 - 1", state(0, 1, 1), state(math.MaxUint64, 1, 1), false},
		{"term 2^32 behind 1", state(1<<32, 1, 1), state(1, 2, 1), true},
	} {
		if Later(c.a, c.b) != c.want {
			t.Errorf("%s: Later(%v, %v) is %t", c.what, c.a, c.b, !c.want)
		}
	}
}

// Ha1: all pairs near the edges, by the words.
func TestLaterByWords(t *testing.T) {
	var l []api.Hard
	for _, term := range []uint64{0, 1, 2, 1 << 63, math.MaxUint64} {
		for _, vote := range []int{0, 1, 2, 7} {
			for _, commit := range []uint64{0, 1, 2, 1 << 63, math.MaxUint64} {
				l = append(l, state(term, vote, commit))
			}
		}
	}
	for _, a := range l {
		for _, b := range l {
			vote := a.Vote == b.Vote || b.Vote == 0
			if want := a.Term > b.Term || a.Term == b.Term && vote && !(a.Commit < b.Commit); Later(a, b) != want {
				t.Errorf("Later(%v, %v) is %t", a, b, !want)
			}
		}
	}
}

// Ha2: each group has its own file, named as the words have it, synced, with nothing beside it.
func TestNames(t *testing.T) {
	for group := range 1000 {
		d := disk.New()
		h := state(uint64(group), group%8, 5)
		saves(t, d, group, h)
		hasFiles(t, "saved", d, allSafe(fmt.Sprintf("hard-%d", group), bytesBy(h)))
		loads(t, "saved", d, group, h, api.OK)
	}
}

// Ha2: groups do not meet, though names begin alike.
func TestGroupsApart(t *testing.T) {
	d := disk.New()
	groups := []int{0, 1, 10, 100, 11, 110, 111, 9, 99, 999, 90, 900}
	for round := range uint64(3) {
		for i, group := range groups {
			saves(t, d, group, state(round+1, i%8, uint64(group)))
		}
		for i, group := range groups {
			loads(t, "its own", d, group, state(round+1, i%8, uint64(group)), api.OK)
		}
	}
	loads(t, "no group's", d, 2, api.Hard{}, api.OK)
	if n := len(d.Files()); n != len(groups) {
		t.Errorf("%d files of %d groups", n, len(groups))
	}
}

// Ha2: without the group's file Load tells the zero state, whatever else is there.
func TestLoadNothing(t *testing.T) {
	loads(t, "a new disk", disk.New(), 4, api.Hard{}, api.OK)
	b := bytesBy(state(3, 1, 7))
	for _, name := range []string{"hard-4.new", "hard-04", "hard-004", "hard-40", "hard-", "hard--4", "hard", "hard-4-", "hard-4.", "hard4", "4", "hard-5", "snap-4", "hard-4.new.new", "wal-00000004"} {
		loads(t, name, loaded(t, allSafe(name, b)), 4, api.Hard{}, api.OK)
	}
	loads(t, "one that is there", loaded(t, allSafe("hard-4", b)), 4, state(3, 1, 7), api.OK)
	loads(t, "one that is not safe", loaded(t, file("hard-4", b, 0)), 4, state(3, 1, 7), api.OK)
}

// Ha2: wrong arguments, each alone and all together; nothing on the disk turns.
func TestArg(t *testing.T) {
	fine := state(3, 1, 7)
	old := []api.File{allSafe("hard-4", bytesBy(state(2, 0, 1))), file("hard-4.new", []byte("torn"), 1)}
	d := loaded(t, old...)
	for _, group := range groupsBeyond() {
		is(t, fmt.Sprint("group ", group), Save(d, group, fine), api.ErrArg)
		loads(t, "beyond", d, group, api.Hard{}, api.ErrArg)
		is(t, fmt.Sprint("Vote, group ", group), Save(d, group, state(3, 8, 7)), api.ErrArg)
	}
	for _, vote := range votesBeyond() {
		is(t, fmt.Sprint("Vote ", vote), Save(d, 4, state(3, vote, 7)), api.ErrArg)
	}
	hasFiles(t, "refused", d, old...)
	for name, d := range disksBeyond() {
		for _, group := range append(groupsBeyond(), 0, 4, 999) {
			for _, vote := range append(votesBeyond(), 0, 1, 7) {
				is(t, name, Save(d, group, state(3, vote, 7)), api.ErrArg)
			}
			loads(t, name, d, group, api.Hard{}, api.ErrArg)
		}
		hasFiles(t, name, d)
	}
}

// Ha2: ErrArg comes ahead of ErrFull.
func TestArgAheadOfFull(t *testing.T) {
	d, _ := crowded(t, 64)
	is(t, "full", Save(d, 4, api.Hard{}), api.ErrFull)
	is(t, "full, a group beyond", Save(d, 1000, api.Hard{}), api.ErrArg)
	is(t, "full, a group below", Save(d, -1, api.Hard{}), api.ErrArg)
	is(t, "full, a vote beyond", Save(d, 4, api.Hard{Vote: 8}), api.ErrArg)
}

// Ha2: a disk without a place for one more file refuses, though the group's is there; nothing turns, and Load tells what it told.
func TestFull(t *testing.T) {
	old := state(2, 6, 1)
	_, others := crowded(t, 63)
	l := slices.Concat([]api.File{file("hard-4", bytesBy(old), 2)}, others)
	d := loaded(t, l...)
	for _, group := range []int{4, 5} {
		is(t, "full", Save(d, group, state(3, 1, 7)), api.ErrFull)
		hasFiles(t, "full", d, l...)
	}
	loads(t, "full", d, 4, old, api.OK)
	loads(t, "full, another group", d, 5, api.Hard{}, api.OK)

	is(t, "Remove", d.Remove("other-00"), api.OK)
	saves(t, d, 4, state(3, 1, 7))
	loads(t, "room again", d, 4, state(3, 1, 7), api.OK)
	saves(t, d, 5, state(4, 1, 7))
	loads(t, "the last place", d, 5, state(4, 1, 7), api.OK)
	is(t, "full again", Save(d, 4, state(5, 1, 7)), api.ErrFull)
	loads(t, "full again", d, 4, state(3, 1, 7), api.OK)
}

// Ha2: on a full disk that has the new file already nothing is refused: that one is written.
func TestFullWithNewFile(t *testing.T) {
	h := state(3, 1, 7)
	_, others := crowded(t, 63)
	d := loaded(t, slices.Concat([]api.File{file("hard-4.new", []byte("torn"), 1)}, others)...)
	saves(t, d, 4, h)
	hasFiles(t, "64 files", d, slices.Concat([]api.File{allSafe("hard-4", bytesBy(h))}, others)...)

	both := []api.File{allSafe("hard-4", bytesBy(state(2, 0, 1))), file("hard-4.new", nil, 0)}
	d = loaded(t, slices.Concat(both, others[:62])...)
	saves(t, d, 4, h)
	hasFiles(t, "64 files, both", d, slices.Concat([]api.File{allSafe("hard-4", bytesBy(h))}, others[:62])...)

	d = loaded(t, slices.Concat([]api.File{file("hard-5.new", nil, 0)}, others)...)
	is(t, "another group's new file", Save(d, 4, h), api.ErrFull)
}

// Ha2: whatever the new file has, it is cut to nothing first: it may be full, or a state's already.
func TestNewFileIsCut(t *testing.T) {
	h := state(3, 1, 7)
	for what, b := range map[string][]byte{
		"empty":               nil,
		"a byte":              {9},
		"torn":                bytesBy(h)[:5],
		"the same state":      bytesBy(h),
		"another state":       bytesBy(state(9, 2, 9)),
		"full":                make([]byte, api.MaxFile),
		"full but for a byte": make([]byte, api.MaxFile-1),
		"full but for one":    make([]byte, api.MaxFile-len(bytesBy(h))),
	} {
		for _, safe := range []int{0, len(b) / 2, len(b)} {
			for _, old := range [][]api.File{nil, {allSafe("hard-4", bytesBy(state(2, 0, 1)))}} {
				d := loaded(t, append(old, file("hard-4.new", b, safe))...)
				saves(t, d, 4, h)
				hasFiles(t, what, d, allSafe("hard-4", bytesBy(h)))
			}
		}
	}
}

// Ha2: what is saved stands in the old one's place, whether that may follow or not, and however long it was.
func TestSaveOver(t *testing.T) {
	d := disk.New()
	for _, h := range []api.Hard{state(math.MaxUint64, 7, math.MaxUint64), state(3, 1, 7), state(3, 2, 6), {}, state(1<<40, 0, 1)} {
		saves(t, d, 4, h)
		hasFiles(t, "saved", d, allSafe("hard-4", bytesBy(h)))
		loads(t, "saved", d, 4, h, api.OK)
	}
	long := loaded(t, file("hard-4", make([]byte, api.MaxFile), 3))
	saves(t, long, 4, state(3, 1, 7))
	hasFiles(t, "over a long one", long, allSafe("hard-4", bytesBy(state(3, 1, 7))))
}

// Ha2: other files stay as they are, safe or not.
func TestOthersStay(t *testing.T) {
	h := state(3, 1, 7)
	others := []api.File{file("a", []byte("abc"), 1), file("hard-40", []byte("x"), 0), file("hard-40.new", []byte("y"), 0), file("z", nil, 0)}
	d := loaded(t, others...)
	saves(t, d, 4, h)
	hasFiles(t, "saved", d, others[0], allSafe("hard-4", bytesBy(h)), others[1], others[2], others[3])
}

// Ha3: behind each crash, at each of the steps by which a state is saved, the group's is the old one or the new one, whole; and the next is saved.
func TestCrashAtEachStep(t *testing.T) {
	old, h := state(2, 6, 1), state(3, 1, 7)
	b := bytesBy(h)
	steps := [][]api.File{
		{allSafe("hard-4", bytesBy(old)), file("hard-4.new", []byte("left"), 4)},
		{allSafe("hard-4", bytesBy(old)), file("hard-4.new", nil, 0)},
		{allSafe("hard-4", bytesBy(old)), file("hard-4.new", b, 0)},
		{allSafe("hard-4", bytesBy(old)), allSafe("hard-4.new", b)},
		{allSafe("hard-4", b)},
	}
	for i, l := range steps {
		want := old
		if i == len(steps)-1 {
			want = h
		}
		for cut := range len(b) + 2 {
			d := loaded(t, l...)
			d.Crash([]int{cut - 1, cut})
			loads(t, fmt.Sprintf("step %d, crash of %d", i, cut), d, 4, want, api.OK)
			saves(t, d, 4, state(9, 2, 9))
			d.Crash([]int{-1, cut})
			loads(t, fmt.Sprintf("step %d, saved behind it", i), d, 4, state(9, 2, 9), api.OK)
		}
	}
}

// Ha3: a refused Save leaves what was saved last, behind a crash, too.
func TestRefusedThenCrash(t *testing.T) {
	d, _ := crowded(t, 63)
	saves(t, d, 4, state(3, 1, 7))
	is(t, "full", Save(d, 4, state(4, 1, 8)), api.ErrFull)
	is(t, "a vote beyond", Save(d, 4, state(4, 8, 8)), api.ErrArg)
	d.Crash(nil)
	loads(t, "behind the crash", d, 4, state(3, 1, 7), api.OK)
}

// R3: what is handed in is not changed, nor what lies behind it; answers are new memory.
func TestMemory(t *testing.T) {
	h := state(3, 1, 7)
	b := encoded(t, h)
	spoiled := b[:cap(b)]
	for i := range spoiled {
		spoiled[i] = '?'
	}
	if again := encoded(t, h); !bytes.Equal(again, bytesBy(h)) {
		t.Errorf("what is told again: %x", again)
	}
	room := append(bytesBy(h), "behind"...)
	was := bytes.Clone(room)
	if got, e := Decode(room[:len(room)-6]); got != h || e != api.OK || !bytes.Equal(room, was) {
		t.Errorf("Decode: %v, error %d, and the bytes are %x", got, e, room)
	}
	refused(t, "with what lay behind", room)
}

// Ha1: bytes that are told as a state are just that state's bytes.
func FuzzDecode(f *testing.F) {
	for _, b := range strange() {
		if len(b) < 100 {
			f.Add(b)
		}
	}
	f.Add(bytesBy(state(3, 1, 7)))
	f.Add(bytesBy(state(math.MaxUint64, 7, math.MaxUint64)))
	f.Fuzz(func(t *testing.T, b []byte) {
		h, e := Decode(b)
		want, ok := stateBy(b)
		if h != want || (e == api.OK) != ok || e != api.OK && e != api.ErrText {
			t.Errorf("Decode(%x): %v, error %d, not %v, %t", b, h, e, want, ok)
		}
		// Behind the right sum more is read.
		h, e = Decode(framed(2, b))
		if want, ok = stateBy(framed(2, b)); h != want || (e == api.OK) != ok {
			t.Errorf("Decode of the frame of %x: %v, error %d, not %v, %t", b, h, e, want, ok)
		}
	})
}
