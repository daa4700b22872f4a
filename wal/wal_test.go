package wal

import (
	"bytes"
	"fmt"
	"math"
	"slices"
	"strings"
	"testing"

	"gudgeon/api"
	"gudgeon/disk"
)

// is tells whether a call told that error.
func is(t *testing.T, what string, e, want api.Errno) {
	t.Helper()
	if e != want {
		t.Errorf("%s: error %d, not %d", what, e, want)
	}
}

// record is one of a text.
func record(index uint64, data string) api.Record {
	return api.Record{Index: index, Data: []byte(data)}
}

// long is a text of so many bytes.
func long(size int) string {
	return strings.Repeat("x", size)
}

// segmentFile is a segment of frames.
func segmentFile(number int, frames ...[]byte) api.File {
	return api.File{Name: fmt.Sprintf("wal-%08d", number), Data: slices.Concat(frames...)}
}

// loaded is a disk with files.
func loaded(t *testing.T, l ...api.File) *disk.Disk {
	t.Helper()
	d, e := disk.Load(l)
	if e != api.OK {
		t.Fatalf("Load(%s): error %d", showFiles(l), e)
	}
	return d
}

// opened is a disk's log.
func opened(t *testing.T, d *disk.Disk) *Wal {
	t.Helper()
	w, e := Open(d)
	if e != api.OK || w == nil {
		t.Fatalf("Open: error %d, a log: %t", e, w != nil)
	}
	return w
}

// add appends records that must be taken.
func add(t *testing.T, w *Wal, l ...api.Record) {
	t.Helper()
	for _, r := range l {
		is(t, fmt.Sprintf("Append of %d, %d bytes", r.Index, len(r.Data)), w.Append(r), api.OK)
	}
}

// has tells whether a log has these records and no others, by First, Last and Get.
func has(t *testing.T, what string, w *Wal, want ...api.Record) bool {
	t.Helper()
	first, last := uint64(0), uint64(0)
	if len(want) > 0 {
		first, last = want[0].Index, want[len(want)-1].Index
	}
	if w.First() != first || w.Last() != last {
		t.Errorf("%s: %d to %d, not %d to %d", what, w.First(), w.Last(), first, last)
		return false
	}
	for _, r := range want {
		if b, ok := w.Get(r.Index); !ok || !bytes.Equal(b, r.Data) {
			t.Errorf("%s: Get(%d): %d bytes, %t, not the %d bytes", what, r.Index, len(b), ok, len(r.Data))
			return false
		}
	}
	for _, i := range []uint64{0, first - 1, last + 1, last + 2, math.MaxUint64} {
		if b, ok := w.Get(i); (ok || len(b) > 0) && (i < first || i > last || i == 0) {
			t.Errorf("%s: Get(%d): %d bytes, %t", what, i, len(b), ok)
			return false
		}
	}
	return true
}

// hasFiles tells whether a disk has these files and no others.
func hasFiles(t *testing.T, what string, d *disk.Disk, want ...api.File) {
	t.Helper()
	if got := showFiles(d.Files()); got != showFiles(want) {
		t.Errorf("%s: files %s, not %s", what, got, showFiles(want))
	}
}

// safe is a file of which so many bytes are.
func safe(f api.File, n int) api.File {
	f.Safe = n
	return f
}

// allSafe is a file of which all bytes are.
func allSafe(f api.File) api.File {
	return safe(f, len(f.Data))
}

// readsAs tells whether files are read as these records.
func readsAs(t *testing.T, what string, l []api.File, want ...api.Record) {
	t.Helper()
	if got := show(Read(l)); got != show(want) {
		t.Errorf("%s: %s, not %s", what, got, show(want))
	}
}

// Example 1: behind a crash of nothing what was not synced is gone; to the log that was open, too.
func TestExample1(t *testing.T) {
	d := disk.New()
	w := opened(t, d)
	add(t, w, record(5, "five"), record(6, "six"))
	w.Sync()
	add(t, w, record(7, "seven"))
	d.Crash(nil)
	has(t, "the log that was open", w, record(5, "five"), record(6, "six"))
	has(t, "opened", opened(t, d), record(5, "five"), record(6, "six"))
}

// Words: a record's bytes, to the letter.
func TestRecordBytes(t *testing.T) {
	d := disk.New()
	w := opened(t, d)
	add(t, w, record(299, ""), record(300, "ab"))
	b, ok := d.Read("wal-00000001")
	want := slices.Concat(framed(1, []byte{0xab, 0x02}), framed(1, []byte{0xac, 0x02, 'a', 'b'}))
	if !ok || !bytes.Equal(b, want) || len(b) != 8+10 || b[0] != 7 || b[8] != 9 {
		t.Errorf("the bytes are %x, %t, not %x", b, ok, want)
	}
}

// Wa1: an empty disk has an empty log, and opening it writes nothing; nor does it on one without segments.
func TestOpenEmpty(t *testing.T) {
	d := disk.New()
	has(t, "a new disk", opened(t, d))
	hasFiles(t, "a new disk", d)
	other := api.File{Name: "hard-0", Data: []byte("abc"), Safe: 1}
	d = loaded(t, other)
	has(t, "no segments", opened(t, d))
	hasFiles(t, "no segments", d, other)
	readsAs(t, "nothing", nil)
	readsAs(t, "no segments", []api.File{other})
}

// Wa1: a disk that layer 5 did not give is refused.
func TestOpenArg(t *testing.T) {
	for name, d := range map[string]*disk.Disk{"nil": nil, "zero": {}, "made by new": new(disk.Disk)} {
		if w, e := Open(d); e != api.ErrArg || w != nil {
			t.Errorf("%s: error %d, a log: %t", name, e, w != nil)
		}
	}
}

// Of a Wal that Open did not give: ErrArg, 0, false; whatever else is wrong.
func TestNotGiven(t *testing.T) {
	for name, w := range map[string]*Wal{"nil": nil, "zero": {}, "made by new": new(Wal)} {
		for range 2 {
			for _, r := range []api.Record{record(1, "a"), {}, record(0, long(5000)), record(3, long(5000))} {
				is(t, name+": Append", w.Append(r), api.ErrArg)
			}
			for _, i := range []uint64{0, 1, math.MaxUint64} {
				is(t, name+": CutFrom", w.CutFrom(i), api.ErrArg)
				is(t, name+": Compact", w.Compact(i), api.ErrArg)
			}
			w.Sync()
			has(t, name, w)
		}
	}
}

// Words: which names count. Files that are named otherwise are not read, and Open leaves them alone, torn or not.
func TestNames(t *testing.T) {
	fine := []string{"wal-00000001", "wal-00000002", "wal-00000010", "wal-12345678", "wal-99999999", "wal-09000000"}
	wrong := []string{"wal-00000000", "wal-0000001", "wal-000000001", "wal-100000000", "wal-", "wal", "wal-1", "wal-00000001.new",
		"wal-0000000a", "wal-0000000.", "wal--0000001", "wal-.0000001", "wal.00000001", "wa-00000001", "xwal-00000001", "wal-00000001-",
		"00000001", "hard-1", "wal-0x000001", "wal-1e000001", "wall-0000001", "a"}
	strange := []string{"", "Wal-00000001", "WAL-00000001", "wal-+0000001", "wal- 0000001", "wal-0000001 ", "wal-0000_001", " wal-00000001",
		"wal-0000000\x00", "wal-\u0661\u0661\u0661\u0661", "wal_00000001", "wal-00000001\n", "wal-0000000\xff"}
	for _, name := range fine {
		f := api.File{Name: name, Data: slices.Concat(rec(7, "ab"), []byte{9})}
		readsAs(t, name, []api.File{f}, record(7, "ab"))
		d := loaded(t, f)
		has(t, name, opened(t, d), record(7, "ab"))
		hasFiles(t, name, d, api.File{Name: name, Data: rec(7, "ab")})
	}
	for _, name := range slices.Concat(wrong, strange) {
		readsAs(t, name, []api.File{{Name: name, Data: rec(7, "ab")}})
	}
	for _, name := range wrong {
		f := api.File{Name: name, Data: slices.Concat(rec(7, "ab"), []byte{9}), Safe: 3}
		d := loaded(t, f)
		w := opened(t, d)
		has(t, name, w)
		hasFiles(t, name, d, f)
		add(t, w, record(1, ""))
		if b, ok := d.Read("wal-00000001"); !ok || !bytes.Equal(b, rec(1, "")) {
			t.Errorf("beside %q the first segment is %x, %t", name, b, ok)
		}
	}
}

// Wa1: segments are read by their numbers, not by the order of the list, nor only from number 1 on.
func TestReadByNumbers(t *testing.T) {
	one, two, three := segmentFile(9, rec(5, "a"), rec(6, "b")), segmentFile(10, rec(7, "c")), segmentFile(11, rec(8, "d"))
	want := []api.Record{record(5, "a"), record(6, "b"), record(7, "c"), record(8, "d")}
	for _, l := range [][]api.File{{one, two, three}, {three, two, one}, {two, one, three}, {three, {Name: "x"}, one, two}} {
		readsAs(t, showFiles(l), l, want...)
	}
	again := segmentFile(10, rec(7, "other"))
	readsAs(t, "one name twice", []api.File{three, two, again, one}, want...)
	readsAs(t, "what is safe does not matter", []api.File{safe(one, -4), safe(two, 1), safe(three, math.MaxInt)}, want...)
	readsAs(t, "from 2^64 - 2 on", []api.File{segmentFile(1, rec(math.MaxUint64-1, "p"), rec(math.MaxUint64, "q"))}, record(math.MaxUint64-1, "p"), record(math.MaxUint64, "q"))
}

// endings are bytes behind the records 5 and 6 that the reading ends at, each by another fault.
func endings() map[string][]byte {
	turned := rec(7, "seven")
	turned[len(turned)-1] ^= 1
	return map[string][]byte{
		"a byte":                       {9},
		"a nought":                     {0},
		"many noughts":                 make([]byte, 40),
		"a number without end":         {0x80, 0x80, 0x80},
		"another form of a number":     slices.Concat([]byte{0x88, 0}, rec(7, "ab")[1:]),
		"a frame that is cut":          rec(7, "seven")[:10],
		"a frame but for its last":     rec(7, "")[:len(rec(7, ""))-1],
		"a byte that is turned":        turned,
		"kind 0":                       framed(0, []byte{7, 'a'}),
		"kind 2":                       framed(2, []byte{7, 'a'}),
		"kind 129":                     framed(129, []byte{7, 'a'}),
		"no Index":                     framed(1, nil),
		"an Index that is cut":         framed(1, []byte{0x87}),
		"another form of an Index":     framed(1, []byte{0x87, 0}),
		"an Index of 65 bits":          framed(1, []byte{0x87, 0x80, 0x80, 0x80, 0x80, 0x80, 0x80, 0x80, 0x80, 2}),
		"Index 0":                      rec(0, "a"),
		"the same Index":               rec(6, "six"),
		"an Index ahead":               rec(5, "five"),
		"the Index but one":            rec(8, "eight"),
		"an Index that 2^32 are above": rec(1<<32+7, "a"),
		"an Index that 2^63 are above": rec(1<<63+7, "a"),
		"one byte too many":            rec(7, long(4097)),
		"far too many bytes":           rec(7, long(9000)),
	}
}

// Wa1: where the reading ends, in the midst of a segment or at its beginning; what is behind it is not read, even if it could be, and Open takes it away.
func TestReadingEnds(t *testing.T) {
	five, six := rec(5, "five"), rec(6, "six")
	want := []api.Record{record(5, "five"), record(6, "six")}
	for name, b := range endings() {
		for behind, more := range map[string][]byte{"nothing behind": nil, "a record behind": rec(7, "seven")} {
			what := name + ", " + behind
			later := []api.File{segmentFile(4, rec(7, "seven")), segmentFile(5, rec(8, "eight")), segmentFile(9)}
			l := slices.Concat([]api.File{segmentFile(3, five, six, b, more)}, later)
			readsAs(t, what, l, want...)
			d := loaded(t, l...)
			w := opened(t, d)
			has(t, what, w, want...)
			hasFiles(t, what, d, segmentFile(3, five, six))
			add(t, w, record(7, "new"))
			hasFiles(t, what+", appended", d, segmentFile(3, five, six, rec(7, "new")))

			l = slices.Concat([]api.File{segmentFile(3, five, six), segmentFile(4, b, more)}, later[1:])
			readsAs(t, what+", in the next segment", l, want...)
			d = loaded(t, l...)
			w = opened(t, d)
			has(t, what+", in the next segment", w, want...)
			hasFiles(t, what+", in the next segment", d, segmentFile(3, five, six), segmentFile(4))
			add(t, w, record(7, "new"))
			hasFiles(t, what+", in the next segment, appended", d, segmentFile(3, five, six), segmentFile(4, rec(7, "new")))
		}
	}
}

// Wa1: the first record may have any Index but 0; a segment may be empty, the first ones too; a number that is missing ends the reading.
func TestReadingGoesOn(t *testing.T) {
	empty := segmentFile
	for name, c := range map[string]struct {
		l     []api.File
		want  []api.Record
		stays int
	}{
		"an empty one":                    {[]api.File{empty(1)}, nil, 1},
		"empty ones":                      {[]api.File{empty(4), empty(5), empty(6)}, nil, 3},
		"empty ones, a number is missing": {[]api.File{empty(4), empty(6)}, nil, 1},
		"empty ones ahead":                {[]api.File{empty(1), empty(2), segmentFile(3, rec(77, "a"))}, []api.Record{record(77, "a")}, 3},
		"empty ones between":              {[]api.File{segmentFile(1, rec(1, "a")), empty(2), empty(3), segmentFile(4, rec(2, "b"))}, []api.Record{record(1, "a"), record(2, "b")}, 4},
		"empty ones behind":               {[]api.File{segmentFile(1, rec(1, "a")), empty(2), empty(3)}, []api.Record{record(1, "a")}, 3},
		"empty between, another Index":    {[]api.File{segmentFile(1, rec(4, "a")), empty(2), segmentFile(3), segmentFile(4, rec(9, "b"))}, []api.Record{record(4, "a")}, 4},
		"a number is missing":             {[]api.File{segmentFile(1, rec(1, "a")), segmentFile(3, rec(2, "b"))}, []api.Record{record(1, "a")}, 1},
		"a number is missing, empty":      {[]api.File{segmentFile(1, rec(1, "a")), empty(2), segmentFile(4, rec(2, "b"))}, []api.Record{record(1, "a")}, 2},
		"a number is missing later":       {[]api.File{segmentFile(1, rec(1, "a")), segmentFile(2, rec(2, "b")), segmentFile(4, rec(3, "c")), segmentFile(5, rec(4, "d"))}, []api.Record{record(1, "a"), record(2, "b")}, 2},
		"9 and 10":                        {[]api.File{segmentFile(9, rec(1, "a")), segmentFile(10, rec(2, "b"))}, []api.Record{record(1, "a"), record(2, "b")}, 2},
		"4096 bytes":                      {[]api.File{segmentFile(1, rec(1, long(4096)), rec(2, ""))}, []api.Record{record(1, long(4096)), record(2, "")}, 1},
		"Index 0 first":                   {[]api.File{segmentFile(1, rec(0, "a"), rec(1, "b"))}, nil, 1},
		"the greatest Index":              {[]api.File{segmentFile(1, rec(math.MaxUint64, "a"))}, []api.Record{record(math.MaxUint64, "a")}, 1},
		"behind the greatest Index 0":     {[]api.File{segmentFile(1, rec(math.MaxUint64, "a"), rec(0, "b"))}, []api.Record{record(math.MaxUint64, "a")}, 1},
		"behind the greatest Index 1":     {[]api.File{segmentFile(1, rec(math.MaxUint64, "a")), segmentFile(2, rec(1, "b"))}, []api.Record{record(math.MaxUint64, "a")}, 2},
	} {
		readsAs(t, name, c.l, c.want...)
		d := loaded(t, c.l...)
		has(t, name, opened(t, d), c.want...)
		if got := len(d.Files()); got != c.stays {
			t.Errorf("%s: %d files stay, not %d", name, got, c.stays)
		}
	}
}

// Wa1: a segment of any size is read, even one that no log would write.
func TestReadLargeSegment(t *testing.T) {
	var b [][]byte
	var want []api.Record
	for i := range uint64(600) {
		b, want = append(b, rec(i+100, long(90))), append(want, record(i+100, long(90)))
	}
	f := segmentFile(1, b...)
	d := loaded(t, f)
	w := opened(t, d)
	has(t, "600 records", w, want...)
	hasFiles(t, "600 records", d, f)
	add(t, w, record(700, "a"))
	hasFiles(t, "appended", d, allSafe(f), segmentFile(2, rec(700, "a")))
}

// Wa1: Open turns no byte that is read, and what was safe of it stays so, and no more.
func TestOpenLeavesSafe(t *testing.T) {
	torn := segmentFile(2, rec(3, "c"), []byte("torn"))
	whole := len(rec(3, "c"))
	for n := range len(torn.Data) + 1 {
		one, other := safe(segmentFile(1, rec(1, "a"), rec(2, "b")), n/2), api.File{Name: "other", Data: []byte("torn"), Safe: 2}
		d := loaded(t, other, one, safe(torn, n), segmentFile(3, rec(4, "d")))
		has(t, "opened", opened(t, d), record(1, "a"), record(2, "b"), record(3, "c"))
		hasFiles(t, fmt.Sprintf("%d bytes safe", n), d, other, one, safe(segmentFile(2, rec(3, "c")), min(n, whole)))
	}
}

// Wa2: what Append refuses, the first error first; and nothing has changed then.
func TestAppendRefuses(t *testing.T) {
	d := disk.New()
	w := opened(t, d)
	tooLong, far := make([]byte, 4097), make([]byte, 1<<20)
	is(t, "Index 0, no records", w.Append(record(0, "a")), api.ErrArg)
	is(t, "Index 0, too long", w.Append(api.Record{Data: tooLong}), api.ErrArg)
	is(t, "too long, no records", w.Append(api.Record{Index: 5, Data: tooLong}), api.ErrLong)
	is(t, "far too long, no records", w.Append(api.Record{Index: 5, Data: far}), api.ErrLong)
	hasFiles(t, "refused, no records", d)
	add(t, w, record(5, "a"), record(6, "b"))
	for _, r := range []api.Record{{}, {Data: tooLong}, {Data: far}} {
		is(t, "Index 0", w.Append(r), api.ErrArg)
	}
	for _, i := range []uint64{1, 6, 7, 8, math.MaxUint64} {
		is(t, "too long", w.Append(api.Record{Index: i, Data: tooLong}), api.ErrLong)
	}
	for _, i := range []uint64{1, 4, 5, 6, 8, 9, 1<<32 + 7, 1<<63 + 7, math.MaxUint64} {
		is(t, fmt.Sprintf("Index %d", i), w.Append(record(i, "a")), api.ErrGap)
	}
	has(t, "refused", w, record(5, "a"), record(6, "b"))
	hasFiles(t, "refused", d, segmentFile(1, rec(5, "a"), rec(6, "b")))
	add(t, w, api.Record{Index: 7, Data: make([]byte, 4096)})
	has(t, "4096 bytes", w, record(5, "a"), record(6, "b"), api.Record{Index: 7, Data: make([]byte, 4096)})
}

// Wa2: a log without records takes any Index but 0, one that has lost all its records too.
func TestAppendFirst(t *testing.T) {
	for _, i := range []uint64{1, 2, 127, 128, 1 << 32, 1 << 63, math.MaxUint64} {
		d := disk.New()
		w := opened(t, d)
		add(t, w, record(i, "a"))
		has(t, "a first one", w, record(i, "a"))
		is(t, "CutFrom", w.CutFrom(i), api.OK)
		has(t, "cut", w)
		hasFiles(t, "cut", d, segmentFile(1))
		add(t, w, record(i/2+9, "b"))
		has(t, "another first one", w, record(i/2+9, "b"))
		has(t, "another first one, opened", opened(t, d), record(i/2+9, "b"))
	}
}

// Wa2: behind the greatest Index nothing follows.
func TestAppendGreatest(t *testing.T) {
	w := opened(t, disk.New())
	add(t, w, record(math.MaxUint64-1, "a"), record(math.MaxUint64, "b"))
	is(t, "Index 0", w.Append(record(0, "c")), api.ErrArg)
	is(t, "Index 1", w.Append(record(1, "c")), api.ErrGap)
	is(t, "the greatest again", w.Append(record(math.MaxUint64, "c")), api.ErrGap)
	has(t, "the greatest", w, record(math.MaxUint64-1, "a"), record(math.MaxUint64, "b"))
	is(t, "Compact", w.Compact(math.MaxUint64), api.OK)
	is(t, "CutFrom", w.CutFrom(math.MaxUint64), api.OK)
	has(t, "cut", w, record(math.MaxUint64-1, "a"))
}

// Wa2: a segment has room while it has 4096 bytes at most; the full one is synced, the new one not.
func TestRoom(t *testing.T) {
	for _, size := range []int{4085, 4087, 4088, 4089, 4090, 4096} {
		d := disk.New()
		w := opened(t, d)
		first := segmentFile(1, rec(1, long(size)))
		add(t, w, record(1, long(size)))
		hasFiles(t, "one", d, first)
		add(t, w, record(2, "b"), record(3, "c"))
		if len(first.Data) > 4096 {
			hasFiles(t, fmt.Sprintf("%d bytes", len(first.Data)), d, allSafe(first), segmentFile(2, rec(2, "b"), rec(3, "c")))
			continue
		}
		first.Data = slices.Concat(first.Data, rec(2, "b"))
		if len(first.Data) > 4096 {
			hasFiles(t, fmt.Sprintf("%d bytes", len(first.Data)), d, allSafe(first), segmentFile(2, rec(3, "c")))
			continue
		}
		hasFiles(t, fmt.Sprintf("%d bytes", len(first.Data)), d, segmentFile(1, first.Data, rec(3, "c")))
	}
}

// Wa2: a segment of 4096 bytes that was there at Open has room; one of 4097 has none; a long record goes into one with room.
func TestRoomOpened(t *testing.T) {
	for _, size := range []int{4088, 4089} {
		f := segmentFile(7, rec(1, long(size)))
		d := loaded(t, f)
		w := opened(t, d)
		add(t, w, record(2, long(4096)))
		if len(f.Data) == 4096 {
			hasFiles(t, "4096 bytes", d, segmentFile(7, f.Data, rec(2, long(4096))))
		} else {
			hasFiles(t, "4097 bytes", d, allSafe(f), segmentFile(8, rec(2, long(4096))))
		}
		has(t, "both", w, record(1, long(size)), record(2, long(4096)))
	}
}

// Wa2: a disk that has MaxFiles refuses a new segment: nothing is appended, and once there is room it goes on.
func TestAppendFull(t *testing.T) {
	others := func(n int) (l []api.File) {
		for i := range n {
			l = append(l, api.File{Name: fmt.Sprintf("f-%02d", i)})
		}
		return l
	}
	d := loaded(t, others(64)...)
	w := opened(t, d)
	is(t, "no room for the first segment", w.Append(record(5, "a")), api.ErrFull)
	is(t, "no room, and Index 0", w.Append(record(0, "a")), api.ErrArg)
	is(t, "no room, and too long", w.Append(record(5, long(4097))), api.ErrLong)
	has(t, "refused", w)
	hasFiles(t, "refused", d, others(64)...)
	is(t, "Remove", d.Remove("f-63"), api.OK)
	add(t, w, record(5, "a"), record(6, long(4096)))
	w.Sync()
	full := allSafe(segmentFile(1, rec(5, "a"), rec(6, long(4096))))
	for range 3 {
		is(t, "no room for the second segment", w.Append(record(7, "c")), api.ErrFull)
		is(t, "no room, and another Index", w.Append(record(8, "c")), api.ErrGap)
		has(t, "refused", w, record(5, "a"), record(6, long(4096)))
		hasFiles(t, "refused", d, slices.Concat(others(63), []api.File{full})...)
	}
	is(t, "Remove", d.Remove("f-62"), api.OK)
	add(t, w, record(7, "c"))
	has(t, "room again", w, record(5, "a"), record(6, long(4096)), record(7, "c"))
	hasFiles(t, "room again", d, slices.Concat(others(62), []api.File{full, segmentFile(2, rec(7, "c"))})...)
}

// Wa2: behind segment 99999999 there is none: a name of nine digits would not be read.
func TestAppendLastNumber(t *testing.T) {
	d := loaded(t, segmentFile(99999998, rec(1, long(4096))))
	w := opened(t, d)
	add(t, w, record(2, long(4096)))
	is(t, "behind the last number", w.Append(record(3, "c")), api.ErrFull)
	hasFiles(t, "refused", d, allSafe(segmentFile(99999998, rec(1, long(4096)))), allSafe(segmentFile(99999999, rec(2, long(4096)))))
	has(t, "refused", w, record(1, long(4096)), record(2, long(4096)))
	is(t, "CutFrom", w.CutFrom(2), api.OK)
	add(t, w, record(2, "b"))
	has(t, "room again", opened(t, d), record(1, long(4096)), record(2, "b"))
}

// Wa2: Sync lets the last segment be safe, and no other file.
func TestSync(t *testing.T) {
	d := disk.New()
	w := opened(t, d)
	w.Sync()
	hasFiles(t, "without segments", d)
	is(t, "Append", d.Append("other", []byte("abc")), api.OK)
	add(t, w, record(1, "a"))
	w.Sync()
	add(t, w, record(2, "b"))
	other, one := api.File{Name: "other", Data: []byte("abc")}, segmentFile(1, rec(1, "a"), rec(2, "b"))
	hasFiles(t, "synced, and one more", d, other, safe(one, len(rec(1, "a"))))
	w.Sync()
	hasFiles(t, "synced", d, other, allSafe(one))
	w.Sync()
	hasFiles(t, "synced twice", d, other, allSafe(one))
	d = loaded(t, segmentFile(1, rec(1, "a")), segmentFile(2, rec(2, "b")))
	opened(t, d).Sync()
	hasFiles(t, "the last one alone", d, segmentFile(1, rec(1, "a")), allSafe(segmentFile(2, rec(2, "b"))))
	opened(t, loaded(t, segmentFile(1))).Sync()
}

// four is a log of the records 11 to 20 in the segments 6 to 9, and what each has.
func four() (files []api.File, l []api.Record, at []int) {
	n := uint64(11)
	for i, size := range []int{3, 1, 4, 2} {
		var b [][]byte
		for range size {
			r := record(n, long(int(n)))
			b, l, at = append(b, rec(n, string(r.Data))), append(l, r), append(at, i)
			n++
		}
		files = append(files, safe(segmentFile(6+i, b...), 5))
	}
	return files, l, at
}

// Wa2: CutFrom of each record; of none such nothing changes.
func TestCutFrom(t *testing.T) {
	files, l, at := four()
	for i, r := range l {
		d := loaded(t, files...)
		w := opened(t, d)
		is(t, "CutFrom", w.CutFrom(r.Index), api.OK)
		has(t, fmt.Sprintf("from %d on", r.Index), w, l[:i]...)
		var kept [][]byte
		for j, k := range l[:i] {
			if at[j] == at[i] {
				kept = append(kept, rec(k.Index, string(k.Data)))
			}
		}
		cut := segmentFile(6+at[i], kept...)
		want := slices.Concat(files[:at[i]], []api.File{safe(cut, min(5, len(cut.Data)))})
		hasFiles(t, fmt.Sprintf("from %d on", r.Index), d, want...)
		is(t, "CutFrom again", w.CutFrom(r.Index), api.ErrNone)
		d.Crash([]int{999, 999, 999, 999})
		has(t, "behind a crash", opened(t, d), l[:i]...)
		add(t, w, record(r.Index, "new"))
		has(t, "appended", w, slices.Concat(l[:i], []api.Record{record(r.Index, "new")})...)
		has(t, "appended, opened", opened(t, d), slices.Concat(l[:i], []api.Record{record(r.Index, "new")})...)
	}
	d := loaded(t, files...)
	w := opened(t, d)
	for _, i := range []uint64{0, 1, 10, 21, 22, math.MaxUint64} {
		is(t, "CutFrom of none", w.CutFrom(i), api.ErrNone)
		is(t, "Compact of none", w.Compact(i), api.ErrNone)
	}
	has(t, "refused", w, l...)
	hasFiles(t, "refused", d, files...)
	w = opened(t, disk.New())
	is(t, "CutFrom without records", w.CutFrom(1), api.ErrNone)
	is(t, "CutFrom of 0 without records", w.CutFrom(0), api.ErrNone)
}

// Wa2: Compact up to each record: whole segments alone, from the first on, the last one never.
func TestCompact(t *testing.T) {
	files, l, at := four()
	for i, r := range l {
		d := loaded(t, files...)
		w := opened(t, d)
		is(t, "Compact", w.Compact(r.Index), api.OK)
		gone := at[i]
		if i+1 < len(l) && at[i+1] > at[i] {
			gone++
		}
		left := slices.Index(at, gone)
		has(t, fmt.Sprintf("up to %d", r.Index), w, l[left:]...)
		hasFiles(t, fmt.Sprintf("up to %d", r.Index), d, files[gone:]...)
		has(t, "opened", opened(t, d), l[left:]...)
		add(t, w, record(21, "more"))
		has(t, "appended", w, slices.Concat(l[left:], []api.Record{record(21, "more")})...)
		if left > 0 {
			is(t, "Compact of one that is gone", w.Compact(l[left-1].Index), api.ErrNone)
			is(t, "CutFrom of one that is gone", w.CutFrom(l[left-1].Index), api.ErrNone)
		}
	}
	is(t, "Compact without records", opened(t, disk.New()).Compact(1), api.ErrNone)
	is(t, "Compact of 0 without records", opened(t, loaded(t, segmentFile(1))).Compact(0), api.ErrNone)
}

// Wa2: empty segments have no record above any Index: they go with those ahead of them; an empty last one stays.
func TestCompactEmpty(t *testing.T) {
	l := []api.File{segmentFile(1), segmentFile(2, rec(5, "a"), rec(6, "b")), segmentFile(3), segmentFile(4, rec(7, "c")), segmentFile(5)}
	for _, c := range []struct {
		index uint64
		stays int
		want  []api.Record
	}{{5, 1, []api.Record{record(5, "a"), record(6, "b"), record(7, "c")}}, {6, 3, []api.Record{record(7, "c")}}, {7, 4, nil}} {
		d := loaded(t, l...)
		w := opened(t, d)
		is(t, "Compact", w.Compact(c.index), api.OK)
		hasFiles(t, fmt.Sprintf("up to %d", c.index), d, l[c.stays:]...)
		has(t, fmt.Sprintf("up to %d", c.index), w, c.want...)
	}
}

// Wa2: a log goes on in the numbers that it has: behind Compact, and CutFrom, too.
func TestNumbersGoOn(t *testing.T) {
	d := disk.New()
	w := opened(t, d)
	for i := range uint64(5) {
		add(t, w, record(i+1, long(4096)))
	}
	is(t, "Compact", w.Compact(3), api.OK)
	is(t, "CutFrom", w.CutFrom(5), api.OK)
	add(t, w, record(5, "e"))
	hasFiles(t, "cut", d, allSafe(segmentFile(4, rec(4, long(4096)))), segmentFile(5, rec(5, "e")))
	is(t, "CutFrom", w.CutFrom(4), api.OK)
	has(t, "all cut", w)
	hasFiles(t, "all cut", d, segmentFile(4))
	add(t, w, record(100, long(4096)), record(101, "x"))
	hasFiles(t, "from 100 on", d, allSafe(segmentFile(4, rec(100, long(4096)))), segmentFile(5, rec(101, "x")))
}

// grown is a log that was synced behind the record done, and its disk; done 0: never.
func grown(t *testing.T, l []api.Record, done uint64) (*Wal, *disk.Disk) {
	t.Helper()
	d := disk.New()
	w := opened(t, d)
	for _, r := range l {
		add(t, w, r)
		if r.Index == done {
			w.Sync()
		}
	}
	return w, d
}

// crashes is cuts of three files: of the first two some, of the last one many, near the edges of its records.
func crashes() [][]int {
	all := [][]int{nil, {}, {1 << 20}, {-1, 1 << 20}}
	for _, one := range []int{0, 9, 1 << 20} {
		for _, two := range []int{0, 1209, 1 << 20} {
			for _, three := range []int{-1, 0, 1, 2, 9, 600, 1207, 1208, 1209, 1210, 2417, 2418, 4836, 1 << 20} {
				all = append(all, []int{one, two, three})
			}
		}
	}
	return all
}

// Wa3: behind each crash, and Open, the records are a beginning of what they were, all that were synced among them.
func TestSyncedIsSafe(t *testing.T) {
	var l []api.Record
	for i := range uint64(9) {
		l = append(l, record(i+3, strings.Repeat(string(rune('a'+i)), 1200)))
	}
	for done := range uint64(len(l) + 1) {
		_, d := grown(t, l, done+2)
		files := d.Files()
		if len(files) != 3 {
			t.Fatalf("%d segments", len(files))
		}
		for _, cuts := range crashes() {
			d := loaded(t, files...)
			d.Crash(cuts)
			read := Read(d.Files())
			w := opened(t, d)
			n := len(read)
			if n > len(l) || uint64(n) < done || show(read) != show(l[:n]) {
				t.Fatalf("synced up to the %d-th, crash of %v: %s", done, cuts, show(read))
			}
			has(t, "opened", w, l[:n]...)
			if again := Read(d.Files()); show(again) != show(read) {
				t.Fatalf("crash of %v: %s, and read again %s", cuts, show(read), show(again))
			}
		}
	}
}

// Wa3: what CutFrom and Compact took away does not come back behind a crash, and what was synced ahead of it stays.
func TestTakenAwayStaysAway(t *testing.T) {
	var l []api.Record
	for i := range uint64(9) {
		l = append(l, record(i+3, strings.Repeat(string(rune('a'+i)), 1200)))
	}
	for _, r := range l {
		w, d := grown(t, l, 11)
		is(t, "CutFrom", w.CutFrom(r.Index), api.OK)
		add(t, w, record(r.Index, "other"))
		d.Crash(nil)
		has(t, fmt.Sprintf("cut from %d on", r.Index), opened(t, d), l[:r.Index-3]...)

		w, d = grown(t, l, 10)
		is(t, "Compact", w.Compact(r.Index), api.OK)
		first := w.First()
		d.Crash(nil)
		has(t, fmt.Sprintf("compacted up to %d", r.Index), opened(t, d), l[first-3:8]...)
	}
}

// Wa3: a log goes on behind a crash, whether it is opened anew or not; a frame that was cut leaves nothing.
func TestGoOnBehindCrash(t *testing.T) {
	for cut := range len(rec(3, "three")) + 2 {
		for _, again := range []bool{false, true} {
			w, d := grown(t, []api.Record{record(1, "one"), record(2, "two"), record(3, "three")}, 2)
			d.Crash([]int{cut})
			if again {
				w = opened(t, d)
			}
			n := uint64(3)
			if cut >= len(rec(3, "three")) {
				n = 4
			}
			is(t, "the one but the next", w.Append(record(n+1, "new")), api.ErrGap)
			add(t, w, record(n, "new"))
			want := []api.Record{record(1, "one"), record(2, "two"), record(3, "three")}[:n-1]
			want = append(want, record(n, "new"))
			has(t, fmt.Sprintf("crash of %d", cut), w, want...)
			has(t, fmt.Sprintf("crash of %d, opened", cut), opened(t, d), want...)
		}
	}
}

// A log whose files others took away still ends all its calls.
func TestFilesTaken(t *testing.T) {
	files, l, _ := four()
	for _, f := range files {
		for _, b := range [][]byte{nil, {9}, rec(99, "other"), make([]byte, 500)} {
			d := loaded(t, files...)
			w := opened(t, d)
			is(t, "Remove", d.Remove(f.Name), api.OK)
			is(t, "Append", d.Append(f.Name, b), api.OK)
			for _, r := range l {
				if got, ok := w.Get(r.Index); ok && !bytes.Equal(got, r.Data) {
					t.Errorf("%s is %x: Get(%d): %x", f.Name, b, r.Index, got)
				}
			}
			w.Append(record(w.Last()+1, "more"))
			w.Sync()
			w.Compact(w.First())
			w.CutFrom(w.Last())
		}
	}
}

// R3: what is handed in is not kept, nor changed, nor what lies behind it.
func TestArgumentsStay(t *testing.T) {
	room := []byte("abcdefgh")
	d := disk.New()
	w := opened(t, d)
	add(t, w, api.Record{Index: 1, Data: room[:2]}, api.Record{Index: 2, Data: room[2:4]})
	data := append(rec(1, "ab"), "behind"...)
	l := []api.File{{Name: "wal-00000002", Data: rec(2, "cd")}, {Name: "wal-00000001", Data: data[:len(data)-6]}, {Name: "x"}, {Name: "behind"}}
	got := Read(l[:3])
	if string(room) != "abcdefgh" || !bytes.Equal(data, append(rec(1, "ab"), "behind"...)) || l[0].Name != "wal-00000002" || l[3].Name != "behind" {
		t.Errorf("changed: %q, %x, %s", room, data, showFiles(l))
	}
	copy(room, "????????")
	fill(data)
	fill(l[0].Data)
	want := []api.Record{record(1, "ab"), record(2, "cd")}
	has(t, "what was appended", w, want...)
	if show(got) != show(want) {
		t.Errorf("what was read: %s", show(got))
	}
}

// R3: an answer has nothing in common with what the log keeps, nor with another list of it, its spare room too.
func TestAnswersAreNew(t *testing.T) {
	d := disk.New()
	w := opened(t, d)
	want := []api.Record{record(1, "ab"), record(2, ""), record(3, long(4096)), record(4, "cd")}
	add(t, w, want...)
	for range 2 {
		for _, r := range want {
			b, _ := w.Get(r.Index)
			fill(b)
		}
		l := Read(d.Files())
		_ = append(l, record(9, "z"))
		for i := range l {
			fill(l[i].Data)
			if show(l[i+1:]) != show(want[i+1:]) {
				t.Errorf("lists of one answer: %s", show(l))
			}
		}
	}
	has(t, "spoilt", w, want...)
	b, _ := w.Get(1)
	is(t, "CutFrom", w.CutFrom(1), api.OK)
	add(t, w, record(1, "xy"))
	if string(b) != "ab" {
		t.Errorf("an answer changed later: %q", b)
	}
}

// fill spoils bytes, and the room behind them.
func fill(b []byte) {
	b = b[:cap(b)]
	for i := range b {
		b[i] = '?'
	}
}

// Many small records, up to a full disk, take a time that is not felt.
func TestManyRecords(t *testing.T) {
	d := disk.New()
	w := opened(t, d)
	n := uint64(0)
	for w.Append(api.Record{Index: n + 1}) == api.OK {
		n++
	}
	if n < 20000 || w.First() != 1 || w.Last() != n || len(d.Files()) != 64 {
		t.Fatalf("%d records, %d to %d, %d files", n, w.First(), w.Last(), len(d.Files()))
	}
	for i := range n {
		if b, ok := w.Get(i + 1); !ok || len(b) != 0 {
			t.Fatalf("Get(%d): %x, %t", i+1, b, ok)
		}
	}
	if l := Read(d.Files()); uint64(len(l)) != n || l[n-1].Index != n {
		t.Errorf("%d records are read", len(l))
	}
	is(t, "Compact", w.Compact(n), api.OK)
	if len(d.Files()) != 1 || w.Last() != n {
		t.Errorf("compacted: %d files, %d to %d", len(d.Files()), w.First(), w.Last())
	}
}
