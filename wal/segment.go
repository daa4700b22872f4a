package wal

import (
	"cmp"
	"slices"
	"strconv"
	"strings"

	"gudgeon/api"
	"gudgeon/frame"
	"gudgeon/wire"
)

// The kind of a record's frame.
const kindRecord = 1

// A record has at most so many bytes.
const mostData = 4096

// A segment's name is this, and so many digits; they have room for no greater number than that.
const (
	prefix     = "wal-"
	digits     = 8
	mostNumber = 99999999
)

// segment is a file of a log: its number, and where its records stand.
type segment struct {
	number int
	places []place
}

// place is a record's: its Index, and where its frame ends in the segment.
type place struct {
	index uint64
	end   int
}

// file is a file that is named as a segment is.
type file struct {
	number int
	data   []byte
}

// Read is the records of files.
func Read(l []api.File) []api.Record {
	_, records := read(filesOf(l))
	return records
}

// filesOf is those files that are named as segments are, by rising numbers. Of several of one name, such as no
// disk has, the first one counts.
func filesOf(l []api.File) []file {
	var files []file
	for _, f := range l {
		if number, ok := numberOf(f.Name); ok {
			files = append(files, file{number: number, data: f.Data})
		}
	}
	slices.SortStableFunc(files, func(a, b file) int { return cmp.Compare(a.number, b.number) })
	return slices.CompactFunc(files, func(a, b file) bool { return a.number == b.number })
}

// read is the records that are read of files by rising numbers, and the segments, from the first on, as far as
// the reading comes: the last of them may have more than was read.
func read(files []file) (segs []segment, records []api.Record) {
	last := uint64(0)
	for _, f := range files {
		if len(segs) > 0 && f.number != segs[len(segs)-1].number+1 {
			break
		}
		s, more := readFile(f, last)
		segs, records = append(segs, s), append(records, more...)
		if s.size() < len(f.data) {
			break
		}
		last = max(last, s.last())
	}
	return segs, records
}

// readFile is what is read of one file behind the record of Index last; 0: there is none, and any may follow.
func readFile(f file, last uint64) (s segment, records []api.Record) {
	s.number = f.number
	for {
		r, size, ok := next(f.data[s.size():])
		// No record has Index 0, so that none follows that of the greatest Index.
		if !ok || last != 0 && r.Index != last+1 {
			return s, records
		}
		s.add(r.Index, size)
		records = append(records, r)
		last = r.Index
	}
}

// next is the record that bytes begin with, in new memory, and how many of them it takes; false: they begin with none.
func next(b []byte) (r api.Record, size int, ok bool) {
	kind, data, size, e := frame.Next(b)
	if e != api.OK || kind != kindRecord {
		return api.Record{}, 0, false
	}
	in := wire.Read(data)
	index := in.Uvarint() // 0, too, if there is none in its one form
	if index == 0 || in.Left() > mostData {
		return api.Record{}, 0, false
	}
	return api.Record{Index: index, Data: data[len(data)-in.Left():]}, size, true
}

// bytesOf is a record's bytes. It has too few for a frame to refuse them.
func bytesOf(r api.Record) []byte {
	b, _ := frame.Put(kindRecord, append(wire.Uvarint(nil, r.Index), r.Data...))
	return b
}

// nameOf is a segment's name. A digit is set ahead for the noughts' sake, and left out again.
func nameOf(number int) string {
	return prefix + strconv.Itoa(mostNumber + 1 + number)[1:]
}

// numberOf is the number of the segment that is named so; false: none is. The numbers are read as those without
// sign are: a sign is no digit.
func numberOf(name string) (int, bool) {
	text, ok := strings.CutPrefix(name, prefix)
	if !ok || len(text) != digits {
		return 0, false
	}
	n, err := strconv.ParseUint(text, 10, 32)
	if err != nil || n == 0 {
		return 0, false
	}
	return int(n), true
}

// name is the segment's file's.
func (s segment) name() string {
	return nameOf(s.number)
}

// last is the last record's Index; 0: there is none.
func (s segment) last() uint64 {
	if len(s.places) == 0 {
		return 0
	}
	return s.places[len(s.places)-1].index
}

// endOf is where the first n records end.
func (s segment) endOf(n int) int {
	if n == 0 {
		return 0
	}
	return s.places[n-1].end
}

// size is how many bytes all its records have.
func (s segment) size() int {
	return s.endOf(len(s.places))
}

// add keeps the place of one more record.
func (s *segment) add(index uint64, size int) {
	s.places = append(s.places, place{index: index, end: s.size() + size})
}
