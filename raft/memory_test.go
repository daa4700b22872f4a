package raft

import (
	"bytes"
	"math/rand"
	"reflect"
	"slices"
	"testing"

	"gudgeon/api"
)

// room is where a list lies, its spare room too.
type room struct{ from, to uintptr }

// rooms is where all lists of a value lie.
func rooms(v reflect.Value) []room {
	var l []room
	switch v.Kind() {
	case reflect.Struct:
		for i := range v.NumField() {
			l = append(l, rooms(v.Field(i))...)
		}
	case reflect.Slice:
		if v.Cap() == 0 {
			return nil
		}
		size := uintptr(v.Cap()) * v.Type().Elem().Size()
		l = append(l, room{v.Pointer(), v.Pointer() + size})
		for i := range v.Len() {
			l = append(l, rooms(v.Index(i))...)
		}
	}
	return l
}

// shared tells whether two of these lie at one place.
func shared(l []room) bool {
	slices.SortFunc(l, func(a, b room) int {
		if a.from < b.from {
			return -1
		}
		return 1
	})
	for i := range max(len(l)-1, 0) {
		if l[i].to > l[i+1].from {
			return true
		}
	}
	return false
}

// roomy is a list with junk in the room behind its end.
func roomy[T any](l []T, junk T) []T {
	n := len(l)
	l = append(slices.Clone(l), junk, junk, junk)
	return l[:n]
}

// roomyEntries is entries with junk behind them, and behind the bytes of each.
func roomyEntries(l []api.Entry) []api.Entry {
	l = roomy(l, entry(77, 7, 7, 7))
	for i := range l {
		l[i].Data = roomy(l[i].Data, 77)
	}
	return l
}

// roomyState is a state all of whose lists have room.
func roomyState(r api.Raft) api.Raft {
	r.Log.Base.Data, r.Log.L = roomy(r.Log.Base.Data, 77), roomyEntries(r.Log.L)
	r.Votes, r.Peers = roomy(r.Votes, 77), roomy(r.Peers, api.Peer{Node: 77})
	return r
}

// whole is a value as a text, with what lies behind the ends of its lists.
func whole(l ...any) string {
	var b bytes.Buffer
	for _, v := range l {
		b.WriteString(text(stretched(reflect.ValueOf(v)).Interface()))
	}
	return b.String()
}

// stretched is a value whose lists go on to where their room ends.
func stretched(v reflect.Value) reflect.Value {
	switch v.Kind() {
	case reflect.Struct:
		w := reflect.New(v.Type()).Elem()
		for i := range v.NumField() {
			w.Field(i).Set(stretched(v.Field(i)))
		}
		return w
	case reflect.Slice:
		w := reflect.MakeSlice(v.Type(), v.Cap(), v.Cap())
		long := v.Slice(0, v.Cap())
		for i := range v.Cap() {
			w.Index(i).Set(stretched(long.Index(i)))
		}
		return w
	}
	return v
}

// apart tells whether all lists of some answers, and of the arguments, lie apart.
func apart(t *testing.T, what string, l ...any) {
	t.Helper()
	var all []room
	for _, v := range l {
		all = append(all, rooms(reflect.ValueOf(v))...)
	}
	if shared(all) {
		t.Fatalf("%s: memory is shared: %s", what, brief(text(l...)))
	}
}

// R3: what is handed in is not changed, nor what lies behind it, and all lists of an answer are memory of their own.
func TestMemory(t *testing.T) {
	sent := 0
	for seed := range int64(15000) {
		r := rand.New(rand.NewSource(seed))
		s := roomyState(someState(r))
		m := someMsg(r, s)
		m.Entries, m.Snap.Data = roomyEntries(m.Entries), roomy(m.Snap.Data, 77)
		data := roomy(someVoters(r), 77)
		was := whole(s, m, data)
		a, sentA, _ := Tick(s)
		apart(t, "Tick", s, m, data, a, sentA)
		b, sentB, _ := Step(s, m)
		apart(t, "Step", s, m, data, b, sentB)
		c, sentC, _, _ := Propose(s, 1+r.Intn(2), data)
		apart(t, "Propose", s, m, data, c, sentC)
		d, _ := Compact(s, s.Log.Base.Index+1+uint64(r.Intn(2)))
		apart(t, "Compact", s, m, data, d)
		e, _ := Restart(s)
		apart(t, "Restart", s, m, data, e)
		Same(s, s)
		if is := whole(s, m, data); is != was {
			t.Fatalf("changed: %s, not %s", is, was)
		}
		sent += len(sentA) + len(sentB) + len(sentC)
	}
	if sent < 10000 {
		t.Errorf("%d messages: too few to tell", sent)
	}
	voters := roomy(list(1, 2, 3), 77)
	x, _ := New(1, voters)
	y, _ := New(1, voters)
	apart(t, "New", voters, x, y)
	if whole(voters) != whole(roomy(list(1, 2, 3), 77)) {
		t.Errorf("New changed voters: %d", voters[:cap(voters)])
	}
}

// R3: what a call told stays as it is, whatever is done with what it was given, and with other answers.
func TestAnswersStay(t *testing.T) {
	base := entry(2, 1, 0, 1, 2, 3)
	r := api.Raft{Node: 1, Term: 5, Role: api.Leader, Elapsed: 1, Log: api.Log{Base: base, L: many(2, 5, 2)}, Commit: 2,
		Peers: []api.Peer{{Node: 1, Next: 5, Match: 4}, {Node: 2, Next: 1}, {Node: 3, Next: 3}}}
	got, sent, _ := Tick(r)
	was := text(sent, got)
	r.Log.Base.Data[0], r.Log.L[0].Data[0], r.Peers[1].Next = 9, 9, 9
	equal(t, "by what was given", text(sent, got), was)
	first := text(sent[1], got)
	sent[0].Snap.Data[1] = 9
	equal(t, "by another message", text(sent[1], got), first)
	state := text(got)
	sent[1].Entries[0].Data[0] = 9
	equal(t, "by a message", text(got), state)
}
