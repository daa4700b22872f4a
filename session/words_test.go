package session

import (
	"fmt"
	"math/rand"
	"slices"
	"strings"
	"testing"

	"gudgeon/api"
)

// few is Seqs at the edges of what may be, and some between.
var few = []uint64{0, 1, 2, 3, 1 << 32, top - 1, top, top + 1, 1 << 63, 1<<64 - 1}

// told is all that clients were told: of each client, behind one another, each call that was put.
type told map[int][]api.Seat

// last is a client's last seat; false: it has none.
func (h told) last(client int) (api.Seat, bool) {
	l := h[client]
	if len(l) == 0 {
		return api.Seat{}, false
	}
	return l[len(l)-1], true
}

// table is the last seats, by rising client.
func (h told) table() []api.Seat {
	var l []api.Seat
	for client := range 8 {
		if s, has := h.last(client); has {
			l = append(l, s)
		}
	}
	return l
}

// mayCall tells whether a call may be.
func mayCall(id api.Id) bool {
	return slices.Contains([]int{0, 1, 2, 3, 4, 5, 6, 7}, id.Client) && id.Seq != 0 && id.Seq <= top
}

// look is what Look must tell.
func (h told) look(id api.Id) (string, bool, api.Errno) {
	if !mayCall(id) {
		return "", false, api.ErrArg
	}
	s, has := h.last(id.Client)
	if has && s.Seq == id.Seq {
		return string(s.Reply), true, api.OK
	}
	if has && s.Seq > id.Seq {
		return "", false, api.ErrOld
	}
	return "", false, api.OK
}

// put is what Put must tell; a call that is new is told.
func (h told) put(id api.Id, reply string) ([]api.Seat, api.Errno) {
	if !mayCall(id) || len(reply) > 4096 {
		return nil, api.ErrArg
	}
	if s, has := h.last(id.Client); has && s.Seq >= id.Seq {
		return nil, api.ErrOld
	}
	h[id.Client] = append(h[id.Client], of(id.Client, id.Seq, reply))
	return h.table(), api.OK
}

// Se1: all tables of two clients with few Seqs, and all calls at the edges.
func TestEdges(t *testing.T) {
	for _, low := range few {
		for _, high := range few {
			l := list(of(2, low, "low"), of(5, high, "high"))
			may := mayCall(call(2, low)) && mayCall(call(5, high))
			h := told{2: l[:1], 5: l[1:]}
			for client := -2; client < 10; client++ {
				for _, seq := range few {
					id := call(client, seq)
					want, finished, code := h.look(id)
					if !may {
						want, finished, code = "", false, api.ErrArg
					}
					looks(t, l, id, want, finished, code)
				}
			}
			if may != (Check(l) == api.OK) {
				t.Errorf("Check(%v): error %d", l, Check(l))
			}
		}
	}
}

// Se1: all lists of up to three seats, of clients at the edges and between: a table's clients rise.
func TestCheckByWords(t *testing.T) {
	clients := []int{-1, 0, 1, 2, 6, 7, 8}
	var grow func(l []api.Seat)
	grow = func(l []api.Seat) {
		may := true
		for i, s := range l {
			for _, ahead := range l[:i] {
				may = may && ahead.Client < s.Client
			}
			may = may && mayCall(call(s.Client, s.Seq))
		}
		if may != (Check(l) == api.OK) {
			t.Errorf("Check(%v): error %d", l, Check(l))
		}
		again(t, bytesOf(l))
		if _, e := Decode(bytesOf(l)); may != (e == api.OK) {
			t.Errorf("Decode(%x): error %d", bytesOf(l), e)
		}
		if len(l) == 3 {
			return
		}
		for _, client := range clients {
			for _, seq := range []uint64{0, 1, top} {
				grow(append(slices.Clone(l), of(client, seq, "r")))
			}
		}
	}
	grow(nil)
}

// chance is a call and its reply, by chance: now and then one that may not be.
func chance(r *rand.Rand, n int) (api.Id, string) {
	id := call(r.Intn(8), uint64(1+r.Intn(n)))
	reply := strings.Repeat(string(rune('a'+r.Intn(26))), r.Intn(6))
	switch r.Intn(40) {
	case 0:
		id.Client = []int{-1, 8, 1 << 40}[r.Intn(3)]
	case 1:
		id.Seq = few[r.Intn(len(few))] // a top one is the client's last call
	case 2:
		reply = tooLong
	case 3:
		reply = longest
	}
	return id, reply
}

// Se1, Se2, Se3: many calls, many of them asked again; each table tells the last ones, as bytes, too.
func TestWords(t *testing.T) {
	counts := make(map[api.Errno]int)
	for seed := range int64(40) {
		r := rand.New(rand.NewSource(seed))
		h := make(told)
		var l []api.Seat
		for step := range 300 {
			id, reply := chance(r, 5+step)
			want, finished, code := h.look(id)
			looks(t, l, id, want, finished, code)
			turned, code := h.put(id, reply)
			got, e := Put(l, id, []byte(reply))
			tells(t, fmt.Sprintf("seed %d: Put(%v, %v)", seed, l, id), got, e, turned, code)
			counts[code]++
			if code != api.OK {
				continue
			}
			b, e := Encode(got)
			is(t, "Encode", e, api.OK)
			l, e = Decode(b)
			tells(t, "Decode", l, e, turned, api.OK)
		}
	}
	if counts[api.OK] < 100 || counts[api.ErrOld] < 100 || counts[api.ErrArg] < 100 {
		t.Errorf("too few of a kind: %v", counts)
	}
}

// Se3: whatever calls come, Put tells OK of each once at most, and Look tells what was put till a later one of the client is.
func TestOnce(t *testing.T) {
	for seed := range int64(20) {
		r := rand.New(rand.NewSource(seed))
		var l []api.Seat
		times := make(map[api.Id]int)
		put := make(map[int]api.Seat)
		for step := range 2000 {
			id := call(r.Intn(8), uint64(1+r.Intn(40)))
			reply := fmt.Sprint(step)
			turned, e := Put(l, id, []byte(reply))
			if e == api.OK {
				l = turned
				times[id]++
				put[id.Client] = of(id.Client, id.Seq, reply)
			}
			for client, s := range put {
				looks(t, l, call(client, s.Seq), string(s.Reply), true, api.OK)
			}
			if times[id] > 1 {
				t.Fatalf("seed %d: %v was put %d times", seed, id, times[id])
			}
		}
		if len(l) != 8 || len(times) < 16 {
			t.Errorf("seed %d: %d seats, %d calls: too few to tell", seed, len(l), len(times))
		}
	}
}

// R4: the same calls tell the same.
func TestSameAgain(t *testing.T) {
	run := func() string {
		var b strings.Builder
		r := rand.New(rand.NewSource(1))
		var l []api.Seat
		for step := range 300 {
			id, reply := chance(r, 5+step)
			text, done, e := Look(l, id)
			turned, f := Put(l, id, []byte(reply))
			bytes, g := Encode(turned)
			fmt.Fprint(&b, text, done, e, turned, f, bytes, g)
			if f == api.OK {
				l = turned
			}
		}
		return b.String()
	}
	if run() != run() {
		t.Error("the same calls told otherwise")
	}
}
