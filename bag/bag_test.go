package bag

import (
	"bytes"
	"fmt"
	"math"
	"slices"
	"strings"
	"testing"

	"gudgeon/api"
)

// mail is a message, as it is told.
type mail struct {
	from, to int
	b        string
}

// told is a message that was told; false: none was, and what stood beside it was zero.
func told(t *testing.T, what string, from, to int, b []byte, ok bool) (mail, bool) {
	t.Helper()
	if !ok && (from != 0 || to != 0 || len(b) != 0) {
		t.Errorf("%s: false, but %d, %d, %q beside it", what, from, to, b)
	}
	return mail{from, to, string(b)}, ok
}

// has tells whether these messages are on their way, in that order, and no others.
func has(t *testing.T, what string, f *Bag, want ...mail) {
	t.Helper()
	if f.Len() != len(want) {
		t.Errorf("%s: %d on their way, not %d", what, f.Len(), len(want))
	}
	for i, w := range want {
		if m, ok := look(t, f, i); !ok || m != w {
			t.Errorf("%s: the message %d is %v, %t, not %v", what, i, m, ok, w)
		}
	}
	for _, i := range []int{-1, len(want), len(want) + 1, math.MaxInt, math.MinInt} {
		if m, ok := look(t, f, i); ok {
			t.Errorf("%s: Look(%d) is %v, but there is none", what, i, m)
		}
	}
}

func look(t *testing.T, f *Bag, i int) (mail, bool) {
	t.Helper()
	from, to, b, ok := f.Look(i)
	return told(t, fmt.Sprintf("Look(%d)", i), from, to, b, ok)
}

func deliver(t *testing.T, f *Bag, i int) (mail, bool) {
	t.Helper()
	from, to, b, ok := f.Deliver(i)
	return told(t, fmt.Sprintf("Deliver(%d)", i), from, to, b, ok)
}

// comes tells whether the i-th message is delivered, and is that one.
func comes(t *testing.T, f *Bag, i int, want mail) {
	t.Helper()
	if m, ok := deliver(t, f, i); !ok || m != want {
		t.Errorf("Deliver(%d): %v, %t, not %v", i, m, ok, want)
	}
}

// lost tells whether the i-th message is not delivered.
func lost(t *testing.T, f *Bag, i int) {
	t.Helper()
	if m, ok := deliver(t, f, i); ok {
		t.Errorf("Deliver(%d): %v, but it is lost, or there is none", i, m)
	}
}

// yes and no tell whether a call told true or false.
func yes(t *testing.T, what string, got bool) {
	t.Helper()
	if !got {
		t.Errorf("%s: false", what)
	}
}

func no(t *testing.T, what string, got bool) {
	t.Helper()
	if got {
		t.Errorf("%s: true", what)
	}
}

// count tells whether Clear told that.
func count(t *testing.T, what string, got, want int) {
	t.Helper()
	if got != want {
		t.Errorf("%s: %d, not %d", what, got, want)
	}
}

// posted is a new bag with messages.
func posted(t *testing.T, l ...mail) *Bag {
	t.Helper()
	f := New()
	for _, m := range l {
		yes(t, "Post", f.Post(m.from, m.to, []byte(m.b)))
	}
	return f
}

// full is a bag without room, and what is on its way.
func full(t *testing.T) (*Bag, []mail) {
	t.Helper()
	var l []mail
	for i := range api.MaxFlight {
		l = append(l, mail{i % 7, i % 5, fmt.Sprint(i)})
	}
	return posted(t, l...), l
}

// strange is numbers of nodes that nobody would expect; any may be.
var strange = []int{math.MinInt, math.MinInt + 1, -1 << 32, -1 << 31, -1000, -2, -1, 0, 1, 2, 7, 8, 1000, 1 << 31, 1<<32 + 1, math.MaxInt - 1, math.MaxInt}

// Bg1: a new bag has nothing on its way, and nobody is parted; two of them have nothing in common.
func TestNew(t *testing.T) {
	f, other := New(), New()
	if f == nil || f == other {
		t.Fatal("New gave none, or one twice")
	}
	has(t, "New", f)
	yes(t, "Post", f.Post(1, 2, []byte("a")))
	f.Part(1, 2)
	has(t, "the other one", other)
	for _, a := range strange {
		for _, b := range strange {
			no(t, fmt.Sprintf("Parted(%d, %d) of the other one", a, b), other.Parted(a, b))
		}
	}
	yes(t, "Post", other.Post(1, 2, []byte("b")))
	other.Heal()
	yes(t, "Parted", f.Parted(1, 2))
	comes(t, other, 0, mail{1, 2, "b"})
	has(t, "the first one", f, mail{1, 2, "a"})
	has(t, "New, behind others", New())
}

// Bg1: what is posted stands behind all others, as it was; also what is the same, or has no bytes.
func TestPost(t *testing.T) {
	l := []mail{{1, 2, "a"}, {2, 1, "b"}, {1, 2, "a"}, {3, 3, ""}, {1, 2, "\x00\xff\x80"}, {0, 0, "é"}, {1, 2, strings.Repeat("xyz", 100000)}}
	f := New()
	for i, m := range l {
		yes(t, "Post", f.Post(m.from, m.to, []byte(m.b)))
		has(t, "posted", f, l[:i+1]...)
	}
	yes(t, "Post of nil", f.Post(4, 5, nil))
	yes(t, "Post of no bytes", f.Post(4, 5, []byte{}))
	has(t, "no bytes", f, append(l, mail{4, 5, ""}, mail{4, 5, ""})...)
	comes(t, f, len(l), mail{4, 5, ""})
	comes(t, f, len(l), mail{4, 5, ""})
	has(t, "delivered", f, l...)
}

// Bg1: nodes are any numbers.
func TestAnyNumbers(t *testing.T) {
	var l []mail
	for _, from := range strange {
		for _, to := range strange {
			l = append(l, mail{from, to, fmt.Sprint(from, to)})
		}
	}
	f := posted(t, l...)
	has(t, "any numbers", f, l...)
	for i, m := range l {
		yes(t, "Twice", f.Twice(i))
		if i%2 == 0 {
			l = append(l, m)
		} else {
			yes(t, "Drop", f.Drop(f.Len()-1))
		}
	}
	has(t, "doubled", f, l...)
	for len(l) > 0 {
		i := len(l) / 3
		comes(t, f, i, l[i])
		l = slices.Delete(l, i, i+1)
	}
	has(t, "delivered", f)
}

// Bg1, Bg2: there is room for MaxFlight, of Post and of Twice; what is refused changes nothing.
func TestFull(t *testing.T) {
	f, l := full(t)
	for range 3 {
		no(t, "Post of one too many", f.Post(1, 2, []byte("x")))
		no(t, "Post of no bytes", f.Post(0, 0, nil))
		no(t, "Twice of the first", f.Twice(0))
		no(t, "Twice of the last", f.Twice(api.MaxFlight-1))
		no(t, "Twice of none", f.Twice(api.MaxFlight))
	}
	has(t, "full", f, l...)
	comes(t, f, 5, l[5])
	l = slices.Delete(l, 5, 6)
	yes(t, "Twice behind a delivery", f.Twice(9))
	no(t, "Post behind Twice", f.Post(1, 2, nil))
	l = append(l, l[9])
	has(t, "full again", f, l...)
	yes(t, "Drop of the last", f.Drop(api.MaxFlight-1))
	yes(t, "Post behind Drop", f.Post(-1, -2, []byte("y")))
	no(t, "Twice behind Post", f.Twice(0))
	l[len(l)-1] = mail{-1, -2, "y"}
	has(t, "full once more", f, l...)
	f.Part(-1, -2)
	lost(t, f, api.MaxFlight-1)
	l = l[:len(l)-1]
	yes(t, "Post behind a loss", f.Post(1, 2, []byte("z")))
	no(t, "and another one", f.Post(1, 2, []byte("z")))
	has(t, "behind a loss", f, append(l, mail{1, 2, "z"})...)
	n := f.Clear(2)
	for range n {
		yes(t, "Post behind Clear", f.Post(3, 4, nil))
	}
	no(t, "and one too many", f.Post(3, 4, nil))
	no(t, "and Twice", f.Twice(0))
	count(t, "Len", f.Len(), api.MaxFlight)
}

// Bg1: room is by what is on its way, not by what was: more than MaxFlight may come, one behind the other.
func TestManyInTurn(t *testing.T) {
	f := New()
	for i := range 3*api.MaxFlight + 1 {
		m := mail{i, i + 1, fmt.Sprint(i)}
		yes(t, "Post", f.Post(m.from, m.to, []byte(m.b)))
		yes(t, "Twice", f.Twice(0))
		comes(t, f, 0, m)
		comes(t, f, 0, m)
	}
	has(t, "in turn", f)
}

// Bg1, Bg2: one that is not there is told as none, by all calls, and nothing has changed.
func TestNone(t *testing.T) {
	for n := range 4 {
		var l []mail
		for i := range n {
			l = append(l, mail{i + 1, i + 2, fmt.Sprint(i)})
		}
		f := posted(t, l...)
		for _, i := range []int{-1, -2, math.MinInt, n, n + 1, api.MaxFlight, math.MaxInt, 1 << 32, -1 << 32} {
			lost(t, f, i)
			no(t, fmt.Sprintf("Drop(%d) of %d", i, n), f.Drop(i))
			no(t, fmt.Sprintf("Twice(%d) of %d", i, n), f.Twice(i))
			has(t, fmt.Sprintf("%d, of %d", i, n), f, l...)
		}
	}
}

// Bg2, example 1.
func TestExample1(t *testing.T) {
	f := posted(t, mail{1, 2, "a"}, mail{1, 2, "b"})
	comes(t, f, 1, mail{1, 2, "b"})
	yes(t, "Twice", f.Twice(0))
	comes(t, f, 0, mail{1, 2, "a"})
	comes(t, f, 0, mail{1, 2, "a"})
	has(t, "example 1", f)
}

// Bg2: each message may be delivered or dropped first; the others stay in their order, and a later one stands behind them.
func TestAnyOrder(t *testing.T) {
	l := []mail{{1, 2, "a"}, {2, 3, "b"}, {3, 1, "c"}, {1, 1, "d"}, {2, 1, "e"}}
	for i := range l {
		rest := slices.Delete(slices.Clone(l), i, i+1)
		f := posted(t, l...)
		comes(t, f, i, l[i])
		has(t, "delivered", f, rest...)
		yes(t, "Post", f.Post(9, 9, []byte("z")))
		has(t, "and posted", f, append(rest, mail{9, 9, "z"})...)
		f = posted(t, l...)
		yes(t, "Drop", f.Drop(i))
		has(t, "dropped", f, rest...)
		yes(t, "Twice", f.Twice(1))
		has(t, "and doubled", f, append(rest, rest[1])...)
	}
	f := posted(t, l...)
	for range l {
		yes(t, "Drop", f.Drop(0))
	}
	no(t, "Drop of none", f.Drop(0))
	has(t, "all dropped", f)
}

// Bg2: a doubled message stands behind all, as it is; each of both goes its own way.
func TestTwice(t *testing.T) {
	a, b, c := mail{1, 2, "a"}, mail{2, 3, ""}, mail{3, 1, "c"}
	f := posted(t, a, b, c)
	yes(t, "Twice", f.Twice(0))
	has(t, "doubled", f, a, b, c, a)
	yes(t, "Twice", f.Twice(1))
	has(t, "doubled", f, a, b, c, a, b)
	yes(t, "Twice of a doubled one", f.Twice(3))
	has(t, "doubled again", f, a, b, c, a, b, a)
	yes(t, "Drop", f.Drop(0))
	has(t, "the first is dropped", f, b, c, a, b, a)
	comes(t, f, 2, a)
	comes(t, f, 3, a)
	has(t, "both delivered", f, b, c, b)
	f.Part(2, 3)
	yes(t, "Twice of parted nodes", f.Twice(0))
	has(t, "doubled, parted", f, b, c, b, b)
	lost(t, f, 0)
	f.Heal()
	comes(t, f, 1, b)
	comes(t, f, 1, b)
	has(t, "one lost, two delivered", f, c)
}

// Bg2: two nodes are parted in both directions, and these two alone.
func TestPart(t *testing.T) {
	for _, a := range strange {
		for _, b := range strange {
			f := New()
			f.Part(a, b)
			for _, x := range strange {
				for _, y := range strange {
					want := a != b && (x == a && y == b || x == b && y == a)
					if f.Parted(x, y) != want {
						t.Fatalf("Part(%d, %d): Parted(%d, %d) is %t", a, b, x, y, !want)
					}
				}
			}
		}
	}
	f := New()
	f.Part(1, 2)
	f.Part(2, 3)
	no(t, "parted from one that is parted", f.Parted(1, 3))
	f.Part(1, 2)
	f.Part(2, 1)
	yes(t, "parted again", f.Parted(1, 2) && f.Parted(2, 1) && f.Parted(3, 2))
}

// Bg2: nobody is parted from itself: what it posts to itself comes, whoever else is parted.
func TestPartItself(t *testing.T) {
	for _, a := range strange {
		f := posted(t, mail{a, a, "x"})
		f.Part(a, a)
		no(t, "parted from itself", f.Parted(a, a))
		f.Part(a, a/2+1)
		f.Part(a/2-1, a)
		no(t, "parted from itself", f.Parted(a, a))
		comes(t, f, 0, mail{a, a, "x"})
	}
}

// Bg2: what is delivered between parted nodes is lost for good; what only is on its way is not.
func TestDeliverParted(t *testing.T) {
	ab, ba, ac, ca := mail{1, 2, "ab"}, mail{2, 1, "ba"}, mail{1, 3, "ac"}, mail{3, 1, "ca"}
	for _, turned := range []bool{false, true} {
		f := posted(t, ab, ba, ac, ca)
		if turned {
			f.Part(2, 1)
		} else {
			f.Part(1, 2)
		}
		yes(t, "Post while parted", f.Post(1, 2, []byte("late")))
		late := mail{1, 2, "late"}
		has(t, "parted", f, ab, ba, ac, ca, late)
		lost(t, f, 1)
		has(t, "one is lost", f, ab, ac, ca, late)
		comes(t, f, 1, ac)
		comes(t, f, 1, ca)
		lost(t, f, 0)
		has(t, "the posted one is left", f, late)
		f.Heal()
		has(t, "healed", f, late)
		comes(t, f, 0, late)
		lost(t, f, 0)
		has(t, "all gone", f)
	}
}

// Bg2: Heal lets nobody be parted, and they may be parted again; what is on its way stays.
func TestHeal(t *testing.T) {
	f := posted(t, mail{1, 2, "a"}, mail{2, 1, "b"})
	f.Heal()
	for range 3 {
		for _, a := range strange {
			for _, b := range strange {
				f.Part(a, b)
			}
		}
		yes(t, "parted", f.Parted(1, 2) && f.Parted(math.MaxInt, math.MinInt))
		f.Heal()
		for _, a := range strange {
			for _, b := range strange {
				no(t, fmt.Sprintf("healed, Parted(%d, %d)", a, b), f.Parted(a, b))
			}
		}
		has(t, "healed", f, mail{1, 2, "a"}, mail{2, 1, "b"})
	}
	f.Heal()
	comes(t, f, 1, mail{2, 1, "b"})
	f.Part(2, 1)
	lost(t, f, 0)
}

// Bg2: Clear loses what goes to a node, doubled ones too, and not what comes from it; the others stay in their order.
func TestClear(t *testing.T) {
	a, b, c, d, e := mail{1, 2, "a"}, mail{2, 1, "b"}, mail{2, 2, "c"}, mail{3, 2, ""}, mail{2, 3, "e"}
	f := posted(t, a, b, c, d, e)
	yes(t, "Twice", f.Twice(0))
	yes(t, "Twice", f.Twice(1))
	f.Part(1, 2)
	count(t, "Clear of nobody's", f.Clear(4), 0)
	count(t, "Clear of nobody's", f.Clear(0), 0)
	count(t, "Clear of nobody's", f.Clear(-2), 0)
	has(t, "as it was", f, a, b, c, d, e, a, b)
	count(t, "Clear(2)", f.Clear(2), 4)
	has(t, "cleared", f, b, e, b)
	yes(t, "still parted", f.Parted(1, 2))
	count(t, "Clear(2) again", f.Clear(2), 0)
	count(t, "Clear(3)", f.Clear(3), 1)
	has(t, "cleared", f, b, b)
	yes(t, "Post", f.Post(3, 2, []byte("new")))
	has(t, "and posted", f, b, b, mail{3, 2, "new"})
	count(t, "Clear(1)", f.Clear(1), 2)
	comes(t, f, 0, mail{3, 2, "new"})
	count(t, "Clear of none", f.Clear(2), 0)
	for _, node := range strange {
		f := posted(t, mail{1, node, "x"}, mail{node, 77, "y"}, mail{node, node, "z"})
		count(t, "Clear", f.Clear(node), 2)
		has(t, "cleared", f, mail{node, 77, "y"})
	}
	f, l := full(t)
	for node := range 5 {
		rest := slices.DeleteFunc(slices.Clone(l), func(m mail) bool { return m.to == node })
		count(t, "Clear of many", f.Clear(node), len(l)-len(rest))
		has(t, "many", f, rest...)
		l = rest
	}
	has(t, "all cleared", f)
}

// Of a Bag that New did not give: false, zero, nothing; and it stays so.
func TestNotGiven(t *testing.T) {
	for name, f := range map[string]*Bag{"nil": nil, "zero": {}, "made by new": new(Bag)} {
		for range 2 {
			no(t, name+": Post", f.Post(1, 2, []byte("x")))
			no(t, name+": Post of no bytes", f.Post(0, 0, nil))
			f.Part(1, 2)
			f.Part(1, 1)
			no(t, name+": Parted", f.Parted(1, 2))
			no(t, name+": Parted from itself", f.Parted(1, 1))
			f.Heal()
			no(t, name+": Parted, healed", f.Parted(1, 2))
			for _, i := range []int{0, 1, -1, math.MaxInt, math.MinInt} {
				lost(t, f, i)
				no(t, name+": Drop", f.Drop(i))
				no(t, name+": Twice", f.Twice(i))
				count(t, name+": Clear", f.Clear(i), 0)
			}
			has(t, name, f)
		}
	}
}

// R3: what is handed in is not kept, nor changed, nor what lies behind it.
func TestArgumentsStay(t *testing.T) {
	room := []byte("abcdefgh")
	f := New()
	yes(t, "Post", f.Post(1, 2, room[:2]))
	yes(t, "Post", f.Post(1, 2, room[2:4]))
	yes(t, "Post", f.Post(1, 2, room[1:1]))
	yes(t, "Twice", f.Twice(0))
	if string(room) != "abcdefgh" {
		t.Errorf("changed: %q", room)
	}
	fill(room)
	has(t, "posted", f, mail{1, 2, "ab"}, mail{1, 2, "cd"}, mail{1, 2, ""}, mail{1, 2, "ab"})
	f.Deliver(1)
	f.Drop(1)
	f.Clear(2)
	if string(room) != "????????" {
		t.Errorf("changed later: %q", room)
	}
}

// R3: an answer has nothing in common with what the bag keeps, nor with another answer, its spare room too.
func TestAnswersAreNew(t *testing.T) {
	for size := range 70 {
		text := strings.Repeat("m", size)
		m := mail{1, 2, text}
		f := posted(t, m, m)
		for i := range 2 {
			yes(t, "Twice", f.Twice(i))
		}
		spoil(f)
		has(t, "spoilt", f, m, m, m, m)
		_, _, first, _ := f.Look(2)
		_, _, second, _ := f.Look(2)
		_, _, third, _ := f.Deliver(0)
		fill(third)
		has(t, "delivered, and spoilt", f, m, m, m)
		_, _, fourth, _ := f.Deliver(1)
		fill(second)
		if string(first) != text || string(fourth) != text {
			t.Errorf("answers share their bytes: %q, %q", first, fourth)
		}
		has(t, "delivered twice", f, m, m)
		yes(t, "Post", f.Post(3, 4, bytes.Repeat([]byte("n"), size)))
		if string(first) != text || string(fourth) != text {
			t.Errorf("answers changed later: %q, %q", first, fourth)
		}
	}
}

// spoil changes all that Look tells.
func spoil(f *Bag) {
	for i := range f.Len() {
		_, _, b, _ := f.Look(i)
		fill(b)
	}
}

// fill spoils bytes, and the room behind them.
func fill(b []byte) {
	b = b[:cap(b)]
	for i := range b {
		b[i] = '?'
	}
}

// What is on its way no more is not kept: neither in the list nor in the room behind it.
func TestNothingStays(t *testing.T) {
	f := posted(t, mail{1, 2, "a"}, mail{2, 3, "b"}, mail{1, 2, "c"}, mail{2, 3, "d"}, mail{1, 3, "e"})
	f.Part(1, 3)
	comes(t, f, 0, mail{1, 2, "a"})
	lost(t, f, 3)
	yes(t, "Drop", f.Drop(0))
	count(t, "Clear", f.Clear(2), 1)
	room := f.flight[:cap(f.flight)]
	for _, m := range room[len(f.flight):] {
		if m != (message{}) {
			t.Errorf("%v is kept", m)
		}
	}
	f.Heal()
	count(t, "pairs that are kept", len(f.parted), 0)
}
