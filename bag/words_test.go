package bag

import (
	"fmt"
	"math/rand"
	"slices"
	"strings"
	"testing"
)

// plain is a bag by the chapter's words: lists that are gone through.
type plain struct {
	way    []mail
	parted [][2]int // as they were named, as often as they were
}

func (p *plain) there(i int) bool {
	return 0 <= i && i <= len(p.way)-1
}

func (p *plain) apart(a, b int) bool {
	for _, two := range p.parted {
		if two == [2]int{a, b} || two == [2]int{b, a} {
			return a != b
		}
	}
	return false
}

func (p *plain) post(m mail) bool {
	if len(p.way) == 16384 {
		return false
	}
	p.way = append(p.way, m)
	return true
}

func (p *plain) drop(i int) bool {
	if !p.there(i) {
		return false
	}
	p.way = slices.Concat(p.way[:i], p.way[i+1:])
	return true
}

func (p *plain) deliver(i int) (mail, bool) {
	if !p.there(i) {
		return mail{}, false
	}
	m := p.way[i]
	p.drop(i)
	if p.apart(m.from, m.to) {
		return mail{}, false
	}
	return m, true
}

func (p *plain) clear(node int) int {
	var stay []mail
	for _, m := range p.way {
		if m.to != node {
			stay = append(stay, m)
		}
	}
	n := len(p.way) - len(stay)
	p.way = stay
	return n
}

// nodes is those that take part in calls by chance.
var nodes = []int{-1, 0, 1, 2, 3}

// step is one call by chance, on both: what it was, and what each told.
func step(t *testing.T, r *rand.Rand, f *Bag, p *plain) (what, got, want string) {
	t.Helper()
	a, b := nodes[r.Intn(len(nodes))], nodes[r.Intn(len(nodes))]
	i := r.Intn(len(p.way)+3) - 1
	switch r.Intn(12) {
	case 0:
		f.Part(a, b)
		p.parted = append(p.parted, [2]int{a, b})
		return fmt.Sprint("Part ", a, b), "", ""
	case 1:
		if r.Intn(4) > 0 {
			return fmt.Sprint("Parted ", a, b), fmt.Sprint(f.Parted(a, b)), fmt.Sprint(p.apart(a, b))
		}
		f.Heal()
		p.parted = nil
		return "Heal", "", ""
	case 2:
		if r.Intn(4) > 0 {
			m, ok := look(t, f, i)
			return fmt.Sprint("Look ", i), fmt.Sprint(m, ok), fmt.Sprint(at(p, i), p.there(i))
		}
		return fmt.Sprint("Clear ", a), fmt.Sprint(f.Clear(a)), fmt.Sprint(p.clear(a))
	case 3:
		return fmt.Sprint("Drop ", i), fmt.Sprint(f.Drop(i)), fmt.Sprint(p.drop(i))
	case 4, 5:
		return fmt.Sprint("Twice ", i), fmt.Sprint(f.Twice(i)), fmt.Sprint(p.there(i) && p.post(p.way[i]))
	case 6, 7, 8:
		m, ok := deliver(t, f, i)
		x, there := p.deliver(i)
		return fmt.Sprint("Deliver ", i), fmt.Sprint(m, ok), fmt.Sprint(x, there)
	default:
		m := mail{a, b, strings.Repeat(string(rune('a'+r.Intn(26))), r.Intn(5))}
		return fmt.Sprint("Post ", m), fmt.Sprint(f.Post(a, b, []byte(m.b))), fmt.Sprint(p.post(m))
	}
}

// at is the i-th message, by the words.
func at(p *plain, i int) mail {
	if !p.there(i) {
		return mail{}
	}
	return p.way[i]
}

// all is what is on its way, and who is parted, by the bag's own calls.
func all(t *testing.T, f *Bag) string {
	t.Helper()
	var s strings.Builder
	for i := range f.Len() {
		m, ok := look(t, f, i)
		fmt.Fprint(&s, m, ok)
	}
	for _, a := range nodes {
		for _, b := range nodes {
			fmt.Fprint(&s, " ", f.Parted(a, b))
		}
	}
	return s.String()
}

// allBy is that, by the words.
func allBy(p *plain) string {
	var s strings.Builder
	for _, m := range p.way {
		fmt.Fprint(&s, m, true)
	}
	for _, a := range nodes {
		for _, b := range nodes {
			fmt.Fprint(&s, " ", p.apart(a, b))
		}
	}
	return s.String()
}

// Bg1, Bg2: many calls, one behind the other, are what the words say.
func TestWords(t *testing.T) {
	for seed := range int64(200) {
		r := rand.New(rand.NewSource(seed))
		f, p := New(), &plain{}
		var did []string
		for range 150 {
			what, got, want := step(t, r, f, p)
			did = append(did, what)
			if got != want || all(t, f) != allBy(p) {
				t.Fatalf("seed %d: told %s, not %s; has %s, not %s; behind\n%s", seed, got, want, all(t, f), allBy(p), strings.Join(did, "\n"))
			}
		}
	}
}

// R4: the same calls tell the same.
func TestSameAgain(t *testing.T) {
	run := func() string {
		r := rand.New(rand.NewSource(99))
		f, p := New(), &plain{}
		var s strings.Builder
		for range 300 {
			what, got, _ := step(t, r, f, p)
			fmt.Fprintln(&s, what, got, all(t, f))
		}
		return s.String()
	}
	first := run()
	for range 10 {
		if run() != first {
			t.Fatal("the same calls told otherwise")
		}
	}
}

// Bg3: nothing is delivered that was not posted, and no more often than it was posted and doubled; and all of that
// comes, if nothing is lost.
func TestNoMoreThanPosted(t *testing.T) {
	for seed := range int64(200) {
		r := rand.New(rand.NewSource(seed))
		losing := seed%2 == 0
		f := New()
		may := map[mail]int{}
		for range 300 {
			m := mail{r.Intn(4), r.Intn(4), fmt.Sprint(r.Intn(6))}
			i := r.Intn(f.Len() + 1)
			switch k := r.Intn(7); {
			case k < 2 && f.Post(m.from, m.to, []byte(m.b)):
				may[m]++
			case k == 2:
				if was, ok := look(t, f, i); ok && f.Twice(i) {
					may[was]++
				}
			case k == 3 && losing:
				loseSome(r, f, i)
			default:
				taken(t, f, i, may)
			}
		}
		f.Heal()
		for f.Len() > 0 {
			taken(t, f, r.Intn(f.Len()), may)
		}
		for m, n := range may {
			if n < 0 || n > 0 && !losing {
				t.Fatalf("seed %d: %v: %d of it did not come", seed, m, n)
			}
		}
	}
}

// loseSome loses something by chance, or lets it be lost.
func loseSome(r *rand.Rand, f *Bag, i int) {
	switch r.Intn(5) {
	case 0:
		f.Part(r.Intn(4), r.Intn(4))
	case 1:
		f.Heal()
	case 2:
		f.Clear(r.Intn(4))
	default:
		f.Drop(i)
	}
}

// taken delivers one, if it comes, and holds it against how many may.
func taken(t *testing.T, f *Bag, i int, may map[mail]int) {
	t.Helper()
	m, ok := deliver(t, f, i)
	if !ok {
		return
	}
	may[m]--
	if may[m] < 0 {
		t.Fatalf("%v was delivered more often than it was posted and doubled", m)
	}
}
