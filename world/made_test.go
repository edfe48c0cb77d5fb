package world_test

import (
	"fmt"
	"math/rand"
	"strings"
	"testing"

	"thunkmill/api"
	"thunkmill/testkit"
	"thunkmill/world"
)

func seeded(n int64) *rand.Rand { return rand.New(rand.NewSource(n)) }

// reference is a world of plain texts.
type reference struct {
	unread string
	used   int
	ended  bool
	out    string
}

func (r *reference) ask(call string) string {
	name, with, _ := strings.Cut(call, " ")
	switch {
	case r.ended && (name == "feed" || name == "end"):
		return "ErrOver"
	case name == "feed":
		r.unread += with
	case name == "end":
		r.ended = true
	case name == "put":
		r.out += with
	default:
		return r.find(name == "get")
	}
	return "OK"
}

// find tells what comes next, and takes it where it is read.
func (r *reference) find(reads bool) string {
	switch {
	case r.unread == "" && r.ended:
		return "end"
	case r.unread == "":
		return "need"
	case !reads:
		return "byte"
	}
	c := r.unread[0]
	r.unread = r.unread[1:]
	r.used++
	return fmt.Sprintf("%q byte", c)
}

func (r *reference) standing() standing {
	return standing{r.out, r.used, len(r.unread), r.ended}
}

// pair is a world beside a reference that is asked the same.
type pair struct {
	w *world.World
	r reference
}

func newPair() *pair { return &pair{w: world.New()} }

func (p *pair) check(t *testing.T, call string) string {
	t.Helper()
	answer, want := ask(p.w, call), p.r.ask(call)
	if answer != want {
		t.Fatalf("%.40q: %s, want %s", call, answer, want)
	}
	p.checkStands(t, call)
	return answer
}

func (p *pair) checkStands(t *testing.T, call string) {
	t.Helper()
	if got, want := standingOf(p.w), p.r.standing(); got != want {
		t.Fatalf("behind %.40q: %v, want %v", call, got, want)
	}
}

// P14.1 to P14.4: each short row of calls.
func TestEachShortRow(t *testing.T) {
	calls := map[byte]string{'0': "feed ", '1': "feed a", '2': "feed bc", '.': "end", 'g': "get", '?': "eof", 'p': "put x"}
	for _, row := range testkit.Words("012.g?p", 6) {
		if len(row) < 6 {
			continue // it is ahead of a longer one
		}
		p := newPair()
		for i := range len(row) {
			p.check(t, calls[row[i]])
		}
	}
}

// callByChance feeds at most so many bytes; where that are none it may also be the mark.
func callByChance(chance *rand.Rand, most int) string {
	switch k := chance.Intn(40); {
	case k < 12:
		b := make([]byte, chance.Intn(most+1))
		chance.Read(b)
		return "feed " + string(b)
	case k < 30:
		return "get"
	case k < 34:
		return "eof"
	case k < 39 || most > 0:
		return "put " + string([]byte{byte(chance.Intn(256))})
	}
	return "end"
}

// P14.1 to P14.4: long rows of calls by chance, in which how much is fed changes as they go on.
func TestMade(t *testing.T) {
	chance := seeded(14)
	answers := map[string]int{}
	for range 1000 {
		p := newPair()
		for range chance.Intn(20) {
			most := []int{0, 1, 2, 5, 30, 200}[chance.Intn(6)]
			for range 20 {
				answers[p.check(t, callByChance(chance, most))]++
			}
		}
	}
	for _, answer := range []string{"OK", "ErrOver", "byte", "end", "need"} {
		if answers[answer] < 500 {
			t.Errorf("%s came %d times", answer, answers[answer])
		}
	}
}

// chunked parts bytes into chunks by chance, some of them empty.
func chunked(chance *rand.Rand, all []byte) [][]byte {
	var l [][]byte
	for most := 1 + chance.Intn(300); len(all) > 0; {
		n := min(chance.Intn(most+1), len(all))
		l = append(l, all[:n])
		all = all[n:]
	}
	return l
}

// P14.4: what is read is what was fed, in order, whatever the chunks, and whenever it is read.
func TestWhateverTheChunks(t *testing.T) {
	chance := seeded(144)
	for range 500 {
		all := make([]byte, chance.Intn(3000))
		chance.Read(all)
		w := world.New()
		used, fed := 0, 0
		for _, b := range chunked(chance, all) {
			checkErrno(t, "Feed", w.Feed(b), api.OK)
			fed += len(b)
			reads := 0
			if chance.Intn(3) == 0 {
				reads = chance.Intn(fed - used + 1)
			}
			checkRead(t, w, all[used:used+reads])
			used += reads
			checkStands(t, "between chunks", w, standing{used: used, left: fed - used})
		}
		checkErrno(t, "End", w.End(), api.OK)
		checkRead(t, w, all[used:])
		checkOverForEver(t, w, standing{used: len(all), ended: true})
	}
}

// checkOverForEver asks a world whose end was found, whatever else is done to it.
func checkOverForEver(t *testing.T, w *world.World, want standing) {
	t.Helper()
	for i := range 8 {
		checkEmpty(t, w, "end")
		checkErrno(t, "Feed at the end", w.Feed([]byte("more")), api.ErrOver)
		checkErrno(t, "End at the end", w.End(), api.ErrOver)
		checkErrno(t, "Put at the end", w.Put(byte(i)), api.OK)
		want.out += string([]byte{byte(i)})
		checkStands(t, "at the end", w, want)
	}
}

// P14.1 to P14.3: worlds share nothing: what is done to one is not to be seen in others.
func TestWorldsShareNothing(t *testing.T) {
	chance := seeded(145)
	for range 50 {
		pairs := []*pair{newPair(), newPair(), newPair()}
		for range 300 {
			call := callByChance(chance, 1+chance.Intn(20))
			pairs[chance.Intn(len(pairs))].check(t, call)
			for _, p := range pairs {
				p.checkStands(t, call)
			}
		}
		pairs[0].check(t, "end")
		for _, p := range pairs[1:] {
			p.checkStands(t, "end of another")
			p.check(t, "get")
			p.check(t, "feed more")
		}
	}
}
