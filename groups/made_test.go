package groups_test

import (
	"math/rand"
	"slices"
	"testing"

	"thunkmill/api"
	"thunkmill/groups"
)

func seeded(n int64) *rand.Rand { return rand.New(rand.NewSource(n)) }

// P11.1, P11.2: each way in which at most four names may use one another.
func TestEachOfFour(t *testing.T) {
	for n := range 5 {
		for bits := range 1 << (n * n) {
			d := numbered(n)
			for use := range n * n {
				if bits>>use&1 == 1 {
					d.use(use/n, use%n)
				}
			}
			checkReference(t, d)
		}
	}
}

// P11.1, P11.2: names and uses made by chance, few and many.
func TestMade(t *testing.T) {
	chance := seeded(11)
	several, single := 0, 0
	for range 6000 {
		d := made(chance, chance.Intn(14), chance.Intn(30))
		checkReference(t, d)
		l, _ := groups.Of(d.names, d.uses)
		for _, group := range l {
			if len(group) > 1 {
				several++
			} else {
				single++
			}
		}
	}
	for range 40 {
		n := 30 + chance.Intn(40)
		checkReference(t, made(chance, n, n/2+chance.Intn(2*n)))
	}
	if several < 2000 || single < 10000 {
		t.Errorf("%d groups of several names, %d of one", several, single)
	}
}

// made are names in an order by chance, with uses of any of them, and of others; some come several times.
func made(chance *rand.Rand, names, uses int) defs {
	d := numbered(names)
	chance.Shuffle(names, func(i, j int) { d.names[i], d.names[j] = d.names[j], d.names[i] })
	if names == 0 {
		return d
	}
	for range uses {
		d.use(chance.Intn(names), chance.Intn(names+2))
	}
	return d
}

// P11.1, P11.2: many groups whose names and uses are laid out ahead, so that they are known without being looked for.
func TestLaidOut(t *testing.T) {
	chance := seeded(112)
	for range 4 {
		l := layOut(chance, 2000)
		checkAll(t, "laid out", l.defs, l.inTurn())
	}
}

// layout is names with the group of each; a group uses those with lower numbers alone.
type layout struct {
	defs
	groups [][]int
	uses   []map[int]struct{} // of each group which others
}

// layOut makes groups of up to six names, at places by chance, each a ring.
func layOut(chance *rand.Rand, names int) layout {
	l := layout{defs: numbered(names)}
	places := chance.Perm(names)
	for len(places) > 0 {
		n := min(1+chance.Intn(6), len(places))
		group, number := places[:n], len(l.groups)
		places = places[n:]
		uses := map[int]struct{}{}
		for i, p := range group {
			if n > 1 {
				l.use(p, group[(i+1)%n])
			}
			if number > 0 && chance.Intn(3) > 0 {
				other := chance.Intn(number)
				uses[other] = struct{}{}
				l.use(p, l.groups[other][chance.Intn(len(l.groups[other]))])
			}
		}
		group = slices.Clone(group)
		slices.Sort(group)
		l.groups, l.uses = append(l.groups, group), append(l.uses, uses)
	}
	return l
}

// inTurn tells the groups in order, looking each time through all of them.
func (l layout) inTurn() [][]int {
	stands := make([]bool, len(l.groups))
	var all [][]int
	for range l.groups {
		next := -1
		for g, group := range l.groups {
			if !stands[g] && l.free(g, stands) && (next < 0 || group[0] < l.groups[next][0]) {
				next = g
			}
		}
		stands[next] = true
		all = append(all, l.groups[next])
	}
	return all
}

func (l layout) free(g int, stands []bool) bool {
	for other := range l.uses[g] {
		if !stands[other] {
			return false
		}
	}
	return true
}

// P11.1: what is wrong, by chance, with names and uses that were fine: ErrArg, whatever else they are.
func TestMadeWrong(t *testing.T) {
	chance := seeded(113)
	for range 2000 {
		d := made(chance, 2+chance.Intn(10), chance.Intn(20))
		n := len(d.names)
		switch chance.Intn(3) {
		case 0:
			i := chance.Intn(n)
			d.names[(i+1+chance.Intn(n-1))%n] = d.names[i]
		case 1:
			d.uses = d.uses[:chance.Intn(n)]
		case 2:
			d.uses = append(d.uses, make([][]string, 1+chance.Intn(3))...)
		}
		checkWrong(t, "made wrong", d, api.ErrArg)
	}
}
