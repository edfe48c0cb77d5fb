package model_test

import (
	"bytes"
	"fmt"
	"testing"

	"thunkmill/api"
	"thunkmill/core"
	"thunkmill/model"
)

// fuels are some amounts of fuel around what a run takes, and others.
func (m *maker) fuels(steps int) []int {
	l := []int{0, 1, 2, steps, steps + 1, m.Intn(steps + 2), m.Intn(steps + 2), m.Intn(3000)}
	if steps > 0 {
		l = append(l, steps-1)
	}
	return l
}

// seen counts how often runs ended by each kind.
type seen map[string]int

func (s seen) add(o api.Outcome) {
	s[fmt.Sprint(o.Kind, " ", o.Wrong)]++
}

func (s seen) check(t *testing.T, least int, kinds ...string) {
	t.Helper()
	for _, kind := range kinds {
		if s[kind] < least {
			t.Errorf("outcomes of kind %s: %d only, of %v", kind, s[kind], s)
		}
	}
}

// P15.1, P15.4: programs by chance do what the reference does, step by step, whatever the fuel; with more fuel the outcome follows.
func TestMadePrograms(t *testing.T) {
	m, s := seeded(1), seen{}
	for range 6000 {
		p := m.Program()
		input, ended := m.pick("", "a", "abc", "\x00\xff", "bbbb"), m.Intn(2) == 0
		whole := refRan(p, input, ended, 2000)
		s.add(whole)
		var last api.Outcome
		lastFuel := -1
		for _, fuel := range append(m.fuels(whole.Steps), 2000) {
			got, want := ran(t, p, input, ended, fuel), refRan(p, input, ended, fuel)
			if !same(got, want) {
				t.Fatalf("%s on %q, ended %v, fuel %d: %s, want %s", core.ProgText(p), input, ended, fuel, told(got), told(want))
			}
			if lastFuel >= 0 && (fuel >= lastFuel && !model.Follows(last, got) || fuel <= lastFuel && !model.Follows(got, last)) {
				t.Fatalf("%s: with fuel %d %s, with %d %s", core.ProgText(p), lastFuel, told(last), fuel, told(got))
			}
			last, lastFuel = got, fuel
		}
	}
	s.check(t, 10, "1 0", "2 0", "3 0", "4 1", "4 2", "4 3", "4 4", "5 0", "6 0")
}

// P15.1, P15.2: so do programs and expressions of whatever sort.
func TestMadeExpressions(t *testing.T) {
	m, s := seeded(2), seen{}
	for range 6000 {
		p, x := m.ByTable()
		e := x.Expr(1 + m.Intn(6))
		whole := refEvaluated(p, e, 500)
		s.add(whole)
		for _, fuel := range append(m.fuels(whole.Steps), 500) {
			if got, want := evaluated(t, p, e, fuel), refEvaluated(p, e, fuel); !same(got, want) {
				t.Fatalf("%s in %s, fuel %d: %s, want %s", core.Text(e), core.ProgText(p), fuel, told(got), told(want))
			}
		}
		acts := refRan(p, "a", false, 500)
		s.add(acts)
		for _, fuel := range m.fuels(acts.Steps) {
			if got, want := ran(t, p, "a", false, fuel), refRan(p, "a", false, fuel); !same(got, want) {
				t.Fatalf("%s, fuel %d: %s, want %s", core.ProgText(p), fuel, told(got), told(want))
			}
		}
	}
	s.check(t, 20, "1 0", "2 0", "4 1", "4 2", "4 3", "4 4", "5 0", "8 0")
}

// P15.2: of each sort that a maker makes, in the scope of a program.
func TestMadeValues(t *testing.T) {
	m, s := seeded(3), map[string]int{}
	for range 6000 {
		p := m.Program()
		e := m.Expr(m.anySort(), 1+m.Intn(6))
		want := refEvaluated(p, e, 1000)
		if want.Kind == api.EndValue {
			s[want.Text]++
		}
		for _, fuel := range append(m.fuels(want.Steps), 1000) {
			if got, want := evaluated(t, p, e, fuel), refEvaluated(p, e, fuel); !same(got, want) {
				t.Fatalf("%s in %s, fuel %d: %s, want %s", core.Text(e), core.ProgText(p), fuel, told(got), told(want))
			}
		}
	}
	for _, text := range []string{"0", "-1", "'97'", "True", "False", "Nil", "Cons", "fun", "action"} {
		if s[text] < 20 {
			t.Errorf("values %s: %d only", text, s[text])
		}
	}
}

// goesOn tells whether an outcome is as it must be behind that of the same run, without a mark, with less input, or without the mark.
func goesOn(first, then api.Outcome, more bool) bool {
	still := same(first, then)
	if first.Kind != api.EndNeed {
		return still
	}
	return still != more && bytes.HasPrefix(then.Out, first.Out) && then.Used >= first.Used && then.Steps >= first.Steps
}

// P15.5: with more input behind, or a mark, a run that ended otherwise than by EndNeed ends the same; one that ended by EndNeed goes on.
func TestMoreInput(t *testing.T) {
	m, needs := seeded(4), 0
	for range 5000 {
		p := m.Program()
		input := m.pick("", "a", "ab", "cab")
		first := ran(t, p, input, false, 1500)
		if first.Kind == api.EndNeed {
			needs++
		}
		for _, behind := range []string{"", "a", "\x00", "bcd"} {
			for _, ended := range []bool{false, true} {
				then := ran(t, p, input+behind, ended, 1500)
				if !goesOn(first, then, behind != "" || ended) {
					t.Fatalf("%s on %q: %s, on %q, ended %v: %s", core.ProgText(p), input, told(first), input+behind, ended, told(then))
				}
			}
		}
	}
	if needs < 100 || needs > 4000 {
		t.Errorf("%d of 5000 need input", needs)
	}
}

// P15.5: a run with a mark that did not find the end ends the same without it.
func TestMarkThatIsNotFound(t *testing.T) {
	p := prog("main = (#bind (#getc) (\\ c -> (case c of '120' -> (#exit 1); _ -> (#bind (#putc c) (\\ u -> main)))))")
	for input, want := range map[string]string{
		"x":    "exit 1 used 1 in 10",
		"xa":   "exit 1 used 1 in 10",
		"ax":   `exit 1 wrote "a" used 2 in 20`,
		"abx":  `exit 1 wrote "ab" used 3 in 30`,
		"axbx": `exit 1 wrote "a" used 2 in 20`,
	} {
		for _, ended := range []bool{false, true} {
			if got := ran(t, p, input, ended, 1000); told(got) != want {
				t.Errorf("%q, ended %v: %s, want %s", input, ended, told(got), want)
			}
		}
	}
	for input, want := range map[string][2]string{"": {"need", "error end of input"}, "a": {`need wrote "a" used 1`, `error end of input wrote "a" used 1`}} {
		for i, ended := range []bool{false, true} {
			got := ran(t, p, input, ended, 1000)
			got.Steps = 0
			if told(got) != want[i]+" in 0" {
				t.Errorf("%q, ended %v: %s, want %s", input, ended, told(got), want[i])
			}
		}
	}
}
