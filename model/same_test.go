package model_test

import (
	"slices"
	"testing"

	"thunkmill/api"
	"thunkmill/model"
)

// base is an outcome none of whose fields is zero.
func base() api.Outcome {
	return api.Outcome{Kind: api.EndError, Code: 7, Text: "no match", Wrong: api.WrongCase, Out: []byte("abc"), Used: 4, Steps: 9}
}

// others are outcomes that differ from the base in one field that counts.
func others() map[string]api.Outcome {
	l := map[string]api.Outcome{}
	change := func(what string, with func(o *api.Outcome)) {
		o := base()
		with(&o)
		l[what] = o
	}
	change("kind", func(o *api.Outcome) { o.Kind = api.EndWrong })
	change("no kind", func(o *api.Outcome) { o.Kind = 0 })
	change("code", func(o *api.Outcome) { o.Code = 8 })
	change("no code", func(o *api.Outcome) { o.Code = 0 })
	change("code by a byte's worth", func(o *api.Outcome) { o.Code += 256 })
	change("text", func(o *api.Outcome) { o.Text = "no matcg" })
	change("longer text", func(o *api.Outcome) { o.Text = "no match " })
	change("no text", func(o *api.Outcome) { o.Text = "" })
	change("wrong", func(o *api.Outcome) { o.Wrong = api.WrongPrim })
	change("no wrong", func(o *api.Outcome) { o.Wrong = 0 })
	change("out", func(o *api.Outcome) { o.Out = []byte("abd") })
	change("first byte of out", func(o *api.Outcome) { o.Out = []byte("bbc") })
	change("longer out", func(o *api.Outcome) { o.Out = []byte("abcd") })
	change("shorter out", func(o *api.Outcome) { o.Out = []byte("ab") })
	change("no out", func(o *api.Outcome) { o.Out = nil })
	change("used", func(o *api.Outcome) { o.Used = 5 })
	change("none used", func(o *api.Outcome) { o.Used = 0 })
	return l
}

// P15.3: Same over outcomes that differ in each field alone; the steps count nothing.
func TestSame(t *testing.T) {
	if !model.Same(base(), base()) || !model.Same(api.Outcome{}, api.Outcome{}) {
		t.Errorf("an outcome is not the same as itself")
	}
	for what, o := range others() {
		if model.Same(base(), o) || model.Same(o, base()) {
			t.Errorf("Same of outcomes that differ in %s", what)
		}
		if !model.Same(o, o) {
			t.Errorf("%s: not the same as itself", what)
		}
	}
	for _, steps := range []int{0, 1, 8, 10, api.MaxFuel, -1} {
		o := base()
		o.Steps = steps
		if !model.Same(base(), o) || !model.Same(o, base()) {
			t.Errorf("not Same with %d steps", steps)
		}
	}
}

// Rule 6: nothing written is nothing written, nil or empty.
func TestSameOfNothingWritten(t *testing.T) {
	a, b := base(), base()
	a.Out, b.Out = nil, []byte{}
	if !model.Same(a, b) || !model.Same(b, a) || !model.Follows(a, b) || !model.Follows(b, a) {
		t.Errorf("nil and empty differ")
	}
	a.Kind, b.Kind = api.EndFuel, api.EndFuel
	if !model.Follows(a, b) || !model.Follows(b, a) || !model.Follows(a, base()) || !model.Follows(b, base()) {
		t.Errorf("without fuel nil and empty differ")
	}
}

// P15.3: an outcome follows another one that is the same; of EndFuel it is enough that its Out is a first part.
func TestFollows(t *testing.T) {
	for what, o := range others() {
		if model.Follows(base(), o) || model.Follows(o, base()) {
			t.Errorf("Follows of outcomes that differ in %s", what)
		}
		if !model.Follows(o, o) {
			t.Errorf("%s: does not follow itself", what)
		}
	}
	if !model.Follows(base(), base()) || !model.Follows(api.Outcome{}, api.Outcome{}) {
		t.Errorf("an outcome does not follow itself")
	}
	for out, follows := range map[string]bool{"": true, "a": true, "ab": true, "abc": true, "abcd": false, "b": false, "bc": false, "abd": false, "aba": false} {
		for what, o := range others() {
			short := api.Outcome{Kind: api.EndFuel, Out: []byte(out), Steps: 3}
			if string(o.Out) == "abc" && model.Follows(short, o) != follows {
				t.Errorf("without fuel, %q: Follows of %s is %v", out, what, !follows)
			}
			// The other fields of what ended for want of fuel count nothing, its Used neither.
			short = o
			short.Kind, short.Out = api.EndFuel, []byte(out)
			if model.Follows(short, base()) != follows {
				t.Errorf("without fuel, %q, %s: Follows is %v", out, what, !follows)
			}
			// Only the first one may have ended for want of fuel.
			if string(o.Out) == out && model.Follows(base(), short) {
				t.Errorf("%q, %s: what has ended follows what has not", out, what)
			}
		}
	}
}

// P15.3: of all kinds but EndFuel only what is the same follows.
func TestFollowsByKind(t *testing.T) {
	for kind := -1; kind < 12; kind++ {
		short, whole := base(), base()
		short.Kind, short.Out = kind, []byte("ab")
		if got := model.Follows(short, whole); got != (kind == api.EndFuel) {
			t.Errorf("kind %d with a first part: Follows is %v", kind, got)
		}
		whole.Kind, whole.Out = kind, short.Out
		whole.Steps = 77
		if !model.Follows(short, whole) {
			t.Errorf("kind %d: does not follow what is the same", kind)
		}
	}
}

// P15.3: Follows hands on, and what follows each other and has ended is the same.
func TestFollowsIsAnOrder(t *testing.T) {
	var l []api.Outcome
	for _, kind := range []int{api.EndExit, api.EndFuel, api.EndNeed} {
		for _, out := range []string{"", "a", "ab", "b"} {
			for used := range 2 {
				l = append(l, api.Outcome{Kind: kind, Out: []byte(out), Used: used})
			}
		}
	}
	for _, a := range l {
		for _, b := range l {
			if model.Follows(a, b) && model.Follows(b, a) && !model.Same(a, b) && a.Kind != api.EndFuel {
				t.Errorf("%s and %s follow each other", told(a), told(b))
			}
			for _, c := range l {
				if model.Follows(a, b) && model.Follows(b, c) && !model.Follows(a, c) {
					t.Errorf("%s, %s, %s: the last does not follow the first", told(a), told(b), told(c))
				}
			}
		}
	}
}

// Rule 4: Same and Follows leave what they are handed as it was.
func TestOutcomesAreLeft(t *testing.T) {
	room := []byte("abc!!")
	a, b := base(), base()
	a.Out, b.Out = room[:3], room[:2]
	for range 2 {
		a.Kind = api.EndFuel
		model.Same(a, b)
		model.Follows(a, b)
		model.Follows(b, a)
		if !slices.Equal(room, []byte("abc!!")) || len(a.Out) != 3 || len(b.Out) != 2 {
			t.Errorf("an outcome is changed: %q", room)
		}
	}
	if !model.Follows(api.Outcome{Kind: api.EndFuel, Out: room[:2]}, api.Outcome{Out: room[:3]}) || model.Follows(api.Outcome{Kind: api.EndFuel, Out: room[:3]}, api.Outcome{Out: room[:2]}) {
		t.Errorf("spare room counts")
	}
}
