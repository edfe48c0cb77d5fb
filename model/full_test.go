package model

import (
	"testing"

	"thunkmill/api"
	"thunkmill/core"
	"thunkmill/testkit"
)

// writing is a program that writes without an end.
func writing() api.Prog {
	return api.Prog{Cons: core.Builtin(), Binds: []api.Bind{{Name: "main", E: testkit.Core("(#bind (#putc '97') (\\ x -> main))")}}}
}

// withFuel is what Run tells, of more fuel than it takes: each byte that is written takes a step, so that no run of MaxFuel steps fills what may be written.
func withFuel(p api.Prog, fuel int) api.Outcome {
	r := newRun(fuel)
	return r.outcome(func() {
		r.performAll(newFinder().program(&p).cell(mainOf(&p)))
	})
}

// Run: MaxOutput bytes are written, and one more is not: EndFull.
func TestFull(t *testing.T) {
	// The second byte is written in the ninth step, and each later one three steps on.
	last := 9 + 3*(api.MaxOutput-2)
	for fuel, want := range map[int]api.Outcome{
		last - 1: {Kind: api.EndFuel, Steps: last - 1},
		last:     {Kind: api.EndFuel, Steps: last},
		last + 2: {Kind: api.EndFuel, Steps: last + 2},
		last + 3: {Kind: api.EndFull, Steps: last + 3},
		last + 9: {Kind: api.EndFull, Steps: last + 3},
	} {
		got := withFuel(writing(), fuel)
		written := api.MaxOutput
		if fuel < last {
			written--
		}
		if len(got.Out) != written || got.Out[written-1] != 'a' {
			t.Errorf("fuel %d: %d bytes", fuel, len(got.Out))
		}
		if got.Kind != want.Kind || got.Steps != want.Steps || got.Code != 0 || got.Text != "" || got.Wrong != 0 || got.Used != 0 {
			t.Errorf("fuel %d: kind %d in %d", fuel, got.Kind, got.Steps)
		}
	}
}

// Run: a byte is written where just one more may be, and none where no more may be.
func TestJustFull(t *testing.T) {
	p := writing()
	p.Binds[0].E = testkit.Core("(#bind (#putc '98') (\\ u -> (#exit 4)))")
	for written, want := range map[int]api.Outcome{
		api.MaxOutput - 2: {Kind: api.EndExit, Code: 4, Steps: 9},
		api.MaxOutput - 1: {Kind: api.EndExit, Code: 4, Steps: 9},
		api.MaxOutput:     {Kind: api.EndFull, Steps: 5},
	} {
		r := newRun(100)
		for range written {
			r.world.Put('a')
		}
		got := r.outcome(func() { r.performAll(newFinder().program(&p).cell(0)) })
		if got.Kind != want.Kind || got.Code != want.Code || got.Steps != want.Steps || len(got.Out) != min(written+1, api.MaxOutput) {
			t.Errorf("behind %d bytes: kind %d, code %d, %d bytes in %d", written, got.Kind, got.Code, len(got.Out), got.Steps)
		}
	}
}

// A panic that is no ending is this package's own fault, and goes on: no outcome hides it.
func TestOtherPanics(t *testing.T) {
	for _, fault := range []any{"a text", failed("no match").Error(), 7} {
		func() {
			defer func() {
				if got := recover(); got != fault {
					t.Errorf("%v came as %v", fault, got)
				}
			}()
			newRun(1).outcome(func() { panic(fault) })
		}()
	}
}

// A frame of each level is found from each one within it, and it is a few leaps away.
func TestFarFrames(t *testing.T) {
	var f *frame
	var all []*frame
	for i := range 5000 {
		f = f.inner(nil)
		if f.level != i {
			t.Fatalf("level %d instead of %d", f.level, i)
		}
		all = append(all, f)
	}
	for from := 0; from < len(all); from += 1 + from/50 {
		for to := 0; to <= from; to += 1 + from/100 {
			if all[from].at(to) != all[to] {
				t.Fatalf("from %d to %d: level %d", from, to, all[from].at(to).level)
			}
		}
	}
	for _, f := range all {
		leaps := 0
		for f.level > 0 {
			f = f.far
			leaps++
		}
		if leaps > 30 {
			t.Fatalf("%d leaps", leaps)
		}
	}
}
