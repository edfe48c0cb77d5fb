package model_test

import (
	"strings"
	"testing"

	"thunkmill/api"
	"thunkmill/core"
)

// doing is a program's main on an input, which has a mark, if a . stands behind it, and how it ends.
type doing struct {
	main, input, want string
}

// check runs each main beside some bindings: with all fuel, and with less and just enough of it.
func check(t *testing.T, l []doing, lines ...string) {
	t.Helper()
	for _, x := range l {
		p := prog(append(lines, "main = "+x.main)...)
		input, ended := strings.CutSuffix(x.input, ".")
		got := ran(t, p, input, ended, api.MaxFuel)
		if told(got) != x.want {
			t.Errorf("%s on %q: %s, want %s", x.main, x.input, told(got), x.want)
		}
		checkFuel(t, x.main, got, func(fuel int) api.Outcome { return ran(t, p, input, ended, fuel) })
	}
}

// Run: ret, putc, getc, eof, exit performed: a step for what is evaluated, a step for each action.
func TestActions(t *testing.T) {
	check(t, []doing{
		{"(#ret (Unit))", "", "exit in 2"},
		{"(#ret (1 2))", "", "exit in 2"},
		{"(#ret (#error (Nil)))", "", "exit in 2"},
		{"(#putc '97')", "", `exit wrote "a" in 3`},
		{"(#putc (#chr 255))", "", `exit wrote "\xff" in 4`},
		{"(#putc '0')", "", `exit wrote "\x00" in 3`},
		{"(#putc 97)", "", "wrong prim in 3"},
		{"(#putc (Nil))", "", "wrong prim in 3"},
		{"(#putc (\\ x -> x))", "", "wrong prim in 3"},
		{"(#putc (#putc '97'))", "", "wrong prim in 3"},
		{"(#putc (#chr 256))", "", "error chr out of range in 4"},
		{"(#putc (1 2))", "", "wrong apply in 4"},
		{"(#getc)", "a", "exit used 1 in 2"},
		{"(#getc)", "a.", "exit used 1 in 2"},
		{"(#getc)", "ab", "exit used 1 in 2"},
		{"(#getc)", "", "need in 2"},
		{"(#getc)", ".", "error end of input in 2"},
		{"(#eof)", "a", "exit in 2"},
		{"(#eof)", "a.", "exit in 2"},
		{"(#eof)", ".", "exit in 2"},
		{"(#eof)", "", "need in 2"},
		{"(#exit 3)", "", "exit 3 in 3"},
		{"(#exit (#add 1 2))", "", "exit 3 in 5"},
		{"(#exit '97')", "", "wrong prim in 3"},
		{"(#exit (Nil))", "", "wrong prim in 3"},
		{"(#exit (\\ x -> x))", "", "wrong prim in 3"},
		{"(#exit (#getc))", "a", "wrong prim in 3"},
		{"(#exit (#quot 1 0))", "", "error divide by zero in 5"},
		{"(#exit (1 2))", "", "wrong apply in 4"},
	})
}

// Run: exit's Code is a number's lowest byte.
func TestCodes(t *testing.T) {
	for n, want := range map[string]int{"0": 0, "1": 1, "127": 127, "128": 128, "255": 255, "256": 0, "257": 1, "511": 255, "512": 0, "-1": 255, "-2": 254, "-255": 1, "-256": 0, "-257": 255, "4294967298": 2, "9223372036854775807": 255, "-9223372036854775808": 0, "-9223372036854775805": 3} {
		got := ran(t, mainIs("(#exit "+n+")"), "", false, 3)
		if got.Kind != api.EndExit || got.Code != want || got.Steps != 3 {
			t.Errorf("exit %s: %s", n, told(got))
		}
	}
}

// Run: what comes of an action is used by bind.
func TestBind(t *testing.T) {
	check(t, []doing{
		// The bind evaluated, performed; the first part evaluated, performed; the function; its body; performed; what it asks for.
		{"(#bind (#ret 3) (\\ x -> (#exit x)))", "", "exit 3 in 8"},
		{"(#bind (#ret (1 2)) (\\ x -> (#exit 3)))", "", "exit 3 in 8"},
		{"(#bind (#getc) (\\ c -> (#putc c)))", "a", `exit wrote "a" used 1 in 7`},
		{"(#bind (#getc) (\\ c -> (#putc c)))", "", "need in 4"},
		{"(#bind (#getc) (\\ c -> (#putc c)))", ".", "error end of input in 4"},
		{"(#bind (#getc) (\\ c -> (#exit (#ord c))))", "\xff", "exit 255 used 1 in 9"},
		{"(#bind (#putc '97') (\\ u -> (case u of Unit -> (#exit 3))))", "", `exit 3 wrote "a" in 11`},
		{"(#bind (#eof) (\\ e -> (case e of True -> (#exit 1); False -> (#exit 2))))", "a", "exit 2 in 10"},
		{"(#bind (#eof) (\\ e -> (case e of True -> (#exit 1); False -> (#exit 2))))", "a.", "exit 2 in 10"},
		{"(#bind (#eof) (\\ e -> (case e of True -> (#exit 1); False -> (#exit 2))))", ".", "exit 1 in 10"},
		{"(#bind (#eof) (\\ e -> (case e of True -> (#exit 1); False -> (#exit 2))))", "", "need in 4"},
		// Bind within bind, on either side.
		{"(#bind (#bind (#ret 1) (\\ x -> (#ret (#add x 1)))) (\\ y -> (#exit (#add y 1))))", "", "exit 3 in 19"},
		{"(#bind (#ret 1) (\\ x -> (#bind (#ret (#add x 1)) (\\ y -> (#exit (#add x y))))))", "", "exit 3 in 19"},
		{"(#bind (#bind (#putc '97') (\\ x -> (#putc '98'))) (\\ y -> (#putc '99')))", "", `exit wrote "abc" in 15`},
		{"(#bind (#putc '97') (\\ x -> (#bind (#putc '98') (\\ y -> (#putc '99')))))", "", `exit wrote "abc" in 15`},
		{"(#bind (#bind (#getc) (\\ x -> (#bind (#getc) (\\ y -> (#ret (Pair x y)))))) (\\ p -> (case p of Pair a b -> (#bind (#putc b) (\\ u -> (#putc a))))))", "xyz", `exit wrote "yx" used 2 in 25`},
		// Exit ends all, whatever is still to be performed.
		{"(#bind (#exit 7) (\\ x -> (#putc '97')))", "", "exit 7 in 5"},
		{"(#bind (#bind (#exit 7) (\\ x -> (#putc '97'))) (1 2))", "", "exit 7 in 7"},
		{"(#bind (#bind (#ret 1) (\\ x -> (#exit 7))) (\\ y -> (#putc '97')))", "", "exit 7 in 10"},
		// What is no action, no function.
		{"(#bind 1 (\\ x -> (#ret x)))", "", "wrong action in 3"},
		{"(#bind (#ret 1) 2)", "", "wrong apply in 5"},
		{"(#bind (#ret 1) (\\ x -> x))", "", "wrong action in 7"},
		{"(#bind (#ret 1) (\\ x y -> (#ret x)))", "", "wrong action in 5"},
		{"(#bind (#ret 1) (#ret 2))", "", "wrong apply in 5"},
		{"(#bind (1 2) (\\ x -> (#ret x)))", "", "wrong apply in 4"},
		{"(#bind (#putc '97') (1 2))", "", `wrong apply wrote "a" in 7`},
		{"(#bind (#putc '97') (\\ x -> (#quot 1 0)))", "", `error divide by zero wrote "a" in 9`},
		{"(#bind (#putc '97') (\\ x -> (#error " + chars("no") + ")))", "", `error no wrote "a" in 12`},
		{"(#bind (#getc) (\\ c -> (case 1 of 2 -> (#ret c))))", "a", "error no match used 1 in 7"},
		{"(#bind (#getc) (\\ c -> (case c of 97 -> (#ret c))))", "a", "wrong case used 1 in 7"},
		{"(#bind (#getc) (\\ c -> loop))", "a", "loop used 1 in 7"},
		{"(#bind (#putc '97') (\\ x -> (#getc)))", "", `need wrote "a" in 8`},
		// Of a function with more parameters: with some of its arguments.
		{"(#bind (#ret 3) (add 4))", "", "exit 7 in 14"},
		// A function that has one parameter, of which what comes is a function, is no action.
		{"(#bind (#ret 3) add)", "", "wrong action in 5"},
	}, "add = (\\ x y -> (#exit (#add x y)))", "loop = loop")
}

// Run: what is no action ends the run as soon as it is to be performed: no step is taken for it, and no fuel is asked for.
func TestNoAction(t *testing.T) {
	check(t, []doing{
		{"7", "", "wrong action in 1"},
		{"(False)", "", "wrong action in 1"},
		{"(let x = 1 in (False))", "", "wrong action in 2"},
		{"(#bind 1 2)", "", "wrong action in 3"},
		{"(#bind (#ret 1) (\\ x -> 7))", "", "wrong action in 6"},
		{"(#bind (#putc '97') (\\ x -> 7))", "", `wrong action wrote "a" in 7`},
		{"(#bind (#bind 1 2) 3)", "", "wrong action in 5"},
		{"'97'", "", "wrong action in 1"},
		{"(Nil)", "", "wrong action in 1"},
		{"(Pair 1 2)", "", "wrong action in 1"},
		{"(\\ x -> (#ret x))", "", "wrong action in 1"},
		{"((\\ x y -> (#ret x)) 1)", "", "wrong action in 2"},
		{"(#add 1 2)", "", "wrong action in 3"},
		{"(#show 1)", "", "wrong action in 2"},
		{"(#quot 1 0)", "", "error divide by zero in 3"},
		{"main", "", "loop in 1"},
		{"(#seq main (#ret 1))", "", "loop in 2"},
	})
}

// Run: actions are values: one may be performed twice, and be an argument; its cells are evaluated once at most.
func TestActionsAreValues(t *testing.T) {
	check(t, []doing{
		// The second time neither the action nor its character is evaluated again.
		{"(let a = (#putc (#chr 97)) in (#bind a (\\ x -> a)))", "", `exit wrote "aa" in 10`},
		{"(let g = (#getc) in (#bind g (\\ x -> (#bind g (\\ y -> (#putc y))))))", "ab", `exit wrote "b" used 2 in 12`},
		{"(twice (#putc '97'))", "", `exit wrote "aa" in 11`},
		{"(twice (twice (#putc '97')))", "", `exit wrote "aaaa" in 21`},
		{"(#bind (#ret (#putc '97')) (\\ a -> a))", "", `exit wrote "a" in 9`},
		{"(#bind (#ret (#add 1 2)) (\\ n -> (#seq n (#exit (#add n n)))))", "", "exit 6 in 15"},
		{"(case (Pair (#putc '97') (#quot 1 0)) of Pair a b -> a)", "", `exit wrote "a" in 6`},
		{"(case (#getc) of a -> (#bind a (\\ c -> (#putc c))))", "b", `exit wrote "b" used 1 in 8`},
		{"(#seq (#putc '97') (#putc '98'))", "", `exit wrote "b" in 5`},
		{"(#seq (#exit 1) (#ret (#exit 2)))", "", "exit in 4"},
		{"(#bind (#ret main) (\\ m -> (#exit 4)))", "", "exit 4 in 8"},
	}, "twice = (\\ a -> (#bind a (\\ x -> a)))")
}

// Run: what is read is evaluated already; what ret holds is evaluated where it is asked for, once.
func TestWhatActionsComeTo(t *testing.T) {
	check(t, []doing{
		{"(#bind (#ret (#add 1 2)) (\\ x -> (#bind (#ret x) (\\ y -> (#exit (#add x y))))))", "", "exit 6 in 18"},
		{"(#bind (#getc) (\\ x -> (#bind (#getc) (\\ y -> (#exit (#sub (#ord x) (#ord y)))))))", "ca", "exit 2 used 2 in 17"},
		{"(#bind (#ret x) (\\ y -> (#exit y)))", "", "exit 9 in 10"},
	}, "x = (#add 4 5)")
}

// echo reads all, and writes it.
func echo() api.Prog {
	return prog("main = (#bind (#eof) (\\ e -> (case e of True -> (#ret (Unit)); False -> (#bind (#getc) (\\ c -> (#bind (#putc c) (\\ u -> main)))))))")
}

// Run: all bytes are read and written as they are, in order.
func TestBytes(t *testing.T) {
	var all strings.Builder
	for i := range 256 {
		all.WriteByte(byte(i))
		all.WriteByte(byte(255 - i))
	}
	for _, input := range []string{"", "a", "ab\n", all.String()} {
		got := ran(t, echo(), input, true, api.MaxFuel)
		if got.Kind != api.EndExit || got.Code != 0 || string(got.Out) != input || got.Used != len(input) {
			t.Errorf("%q: %s", input, told(got))
		}
		got = ran(t, echo(), input, false, api.MaxFuel)
		if got.Kind != api.EndNeed || string(got.Out) != input || got.Used != len(input) {
			t.Errorf("%q without a mark: %s", input, told(got))
		}
	}
}

// Run: main is found wherever it stands among the bindings, and is evaluated once.
func TestMainAmongOthers(t *testing.T) {
	for _, others := range [][]string{nil, {"a = (1 2)"}, {"z = (1 2)"}, {"a = (1 2)", "b = 1", "lain = 1", "maim = 2", "mai = 3", "main1 = 4", "n = (1 2)", "x = 5"}} {
		p := prog(append(others, "main = (#exit 5)")...)
		if got := told(ran(t, p, "", false, 100)); got != "exit 5 in 3" {
			t.Errorf("%s: %s", core.ProgText(p), got)
		}
	}
}
