package parse_test

import (
	"testing"

	"thunkmill/api"
	"thunkmill/parse"
	"thunkmill/testkit"
)

// TestPlaces: a thing's place is its first token's, an NdWhere's its block's brace's (P6.1).
func TestPlaces(t *testing.T) {
	for text, want := range map[string]string{
		"":                   "Program@0",
		"  \n ":              "Program@4",
		" {}":                "Program@1",
		" -- a\n;":           "Program@6",
		"  x = 1":            "Program@2(Bind@2(PVar:x@2, Rhs@4(Int:1@6)))",
		"{ x = 1 }":          "Program@0(Bind@2(PVar:x@2, Rhs@4(Int:1@6)))",
		";; x = 1":           "Program@0(Bind@3(PVar:x@3, Rhs@5(Int:1@7)))",
		" x=y\n z=w":         "Program@1(Bind@1(PVar:x@1, Rhs@2(Var:y@3)), Bind@6(PVar:z@6, Rhs@7(Var:w@8)))",
		"f x (y) = g x":      "Program@0(Eqn:f@0(PVar:x@2, PVar:y@5, Rhs@8(App@10(Var:g@10, Var:x@12))))",
		"(+) x = 1":          "Program@0(Eqn:+@0(PVar:x@4, Rhs@6(Int:1@8)))",
		"(x) + y = 1":        "Program@0(Eqn:+@0(PVar:x@1, PVar:y@6, Rhs@8(Int:1@10)))",
		"(x + y) z = 1":      "Program@0(Eqn:+@0(PVar:x@1, PVar:y@5, PVar:z@8, Rhs@10(Int:1@12)))",
		"x `f` y = 1":        "Program@0(Eqn:f@0(PVar:x@0, PVar:y@6, Rhs@8(Int:1@10)))",
		"(x) = 1":            "Program@0(Bind@0(PVar:x@1, Rhs@4(Int:1@6)))",
		"((C x)) = 1":        "Program@0(Bind@0(PCon:C@2(PVar:x@4), Rhs@8(Int:1@10)))",
		"(x) : y = 1":        "Program@0(Bind@0(POps@0(PVar:x@1, Op::@4, PVar:y@6), Rhs@8(Int:1@10)))",
		"(:) x y = 1":        "Program@0(Bind@0(PCon::@0(PVar:x@4, PVar:y@6), Rhs@8(Int:1@10)))",
		"x @ (y) = 1":        "Program@0(Bind@0(PAs:x@0(PVar:y@5), Rhs@8(Int:1@10)))",
		"~ (y, 'a') = 1":     "Program@0(Bind@0(PLazy@0(PTuple@2(PVar:y@3, PChar:97@6)), Rhs@11(Int:1@13)))",
		"[x, _] | a = b":     `Program@0(Bind@0(PList@0(PVar:x@1, PAny@4), Rhs@7(Guard@7(Var:a@9, Var:b@13))))`,
		"() | a = 1 | b = 2": "Program@0(Bind@0(PCon:Unit@0, Rhs@3(Guard@3(Var:a@5, Int:1@9), Guard@11(Var:b@13, Int:2@17))))",
		`"a" = "b"`:          `Program@0(Bind@0(PString:"a"@0, Rhs@4(String:"b"@6)))`,
		"1 = '1'":            `Program@0(Bind@0(PInt:1@0, Rhs@2(Char:49@4)))`,

		"data T = C a | D":  "Program@0(Data:T@0(ConDef:C:1@9, ConDef:D:0@15))",
		" infix 5 +, ` f `": "Program@1(Fixity:infix:5@1(Op:+@9, Op:f@12))",

		"x = y where":                  "Program@0(Bind@0(PVar:x@0, Rhs@2(Var:y@4, Where@11)))",
		"x = y where \nz = 1":          "Program@0(Bind@0(PVar:x@0, Rhs@2(Var:y@4, Where@13)), Bind@13(PVar:z@13, Rhs@15(Int:1@17)))",
		"x = y where\n z = 1":          "Program@0(Bind@0(PVar:x@0, Rhs@2(Var:y@4, Where@13(Bind@13(PVar:z@13, Rhs@15(Int:1@17))))))",
		"x = y where { z = 1 }":        "Program@0(Bind@0(PVar:x@0, Rhs@2(Var:y@4, Where@12(Bind@14(PVar:z@14, Rhs@16(Int:1@18))))))",
		"x | a = y where ; z = 1":      "Program@0(Bind@0(PVar:x@0, Rhs@2(Guard@2(Var:a@4, Var:y@8), Where@16(Bind@18(PVar:z@18, Rhs@20(Int:1@22))))))",
		"x = let y = 1 in y":           "Program@0(Bind@0(PVar:x@0, Rhs@2(Let@4(Where@8(Bind@8(PVar:y@8, Rhs@10(Int:1@12))), Var:y@17))))",
		"x = let in y":                 "Program@0(Bind@0(PVar:x@0, Rhs@2(Let@4(Where@8, Var:y@11))))",
		"x = let { } in y":             "Program@0(Bind@0(PVar:x@0, Rhs@2(Let@4(Where@8, Var:y@15))))",
		"x = do let y = 1\n       y":   "Program@0(Bind@0(PVar:x@0, Rhs@2(Do@4(Lets@7(Where@11(Bind@11(PVar:y@11, Rhs@13(Int:1@15)))), Stmt@24(Var:y@24)))))",
		"x = do {(y) <- f z; (z) w}":   "Program@0(Bind@0(PVar:x@0, Rhs@2(Do@4(Gen@8(PVar:y@9, App@15(Var:f@15, Var:z@17)), Stmt@20(App@20(Paren@20(Var:z@21), Var:w@24))))))",
		"x = do { let { } in (y) }":    "Program@0(Bind@0(PVar:x@0, Rhs@2(Do@4(Stmt@9(Let@9(Where@13, Paren@20(Var:y@21)))))))",
		"x = case y of (z) -> w":       "Program@0(Bind@0(PVar:x@0, Rhs@2(Case@4(Var:y@9, Alt@14(PVar:z@15, Rhs@18(Var:w@21))))))",
		"x = case y of {z|a->b}":       "Program@0(Bind@0(PVar:x@0, Rhs@2(Case@4(Var:y@9, Alt@15(PVar:z@15, Rhs@16(Guard@16(Var:a@17, Var:b@20)))))))",
		`x = \ (y) _ -> y`:             "Program@0(Bind@0(PVar:x@0, Rhs@2(Lam@4(PVar:y@7, PAny@10, Var:y@15))))",
		"x = if a then b else c":       "Program@0(Bind@0(PVar:x@0, Rhs@2(If@4(Var:a@7, Var:b@14, Var:c@21))))",
		"x = - a * - (b)":              "Program@0(Bind@0(PVar:x@0, Rhs@2(Ops@4(Neg@4(Var:a@6), Op:*@8, Neg@10(Paren@12(Var:b@13))))))",
		"x = a `f` (g) h":              "Program@0(Bind@0(PVar:x@0, Rhs@2(Ops@4(Var:a@4, Op:f@6, App@10(Paren@10(Var:g@11), Var:h@14)))))",
		"x = (a, ()) (+) (`C`)":        "Program@0(Bind@0(PVar:x@0, Rhs@2(App@4(Tuple@4(Var:a@5, Con:Unit@8), Var:+@12, Con:C@16))))",
		"x = (- a) (b + c +) (`f` a)":  "Program@0(Bind@0(PVar:x@0, Rhs@2(App@4(Paren@4(Neg@5(Var:a@7)), Left:+@10(Ops@11(Var:b@11, Op:+@13, Var:c@15)), Right:f@20(Var:a@25)))))",
		"x = [[], [a|b, (c)<-d, let]]": "Program@0(Bind@0(PVar:x@0, Rhs@2(List@4(List@5, Comp@9(Var:a@10, Stmt@12(Var:b@12), Gen@15(PVar:c@16, Var:d@20), Lets@23(Where@26))))))",
	} {
		wantPlaced(t, text, want)
	}
}

// TestNewMemory: what is answered hangs on nothing that was answered ahead, and no two of its lists share memory.
func TestNewMemory(t *testing.T) {
	text := "infixl 5 + ; f (C x : (y)) ~z@_ = (a, [b], (c +), (+ d)) e\n(x + y) z | a = b | c = do { (x) <- y ; let { w = 1 } ; \\ x (y) -> x }\nx - y = case y of { (:) x y -> z ; C x y -> [x | (x, y) <- z, let { }] } where { (x : y) = 1 }\ng x = if a then let { } in - b else ()\n"
	expr := `\ x (C y) -> (a + b * c, [d | (x : y) <- e], do { x ; y }, (f x +))`
	for name, read := range map[string]reader{"Raw": parse.Raw, "Parse": parse.Parse, "Expr": parse.Expr} {
		s := text
		if name == "Expr" {
			s = expr
		}
		first, f := read(s)
		if f != (api.Fault{}) {
			t.Fatalf("%s of %q: %v", name, s, f)
		}
		want := placed(first)
		second, _ := read(s)
		seen := map[*api.Node]int{}
		testkit.Each(&first, func(n *api.Node) {
			l := n.Kids[:cap(n.Kids)]
			for i := range l {
				seen[&l[i]]++
			}
		})
		for p, times := range seen {
			if times > 1 {
				t.Errorf("%s: a list shares its memory with another: %s", name, placed(*p))
			}
		}
		testkit.Overwrite(&first)
		if got := placed(second); got != want {
			t.Errorf("%s: an answer changed with another one:\ngot  %s\nwant %s", name, got, want)
		}
		if third, _ := read(s); placed(third) != want {
			t.Errorf("%s: the same text is read otherwise", name)
		}
	}
}
