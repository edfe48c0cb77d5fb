package desugar_test

import "testing"

// P13.1: actions one behind another.
func TestDo(t *testing.T) {
	checkTexts(t, [][2]string{
		{"do { a }", "a"}, {"do { a ; b }", `(#bind a (\ x -> b))`}, {"do { a ; b ; c }", `(#bind a (\ x -> (#bind b (\ y -> c))))`}, {`\ bind -> do { a ; b }`, `(\ u -> (let no = failure in (let bind = u in (#bind a (\ x -> b)))))`},
		{"do { x <- a ; x }", `(#bind a (\ u -> (let no = failure in (let x = u in x))))`}, {"do { x <- x ; y <- x ; x y }", `(#bind x (\ u -> (let no = failure in (let x = u in (#bind x (\ u -> (let no = failure in (let y = u in (x y)))))))))`},
		{"do { (x, 1) <- a ; x }", `(#bind a (\ u -> (let no = failure in (case u of Tup2 p q -> (let x = p in (case q of 1 -> x; _ -> no)); _ -> no))))`}, {"do { ~(x, y) <- a ; b ; y }", `(#bind a (\ u -> (let no = failure in (let y = (case u of Tup2 p q -> (let r = p in (let s = q in s)); _ -> failure) in (#bind b (\ z -> y))))))`}, {"do { _ <- a ; b }", `(#bind a (\ u -> (let no = failure in b)))`},
		{"do { let { x = 1 } ; x }", "(let x = 1 in x)"}, {"do { let { } ; x }", "x"}, {"do { let { x = y ; y = 1 } ; a ; x }", `(let y = 1 in (let x = y in (#bind a (\ z -> x))))`}, {"do { x <- a ; let { y = x } ; y }", `(#bind a (\ u -> (let no = failure in (let x = u in (let y = x in y)))))`},
		{"do { a ; do { b ; c } }", `(#bind a (\ x -> (#bind b (\ y -> c))))`}, {"do { do { a ; b } ; c }", `(#bind (#bind a (\ x -> b)) (\ y -> c))`}, {"do { getc ; ret 1 }", `(#bind (#getc) (\ x -> (#ret 1)))`},
	})
}

// P13.1: lists of what comes: conditions.
func TestConditions(t *testing.T) {
	checkTexts(t, [][2]string{
		{"[ 1 | a ]", "(case a of True -> (Cons 1 (Nil)); False -> (Nil))"}, {"[ 1 | a, b ]", "(case a of True -> (case b of True -> (Cons 1 (Nil)); False -> (Nil)); False -> (Nil))"},
		{"[ x | let x = 1 ]", "(let x = 1 in (Cons x (Nil)))"}, {"[ x | let { x = y ; y = 1 }, y ]", "(let y = 1 in (let x = y in (case y of True -> (Cons x (Nil)); False -> (Nil))))"}, {"[ 1 | a, let x = b, x ]", "(case a of True -> (let x = b in (case x of True -> (Cons 1 (Nil)); False -> (Nil))); False -> (Nil))"}, {"[ 1 | let { } ]", "(Cons 1 (Nil))"},
		{"[ [ 1 | a ] | b ]", "(case b of True -> (Cons (case a of True -> (Cons 1 (Nil)); False -> (Nil)) (Nil)); False -> (Nil))"},
	})
}

// P13.1: and lists that they are drawn from. What comes behind is named, if it is neither a variable nor Nil.
func TestGenerators(t *testing.T) {
	checkTexts(t, [][2]string{
		{"[ 1 | _ <- l ]", `(let h = (\ us -> (case us of Nil -> (Nil); Cons u ws -> (let no = (let no = failure in (h ws)) in (Cons 1 (h ws))))) in (h l))`},
		{"[ x | (x, 1) <- f l ]", `(let h = (\ us -> (case us of Nil -> (Nil); Cons u ws -> (let no = (let no2 = failure in (h ws)) in (case u of Tup2 a b -> (let x = a in (case b of 1 -> (Cons x (h ws)); _ -> no)); _ -> no)))) in (h (f l)))`},
		{"[ x | x <- x ]", `(let h = (\ us -> (case us of Nil -> (Nil); Cons u ws -> (let no = (let no = failure in (h ws)) in (let x = u in (Cons x (h ws)))))) in (h x))`},
		{"[ x | a, x <- l ]", `(case a of True -> (let h = (\ us -> (case us of Nil -> (Nil); Cons u ws -> (let no = (let no = failure in (h ws)) in (let x = u in (Cons x (h ws)))))) in (h l)); False -> (Nil))`},
		{"[ x | x <- l, x ]", `(let h = (\ us -> (case us of Nil -> (Nil); Cons u ws -> (let no = (let no = failure in (h ws)) in (let x = u in (let y = (h ws) in (case x of True -> (Cons x y); False -> y)))))) in (h l))`},
		{"[ x | x <- l, x, y ]", `(let h = (\ us -> (case us of Nil -> (Nil); Cons u ws -> (let no = (let no = failure in (h ws)) in (let x = u in (let z = (h ws) in (case x of True -> (case y of True -> (Cons x z); False -> z); False -> z)))))) in (h l))`},
		{"[ x | x <- l, let y = x, y ]", `(let h = (\ us -> (case us of Nil -> (Nil); Cons u ws -> (let no = (let no = failure in (h ws)) in (let x = u in (let y = x in (let z = (h ws) in (case y of True -> (Cons x z); False -> z))))))) in (h l))`},
		{"[ x y | x <- l, y <- x ]", `(let h = (\ us -> (case us of Nil -> (Nil); Cons u ws -> (let no = (let no = failure in (h ws)) in (let x = u in (let t = (h ws); g = (\ us2 -> (case us2 of Nil -> t; Cons u2 ws2 -> (let no = (let no = failure in (g ws2)) in (let y = u2 in (Cons (x y) (g ws2)))))) in (g x)))))) in (h l))`},
		{"[ y | x <- l, a, y <- x ]", `(let h = (\ us -> (case us of Nil -> (Nil); Cons u ws -> (let no = (let no = failure in (h ws)) in (let x = u in (let t = (h ws) in (case a of True -> (let g = (\ us2 -> (case us2 of Nil -> t; Cons u2 ws2 -> (let no = (let no = failure in (g ws2)) in (let y = u2 in (Cons y (g ws2)))))) in (g x)); False -> t)))))) in (h l))`},
		{"[ x | ~(x, y) <- l ]", `(let h = (\ us -> (case us of Nil -> (Nil); Cons u ws -> (let no = (let no = failure in (h ws)) in (let x = (case u of Tup2 a b -> (let p = a in (let q = b in p)); _ -> failure) in (Cons x (h ws)))))) in (h l))`},
		{"[ 1 | ~(x, y) <- l ]", `(let h = (\ us -> (case us of Nil -> (Nil); Cons u ws -> (let no = (let no = failure in (h ws)) in (Cons 1 (h ws))))) in (h l))`},
		{"[ 1 | ~(x, y) <- l, y ]", `(let h = (\ us -> (case us of Nil -> (Nil); Cons u ws -> (let no = (let no = failure in (h ws)) in (let y = (case u of Tup2 a b -> (let p = a in (let q = b in q)); _ -> failure) in (let t = (h ws) in (case y of True -> (Cons 1 t); False -> t)))))) in (h l))`},
	})
}
