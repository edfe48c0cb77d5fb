/-
  Occurrences, counts and free names as mathematics (stage 16): dead: nowhere; once: at one place; what is free is not dead.
-/
import Derived.Test.YtjmpjfggbhongaaDoorP02
namespace Go.Proofs.YtjmpjfggbhongaaDoor
open Go.RowKit Go.Shelf Go.Maps
set_option linter.unusedVariables false

/-- What may be evaluated together. -/
def bothM (a b : Nat) : Nat := if a = 1 then b else if b = 1 then a else 5
/-- What stands in two alternatives. -/
def eitherM (a b : Nat) : Nat := if a = 1 ∨ b = 1 then bothM a b else if (a = 2 ∨ a = 3) ∧ (b = 2 ∨ b = 3) then 3 else 5
/-- What stands in a lambda. -/
def withinM (a : Nat) : Nat := if a = 2 ∨ a = 4 then 4 else if a = 1 then 1 else 5
def hidM {d : Nat} (t : Tr (d + 1)) (x : List UInt8) : Bool := (dl (bndM t)).contains x
def isV {d : Nat} (t : Tr (d + 1)) (x : List UInt8) : Bool := (TrN.kind t == 1) && (x == (TrN.name t).data.toList)
/-- The occurrence in all that an expression has, by that in its parts. -/
def inN {d : Nat} (f : Tr d → Nat) (t : Tr (d + 1)) (x : List UInt8) : Nat :=
  bothM (((TrN.args t).foldl (fun o e => bothM o (f e))
    ((TrN.binds t).foldl (fun o b => bothM o (f b.2)) (if isV t x then 2 else 1))))
    ((TrN.alts t).foldl (fun o a => if (dl a.1.vars).contains x then o else eitherM o (f a.2)) 1)
def ofM : (d : Nat) → Tr d → List UInt8 → Nat
  | 0, t, _ => nomatch t
  | d + 1, t, x => if hidM t x then 1 else if TrN.kind t = 5 then withinM (inN (fun e => ofM d e x) t x) else inN (fun e => ofM d e x) t x
/-- The occurrence in all that an expression has, whether it binds the name or not. -/
def inLetM : (d : Nat) → Tr d → List UInt8 → Nat
  | 0, t, _ => nomatch t
  | d + 1, t, x => inN (fun e => ofM d e x) t x
/-- At how many places a name stands. -/
def cntN : (d : Nat) → Tr d → List UInt8 → Nat
  | 0, t, _ => nomatch t
  | d + 1, t, x => if hidM t x then 0 else (if isV t x then 1 else 0) + ((TrN.binds t).map (fun b => cntN d b.2 x)).sum + ((TrN.args t).map (fun e => cntN d e x)).sum + ((TrN.alts t).map (fun a => if (dl a.1.vars).contains x then 0 else cntN d a.2 x)).sum
end Go.Proofs.YtjmpjfggbhongaaDoor
