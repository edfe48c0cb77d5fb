/-
  Plain mathematics of lexemes (no program): what a list of bytes begins with, and how a text is gone through.
-/
import Derived.Lib.Bytealg
import Derived.Lib.IndexBytes
namespace Go.Proofs.YtndpebkiiemfpaaGreatDoor.M
open Go.Lib

def symL : List UInt8 := [33, 35, 36, 37, 38, 42, 43, 46, 47, 60, 61, 62, 63, 64, 92, 94, 124, 45, 126, 58]
def markL : List UInt8 := [40, 41, 91, 93, 44, 59, 96, 123, 125]
def sym (b : UInt8) : Bool := symL.contains b
def blankB (b : UInt8) : Bool := decide (b.toNat = 32 ∨ b.toNat = 9 ∨ b.toNat = 10)
def smallB (b : UInt8) : Bool := decide (97 ≤ b.toNat ∧ b.toNat ≤ 122)
def capB (b : UInt8) : Bool := decide (65 ≤ b.toNat ∧ b.toNat ≤ 90)
def digB (b : UInt8) : Bool := decide (48 ≤ b.toNat ∧ b.toNat ≤ 57)
def hexB (b : UInt8) : Bool := decide ((48 ≤ b.toNat ∧ b.toNat ≤ 57) ∨ (97 ≤ b.toNat ∧ b.toNat ≤ 102) ∨ (65 ≤ b.toNat ∧ b.toNat ≤ 70))
def colonB (b : UInt8) : Bool := decide (b.toNat = 58)
def begName (b : UInt8) : Bool := decide ((97 ≤ b.toNat ∧ b.toNat ≤ 122) ∨ b.toNat = 95)
def inName (b : UInt8) : Bool := decide ((97 ≤ b.toNat ∧ b.toNat ≤ 122) ∨ b.toNat = 95 ∨ (65 ≤ b.toNat ∧ b.toNat ≤ 90) ∨ (48 ≤ b.toNat ∧ b.toNat ≤ 57) ∨ b.toNat = 39)
def begOp (b : UInt8) : Bool := sym b && !colonB b
def plainB (b : UInt8) : Bool := decide (32 ≤ b.toNat ∧ b.toNat ≤ 126)
def dashB (b : UInt8) : Bool := decide (b.toNat = 45)

/-- How many bytes of one sort a list begins with. -/
def cnt (p : UInt8 → Bool) : List UInt8 → Nat
  | [] => 0
  | b :: l => if p b = true then cnt p l + 1 else 0
def headed (p q : UInt8 → Bool) : List UInt8 → Nat
  | [] => 0
  | b :: l => if p b = true then cnt q l + 1 else 0
def hexv (b : UInt8) : Nat := if b.toNat ≤ 57 then b.toNat - 48 else if b.toNat ≤ 70 then b.toNat - 55 else b.toNat - 87
/-- What digits say to a base, from a number on. -/
def val (base : Nat) : Nat → List UInt8 → Nat
  | a, [] => a
  | a, b :: l => val base (a * base + hexv b) l
def dig (base : Nat) : UInt8 → Bool := if base = 16 then hexB else digB
def digs (base bits : Nat) (l : List UInt8) : Nat × Nat :=
  if cnt (dig base) l = 0 ∨ 2 ^ bits ≤ val base 0 (l.take (cnt (dig base) l)) then (0, 0) else (cnt (dig base) l, val base 0 (l.take (cnt (dig base) l)))
def up (k : Nat) (r : Nat × Nat) : Nat × Nat := if r.1 = 0 then (0, 0) else (r.1 + k, r.2)
def isHexed (l : List UInt8) : Bool := [48, 120].isPrefixOf l && decide (cnt hexB (l.drop 2) ≠ 0)
def number (l : List UInt8) : Nat × Nat := if isHexed l = true then up 2 (digs 16 63 (l.drop 2)) else digs 10 63 l
def escape : List UInt8 → Nat × Nat
  | [] => (0, 0)
  | b :: l =>
    if b.toNat = 110 then (1, 10) else if b.toNat = 116 then (1, 9)
    else if b.toNat = 92 ∨ b.toNat = 39 ∨ b.toNat = 34 then (1, b.toNat)
    else if b.toNat = 120 then up 1 (digs 16 8 l) else digs 10 8 (b :: l)
def character (q : UInt8) : List UInt8 → Nat × Nat
  | [] => (0, 0)
  | b :: l => if b = q ∨ plainB b = false then (0, 0) else if b.toNat = 92 then up 1 (escape l) else (1, b.toNat)
def noChar : List UInt8 → Nat
  | [] => 0
  | b :: l => if b.toNat = 92 then (if [38].isPrefixOf l then 2 else if cnt blankB l = 0 ∨ [92].isPrefixOf (l.drop (cnt blankB l)) = false then 0 else cnt blankB l + 2) else 0
/-- A string's characters, from behind its first quote on: how many bytes, the last quote among them; the characters. -/
def chs : Nat → List UInt8 → Option (Nat × List UInt8)
  | 0, _ => none
  | f + 1, l =>
    if [34].isPrefixOf l then some (1, [])
    else if 0 < noChar l then (chs f (l.drop (noChar l))).map fun r => (r.1 + noChar l, r.2)
    else if (character 34 l).1 = 0 then none
    else (chs f (l.drop (character 34 l).1)).map fun r => (r.1 + (character 34 l).1, UInt8.ofNat (character 34 l).2 :: r.2)
def chars (l : List UInt8) : Nat × List UInt8 :=
  if [34].isPrefixOf l then (match chs (l.length + 1) (l.drop 1) with | some r => (r.1 + 1, r.2) | none => (0, [])) else (0, [])
def takeChar (l : List UInt8) : Nat :=
  if [39].isPrefixOf l then (if (character 39 (l.drop 1)).1 = 0 ∨ [39].isPrefixOf (l.drop (1 + (character 39 (l.drop 1)).1)) = false then 0 else (character 39 (l.drop 1)).1 + 2) else 0
def takeMark : List UInt8 → Nat
  | [] => 0
  | b :: l => if [123, 45].isPrefixOf (b :: l) then 0 else if markL.contains b then 1 else 0
def passDashes (l : List UInt8) : Nat :=
  if cnt sym l < 2 ∨ (l.take (cnt sym l)).all dashB = false then 0 else cnt (fun b => decide (b.toNat ≠ 10)) l
/-- A remark in braces: how deep, how many bytes are behind us. -/
def nest : Nat → Nat → List UInt8 → Option Nat
  | d, n, b :: c :: l =>
    if b.toNat = 123 ∧ c.toNat = 45 then nest (d + 1) (n + 2) l
    else if b.toNat = 45 ∧ c.toNat = 125 then (if d = 1 then some (n + 2) else nest (d - 1) (n + 2) l)
    else nest d (n + 1) (c :: l)
  | _, _, _ => none
def passNested (l : List UInt8) : Nat := if [123, 45].isPrefixOf l then (nest 0 0 l).getD 0 else 0
def takers (l : List UInt8) : List Nat :=
  [headed begName inName l, headed capB inName l, headed begOp sym l, headed colonB sym l, (number l).1, takeChar l, (chars l).1, takeMark l]
def passers (l : List UInt8) : List Nat := [cnt blankB l, passDashes l, passNested l]
/-- The greatest of some numbers, and which it is (from i on; w and m so far). -/
def lg : Nat → Nat → Nat → List Nat → Nat × Nat
  | _, w, m, [] => (w, m)
  | i, w, m, n :: l => if m < n then lg (i + 1) i n l else lg (i + 1) w m l
def pass1 (l : List UInt8) : Nat := (lg 0 0 0 (passers l)).2
def lex1 (l : List UInt8) : Nat × Nat := lg 0 0 0 (takers l)
def idle : Nat → List UInt8 → Nat
  | 0, _ => 0
  | f + 1, l => if pass1 l = 0 then 0 else pass1 l + idle f (l.drop (pass1 l))
def idleAll (l : List UInt8) : Nat := idle (l.length + 1) l
def wordL : List (List UInt8) := [[99, 97, 115, 101], [100, 97, 116, 97], [100, 111], [101, 108, 115, 101], [105, 102], [105, 110], [105, 110, 102, 105, 120], [105, 110, 102, 105, 120, 108], [105, 110, 102, 105, 120, 114], [108, 101, 116], [111, 102], [116, 104, 101, 110], [119, 104, 101, 114, 101], [95]]
def signL : List (List UInt8) := [[46, 46], [61], [92], [124], [60, 45], [45, 62], [64], [126]]
/-- A token without its place: kind, text, number. -/
structure T0 where
  kind : Nat
  text : List UInt8
  num : Nat
deriving DecidableEq
def mkTok (k : Nat) (lx : List UInt8) : T0 :=
  if k = 5 then ⟨5, [], (number lx).2⟩
  else if k = 6 then ⟨6, [], (character 39 (lx.drop 1)).2⟩
  else if k = 7 then ⟨7, (chars lx).2, 0⟩
  else ⟨k, lx, 0⟩
def resv (t : T0) : T0 :=
  if t.kind = 1 ∧ wordL.contains t.text then { t with kind := 9 }
  else if t.kind = 3 ∧ signL.contains t.text then { t with kind := 10 }
  else t
structure Tk where
  t : T0
  pos : Nat
  line : Nat
  col : Nat
  first : Bool
deriving DecidableEq
/-- Line and column behind a byte. -/
def mv1 (p : Nat × Nat) (b : UInt8) : Nat × Nat :=
  if b.toNat = 10 then (p.1 + 1, 1) else if b.toNat = 9 then (p.1, p.2 + 8 - (p.2 - 1) % 8) else (p.1, p.2 + 1)
def mv (p : Nat × Nat) (l : List UInt8) : Nat × Nat := l.foldl mv1 p
/-- The tokens of what is left of a text, its place, line and column being told, and the last token's line; or the place of a fault. -/
def scan : Nat → Nat → Nat × Nat → Nat → List UInt8 → Sum Nat (List Tk)
  | 0, a, _, _, _ => .inl a
  | f + 1, a, p, last, l =>
    if (l.drop (idleAll l)).isEmpty then .inr []
    else if (lex1 (l.drop (idleAll l))).2 = 0 then .inl (a + idleAll l)
    else
      match scan f (a + idleAll l + (lex1 (l.drop (idleAll l))).2) (mv p (l.take (idleAll l + (lex1 (l.drop (idleAll l))).2))) (mv p (l.take (idleAll l))).1 (l.drop (idleAll l + (lex1 (l.drop (idleAll l))).2)) with
      | .inl e => .inl e
      | .inr ts => .inr (⟨resv (mkTok ((lex1 (l.drop (idleAll l))).1 + 1) ((l.drop (idleAll l)).take (lex1 (l.drop (idleAll l))).2)), a + idleAll l, (mv p (l.take (idleAll l))).1, (mv p (l.take (idleAll l))).2, decide ((mv p (l.take (idleAll l))).1 ≠ last)⟩ :: ts)
def scanAll (l : List UInt8) : Sum Nat (List Tk) := scan (l.length + 1) 0 (1, 1) 0 l

end Go.Proofs.YtndpebkiiemfpaaGreatDoor.M
