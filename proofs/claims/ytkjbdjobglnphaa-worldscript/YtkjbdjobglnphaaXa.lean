/-
  WorldScript: both worlds as mathematics, and in memory.
-/
import Derived.Test.YtkjbdjobglnphaaWj
import Derived.Deep.OwnRows
namespace Go.Proofs.Ytkjbdjobglnphaa
open Go.RowKit Go.Shelf Go.Maps Go.Conc
set_option linter.unusedVariables false

/-- A world, as the document tells it. -/
structure St where
  inn : List Int
  rd : Nat
  en : Bool
  out : List Int
structure St.Ok (s : St) : Prop where
  rd : s.rd ≤ s.inn.length
  inn : s.inn.length ≤ 1048576
  out : s.out.length ≤ 1048576
def feedE (s : St) (n : Nat) : Int := if s.en then 11 else if s.inn.length + n ≤ 1048576 then 0 else 3
def feedS (s : St) (l : List Int) : St := if s.en then s else if s.inn.length + l.length ≤ 1048576 then { s with inn := s.inn ++ l } else s
theorem feedS_ok {s : St} (h : s.Ok) (l : List Int) : (feedS s l).Ok := by
  unfold feedS
  split
  · exact h
  · split
    · rename_i h1
      exact ⟨by show s.rd ≤ (s.inn ++ l).length; rw [List.length_append]; have := h.rd; omega, by show (s.inn ++ l).length ≤ _; rw [List.length_append]; exact h1, h.out⟩
    · exact h
def endE (s : St) : Int := if s.en then 11 else 0
def endS (s : St) : St := { s with en := true }
def eofN (s : St) : Int := whatN (s.inn.length - s.rd) s.en
def getB (s : St) : Int := (s.inn[s.rd]?).getD 0
def getS (s : St) : St := if s.rd < s.inn.length then { s with rd := s.rd + 1 } else s
theorem getS_ok {s : St} (h : s.Ok) : (getS s).Ok := by
  unfold getS
  split
  · rename_i h1; exact ⟨h1, h.inn, h.out⟩
  · exact h
def putE (s : St) : Int := if s.out.length = 1048576 then 3 else 0
def putS (s : St) (x : Int) : St := if s.out.length = 1048576 then s else { s with out := s.out ++ [x] }
theorem putS_ok {s : St} (h : s.Ok) (x : Int) : (putS s x).Ok := by
  unfold putS
  split
  · exact h
  · rename_i h1
    exact ⟨h.rd, h.inn, by show (s.out ++ [x]).length ≤ _; have := h.out; simp; omega⟩

/-- The program's world in memory, within the blocks F, above b. -/
def PSt (b : Nat) (W : World) (F : Nat → Prop) (P : Nat) (s : St) : Prop :=
  ∃ C cap o c, WdAt W P C cap (s.inn.drop s.rd) s.inn.length s.en o s.out.length c ∧ W.ownsRow b 5 1 (.slice o s.out.length c) s.out.length (vals s.out) ∧ F P ∧ F C ∧ (∀ k, Value.ownBlock (.slice o s.out.length c) = some k → F k)
/-- The document's. -/
def RSt (b : Nat) (W : World) (F : Nat → Prop) (R : Nat) (s : St) : Prop :=
  ∃ oi ci ow cw, Blk W R #[.slice oi s.inn.length ci, .int .i64 (s.rd : Int), .bool s.en, .slice ow s.out.length cw] 57 ∧ W.ownsRow b 5 1 (.slice oi s.inn.length ci) s.inn.length (vals s.inn) ∧ W.ownsRow b 5 1 (.slice ow s.out.length cw) s.out.length (vals s.out) ∧
    F R ∧ (∀ k, Value.ownBlock (.slice oi s.inn.length ci) = some k → F k) ∧ (∀ k, Value.ownBlock (.slice ow s.out.length cw) = some k → F k) ∧ (∀ k, Value.ownBlock (.slice ow s.out.length cw) = some k → Value.ownBlock (.slice oi s.inn.length ci) ≠ some k)
section
variable {b : Nat} {W W' : World} {F G : Nat → Prop} {P R : Nat} {s : St}
theorem PSt.keep (h : PSt b W F P s) (ho : Oth G W W') (hd : ∀ k, F k → ¬ G k) : PSt b W' F P s := by
  obtain ⟨C, cap, o, c, h1, h2, h3, h4, h5⟩ := h
  exact ⟨C, cap, o, c, h1.at (ho.block P h1.blk.lt (hd _ h3)) (ho.block C h1.ch.lt (hd _ h4)), owns_same h2 (fun g hg => ho.block g (h2.lt g hg).2 (hd _ (h5 g hg))), h3, h4, h5⟩
theorem RSt.keep (h : RSt b W F R s) (ho : Oth G W W') (hd : ∀ k, F k → ¬ G k) : RSt b W' F R s := by
  obtain ⟨oi, ci, ow, cw, h1, h2, h3, h4, h5, h6, h7⟩ := h
  exact ⟨oi, ci, ow, cw, h1.at (ho.block R h1.lt (hd _ h4)), owns_same h2 (fun g hg => ho.block g (h2.lt g hg).2 (hd _ (h5 g hg))), owns_same h3 (fun g hg => ho.block g (h3.lt g hg).2 (hd _ (h6 g hg))), h4, h5, h6, h7⟩
theorem PSt.mono (h : PSt b W F P s) (hd : ∀ k, F k → G k) : PSt b W G P s := by
  obtain ⟨C, cap, o, c, h1, h2, h3, h4, h5⟩ := h
  exact ⟨C, cap, o, c, h1, h2, hd _ h3, hd _ h4, fun k hk => hd _ (h5 k hk)⟩
theorem RSt.mono (h : RSt b W F R s) (hd : ∀ k, F k → G k) : RSt b W G R s := by
  obtain ⟨oi, ci, ow, cw, h1, h2, h3, h4, h5, h6, h7⟩ := h
  exact ⟨oi, ci, ow, cw, h1, h2, h3, hd _ h4, fun k hk => hd _ (h5 k hk), fun k hk => hd _ (h6 k hk), h7⟩
theorem PSt.below (h : PSt b W F P s) (hb : Below W.heap.size W W') : PSt b W' F P s := h.keep (G := fun _ => False) (Oth.of_below hb) (fun _ _ e => e)
theorem RSt.below (h : RSt b W F R s) (hb : Below W.heap.size W W') : RSt b W' F R s := h.keep (G := fun _ => False) (Oth.of_below hb) (fun _ _ e => e)
end
/-- The blocks F, and new ones. -/
def nw (F : Nat → Prop) (W : World) : Nat → Prop := fun k => F k ∨ W.heap.size ≤ k
/-- Both worlds, side by side, above w. -/
structure Sc (w W : World) (F G : Nat → Prop) (P R : Nat) (s : St) : Prop where
  p : PSt w.heap.size W F P s
  r : RSt w.heap.size W G R s
  dis : ∀ k, F k → ¬ G k
  fl : ∀ k, F k → w.heap.size ≤ k ∧ k < W.heap.size
  gl : ∀ k, G k → w.heap.size ≤ k ∧ k < W.heap.size
  below : Below w.heap.size w W
  ok : s.Ok
def cut (F : Nat → Prop) (W : World) : Nat → Prop := fun k => F k ∧ k < W.heap.size
section
variable {w W W' : World} {F G : Nat → Prop} {P R : Nat} {s : St}
theorem Sc.on (h : Sc w W F G P R s) (hb : Below W.heap.size W W') : Sc w W' F G P R s :=
  ⟨h.p.below hb, h.r.below hb, h.dis, fun k hk => ⟨(h.fl k hk).1, Nat.lt_of_lt_of_le (h.fl k hk).2 hb.size⟩, fun k hk => ⟨(h.gl k hk).1, Nat.lt_of_lt_of_le (h.gl k hk).2 hb.size⟩, h.below.trans (hb.mono h.below.size), h.ok⟩
/-- What may be written beside both. -/
theorem Sc.beside (h : Sc w W F G P R s) {H : Nat → Prop} (ho : Oth H W W') (h1 : ∀ k, F k → ¬ H k) (h2 : ∀ k, G k → ¬ H k) (h3 : ∀ k, H k → w.heap.size ≤ k) : Sc w W' F G P R s :=
  ⟨h.p.keep ho h1, h.r.keep ho h2, h.dis, fun k hk => ⟨(h.fl k hk).1, Nat.lt_of_lt_of_le (h.fl k hk).2 ho.size⟩, fun k hk => ⟨(h.gl k hk).1, Nat.lt_of_lt_of_le (h.gl k hk).2 ho.size⟩, h.below.trans (ho.below h.below.size h3), h.ok⟩
end
/-- A state between the program's call and the document's. -/
structure Sb (w W : World) (F G : Nat → Prop) (P R : Nat) (s t : St) : Prop where
  p : PSt w.heap.size W F P t
  r : RSt w.heap.size W G R s
  dis : ∀ k, F k → ¬ G k
  fl : ∀ k, F k → w.heap.size ≤ k ∧ k < W.heap.size
  gl : ∀ k, G k → w.heap.size ≤ k ∧ k < W.heap.size
  below : Below w.heap.size w W
  ok : s.Ok
  ok' : t.Ok
section
variable {b : Nat} {w W W' : World} {F G F' : Nat → Prop} {P R : Nat} {s t : St}
theorem PSt.cut (h : PSt b W F P s) : PSt b W (cut F W) P s := by
  obtain ⟨C, cap, o, c, h1, h2, h3, h4, h5⟩ := h
  exact ⟨C, cap, o, c, h1, h2, ⟨h3, h1.blk.lt⟩, ⟨h4, h1.ch.lt⟩, fun k hk => ⟨h5 k hk, (h2.lt k hk).2⟩⟩
theorem RSt.cut (h : RSt b W F R s) : RSt b W (cut F W) R s := by
  obtain ⟨oi, ci, ow, cw, h1, h2, h3, h4, h5, h6, h7⟩ := h
  exact ⟨oi, ci, ow, cw, h1, h2, h3, ⟨h4, h1.lt⟩, fun k hk => ⟨h5 k hk, (h2.lt k hk).2⟩, fun k hk => ⟨h6 k hk, (h3.lt k hk).2⟩, h7⟩
theorem Sc.mid (h : Sc w W F G P R s) (hp : PSt w.heap.size W' (nw F W) P t) (ho : Oth F W W') (ht : t.Ok) : ∃ F', Sb w W' F' G P R s t ∧ ∀ k, F' k → F k ∨ W.heap.size ≤ k := by
  refine ⟨cut (nw F W) W', ⟨hp.cut, h.r.keep ho (fun k hk e => h.dis k e hk), ?_, ?_, fun k hk => ⟨(h.gl k hk).1, Nat.lt_of_lt_of_le (h.gl k hk).2 ho.size⟩, h.below.trans (ho.below h.below.size (fun j hj => (h.fl j hj).1)), h.ok, ht⟩, fun k hk => hk.1⟩
  · rintro k ⟨h1 | h1, h2⟩ e
    · exact h.dis k h1 e
    · have := (h.gl k e).2; omega
  · rintro k ⟨h1 | h1, h2⟩
    · exact ⟨(h.fl k h1).1, h2⟩
    · have := h.below.size; exact ⟨by omega, h2⟩
theorem Sb.fin (h : Sb w W F G P R s t) (hr : RSt w.heap.size W' (nw G W) R t) (ho : Oth G W W') : ∃ G', Sc w W' F G' P R t := by
  refine ⟨cut (nw G W) W', ⟨h.p.keep ho h.dis, hr.cut, ?_, fun k hk => ⟨(h.fl k hk).1, Nat.lt_of_lt_of_le (h.fl k hk).2 ho.size⟩, ?_, h.below.trans (ho.below h.below.size (fun j hj => (h.gl j hj).1)), h.ok'⟩⟩
  · rintro k hk ⟨h1 | h1, h2⟩
    · exact h.dis k hk h1
    · have := (h.fl k hk).2; omega
  · rintro k ⟨h1 | h1, h2⟩
    · exact ⟨(h.gl k h1).1, h2⟩
    · have := h.below.size; exact ⟨by omega, h2⟩
theorem Sb.on (h : Sb w W F G P R s t) (hb : Below W.heap.size W W') : Sb w W' F G P R s t :=
  ⟨h.p.below hb, h.r.below hb, h.dis, fun k hk => ⟨(h.fl k hk).1, Nat.lt_of_lt_of_le (h.fl k hk).2 hb.size⟩, fun k hk => ⟨(h.gl k hk).1, Nat.lt_of_lt_of_le (h.gl k hk).2 hb.size⟩, h.below.trans (hb.mono h.below.size), h.ok, h.ok'⟩
theorem Sb.beside (h : Sb w W F G P R s t) {H : Nat → Prop} (ho : Oth H W W') (h1 : ∀ k, F k → ¬ H k) (h2 : ∀ k, G k → ¬ H k) (h3 : ∀ k, H k → w.heap.size ≤ k) : Sb w W' F G P R s t :=
  ⟨h.p.keep ho h1, h.r.keep ho h2, h.dis, fun k hk => ⟨(h.fl k hk).1, Nat.lt_of_lt_of_le (h.fl k hk).2 ho.size⟩, fun k hk => ⟨(h.gl k hk).1, Nat.lt_of_lt_of_le (h.gl k hk).2 ho.size⟩, h.below.trans (ho.below h.below.size h3), h.ok, h.ok'⟩
end
end Go.Proofs.Ytkjbdjobglnphaa
