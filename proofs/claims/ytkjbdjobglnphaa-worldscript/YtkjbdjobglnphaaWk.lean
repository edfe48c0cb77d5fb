/-
  The law WorldChunks, walked.
-/
import Derived.Test.YtkjbdjobglnphaaWj
namespace Go.Proofs.Ytkjbdjobglnphaa
open Go.RowKit Go.Shelf Go.Maps Go.Conc
set_option linter.unusedVariables false

/-- Chunks that were handed in. -/
def BssAt (W : World) (o : Option Addr) (ll : List (List Int)) : Prop := ll = [] ∨ ∃ g off, o = some ⟨g, off, none⟩ ∧ g < W.heap.size ∧ ∀ j l, ll[j]? = some l → ∃ x, W.cell? ⟨g, off + j, none⟩ = some x ∧ BytV W x l
theorem BytV.below {W W' : World} {x : Value} {l : List Int} (h : BytV W x l) (hb : Below W.heap.size W W') : BytV W' x l := by
  obtain ⟨o, c, h1, h2, h3, h4⟩ := h
  exact ⟨o, c, h1, h2, h3, h4.oth (Oth.of_below (S := fun _ => False) hb) (fun _ _ _ e => e)⟩
theorem BssAt.at {W W' : World} {o : Option Addr} {ll : List (List Int)} (h : BssAt W o ll) (hb : Below W.heap.size W W') {j : Nat} {l : List Int} (hj : ll[j]? = some l) : ∃ g off ob c, o = some ⟨g, off, none⟩ ∧ g < W.heap.size ∧ W'.cell? ⟨g, off + j, none⟩ = some (.slice ob l.length c) ∧ (ob = none → l = [] ∧ c = 0) ∧ BytAt W ob l ∧ BytAt W' ob l := by
  rcases h with rfl | ⟨g, off, e, hg, h⟩
  · simp at hj
  · obtain ⟨x, h1, h2⟩ := h j l hj
    obtain ⟨ob, c, rfl, h3, h4, h5⟩ := h2
    exact ⟨g, off, ob, c, e, hg, (hb.cell (p := ⟨g, off + j, none⟩) hg).trans h1, h3, h5, h5.oth (Oth.of_below (S := fun _ => False) hb) (fun _ _ _ e => e)⟩
/-- A world P above w, and a row of bytes A of the law's own. -/
structure Ck (w W : World) (P : Nat) (u : List Int) (fed : Nat) (en : Bool) (A : List Int) (o : Option Addr) (m c : Nat) : Prop where
  fr : ∃ C cap, Fresh w W P C cap u fed en none 0 0
  len : A.length = m
  row : W.ownsRow w.heap.size 5 1 (.slice o m c) m (vals A)
section
variable {w W W' : World} {P : Nat} {u : List Int} {fed : Nat} {en : Bool} {A : List Int} {o : Option Addr} {m c : Nat}
theorem Ck.below (h : Ck w W P u fed en A o m c) : Below w.heap.size w W := by obtain ⟨C, cap, h1⟩ := h.fr; exact h1.below
theorem Ck.on (h : Ck w W P u fed en A o m c) (hb : Below W.heap.size W W') : Ck w W' P u fed en A o m c := by
  obtain ⟨C, cap, h1⟩ := h.fr
  exact ⟨⟨C, cap, h1.on hb⟩, h.len, owns_same h.row (fun g hg => hb.block g (h.row.lt g hg).2)⟩
theorem rowOth {b n : Nat} {v : Value} {xs : List Value} {C cap : Nat} {u' : List Int} {fed' : Nat} {en' : Bool} {o' : Option Addr} {n' c' : Nat} (h : W.ownsRow b 5 1 v n xs) (h1 : WdAt W P C cap u' fed' en' o' n' c') {S : Nat → Prop} (ho : Oth S W W') (hs : ∀ k, S k → k = P ∨ k = C) : W'.ownsRow b 5 1 v n xs := by
  refine owns_same h (fun g hg => ho.block g (h.lt g hg).2 (fun e => ?_))
  rcases hs g e with rfl | rfl
  · exact owns_ne_blk h h1.blk (by decide) hg
  · exact owns_ne_ch h h1.ch hg
theorem Ck.feed (h : Ck w W P u fed false A o m c) (ob : Option Addr) (l : List Int) (n cb : Nat) (hn : l.length = n) (hb0 : BytAt w ob l) (hb : BytAt W ob l) (hl : fed + l.length ≤ 1048576) : Calls Try.prog 9 #[.pointer (some ⟨P, 0, none⟩), .slice ob n cb] W fun r W' => r = .returned (.int .i64 0) ∧ Ck w W' P (u ++ l) (fed + l.length) false A o m c := by
  subst hn
  obtain ⟨C, cap, h1⟩ := h.fr
  refine (feed_ok ob l cb W h1.at_ hl hb (fun a ha hl2 e => ?_)).mono ?_
  · rcases hb0 with rfl | ⟨g, off, e2, hg, _⟩
    · exact hl2 rfl
    · rw [ha] at e2; cases e2; have := h1.hP; simp only at e; omega
  · rintro r W' ⟨rfl, h2⟩
    have h3 := h2
    obtain ⟨C2, cap2, h4, h5, h6⟩ := h2
    obtain ⟨C3, cap3, h7⟩ := h1.feeds h3
    exact ⟨rfl, ⟨C3, cap3, h7⟩, h.len, rowOth h.row h1.at_ h5 (fun k e => e)⟩
theorem Ck.get {x : Int} (h : Ck w W P (x :: u) fed en A o m c) : Calls Try.prog 10 #[.pointer (some ⟨P, 0, none⟩)] W fun r W' => r = .returned (.tuple #[.int .u8 x, .int .i64 1, .int .i64 0]) ∧ Ck w W' P u fed en A o m c := by
  obtain ⟨C, cap, h1⟩ := h.fr
  refine (get_some x W h1.at_).mono ?_
  rintro r W' ⟨rfl, h2, h3⟩
  exact ⟨rfl, ⟨C, cap, h1.got h2 h3⟩, h.len, rowOth h.row h1.at_ h3 (fun k e => .inr e)⟩
theorem Ck.getNone (h : Ck w W P [] fed en A o m c) : Calls Try.prog 10 #[.pointer (some ⟨P, 0, none⟩)] W fun r W' => r = .returned (.tuple #[.int .u8 0, .int .i64 (whatN 0 en), .int .i64 0]) ∧ Ck w W' P [] fed en A o m c := by
  obtain ⟨C, cap, h1⟩ := h.fr
  refine (get_none W h1.at_).mono ?_
  rintro r W' ⟨rfl, h2⟩
  exact ⟨rfl, h.on h2⟩
theorem Ck.ends (h : Ck w W P u fed false A o m c) : Calls Try.prog 11 #[.pointer (some ⟨P, 0, none⟩)] W fun r W' => r = .returned (.int .i64 0) ∧ Ck w W' P u fed true A o m c := by
  obtain ⟨C, cap, h1⟩ := h.fr
  refine (end_ok W h1.at_).mono ?_
  rintro r W' ⟨rfl, h2, h3⟩
  exact ⟨rfl, ⟨C, cap, h1.ends h2 h3⟩, h.len, rowOth h.row h1.at_ h3 (fun k e => .inl e)⟩
theorem Ck.used (h : Ck w W P u fed en A o m c) (d : Nat) (hd : fed - u.length = d) : Calls Try.prog 12 #[.pointer (some ⟨P, 0, none⟩)] W fun r W' => r = .returned (.int .i64 (d : Int)) ∧ Ck w W' P u fed en A o m c := by
  subst hd
  obtain ⟨C, cap, h1⟩ := h.fr
  refine (used_c W h1.at_).mono ?_
  rintro r W' ⟨rfl, h2⟩
  exact ⟨rfl, h.on h2⟩
theorem Ck.left (h : Ck w W P u fed en A o m c) (d : Nat) (hd : u.length = d) : Calls Try.prog 13 #[.pointer (some ⟨P, 0, none⟩)] W fun r W' => r = .returned (.int .i64 (d : Int)) ∧ Ck w W' P u fed en A o m c := by
  subst hd
  obtain ⟨C, cap, h1⟩ := h.fr
  refine (left_c W h1.at_).mono ?_
  rintro r W' ⟨rfl, h2⟩
  exact ⟨rfl, h.on h2⟩
theorem Ck.app (h : Ck w W P u fed en A o m c) {l : List Int} {o' : Option Addr} {c' : Nat} (h1 : W'.ownsRow w.heap.size 5 1 (.slice o' (m + l.length) c') (A ++ l).length (vals (A ++ l))) (h2 : Oth (fun k => Value.ownBlock (.slice o m c) = some k) W W') : Ck w W' P u fed en (A ++ l) o' (m + l.length) c' := by
  obtain ⟨C, cap, h3⟩ := h.fr
  refine ⟨⟨C, cap, ?_⟩, by rw [List.length_append, h.len], by have := h.len; rw [List.length_append, this] at h1; exact h1⟩
  refine ⟨h3.at_.at ?_ ?_, h3.below.trans (h2.below h3.below.size (fun j hj => (h.row.lt j hj).1)), h3.hP, h3.hC⟩
  · exact h2.block P h3.at_.blk.lt (fun e => owns_ne_blk h.row h3.at_.blk (by decide) e)
  · exact h2.block C h3.at_.ch.lt (fun e => owns_ne_ch h.row h3.at_.ch e)
theorem Ck.app' (h : Ck w W P u fed en A o m c) {l : List Int} {t : Nat} (ht : l.length = t) {o' : Option Addr} {c' : Nat} (h1 : W'.ownsRow w.heap.size 5 1 (.slice o' (m + t) c') (A ++ l).length (vals (A ++ l))) (h2 : Oth (fun k => Value.ownBlock (.slice o m c) = some k) W W') : Ck w W' P u fed en (A ++ l) o' (m + t) c' := by
  subst ht; exact h.app h1 h2
theorem Ck.cellAt (h : Ck w W P u fed en A o m c) {d : Nat} {x : Int} (hd : A[d]? = some x) : ∃ g, o = some ⟨g, 0, none⟩ ∧ g < W.heap.size ∧ W.cell? ⟨g, d, none⟩ = some (.int .u8 x) := by
  have h1 := h.row
  rw [← h.len] at h1
  obtain ⟨g, off, e, hg, h2⟩ := (owns_byt h1).at hd
  rcases h1 with ⟨_, ⟨h1, h3⟩ | ⟨g', cap, cur, h1, _⟩⟩
  · simp at h1; rw [h1.1] at e; cases e
  · cases h1; cases e; exact ⟨g, rfl, hg, by rw [Nat.zero_add] at h2; exact h2⟩
end
end Go.Proofs.Ytkjbdjobglnphaa
