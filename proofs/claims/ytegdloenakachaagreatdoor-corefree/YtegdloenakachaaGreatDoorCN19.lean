/-
  A name that is not taken, by a contract.
-/
import Derived.Test.YtegdloenakachaaGreatDoorCN18
namespace Go.Proofs.YtegdloenakachaaGreatDoor
open Go.RowKit Go.Shelf Go.Maps
set_option linter.unusedVariables false

def nmL (n : Nat) : List UInt8 := (numB n).data.toList
theorem nmL_eq (n : Nat) : nmL n = 118 :: Lib.decDigits n := by unfold nmL numB; simp
def cnB (last : Nat) (x : List UInt8) : Bool := decide (last < dval x.tail)
theorem cn_num (last n : Nat) : cnB last (nmL n) = decide (last < n) := by unfold cnB; rw [nmL_eq, List.tail_cons, dval_dec]
def mes (L : List (List UInt8)) (last : Nat) : Nat := (L.filter (cnB last)).length
theorem mes_le (L : List (List UInt8)) (last : Nat) : mes L last ≤ L.length := List.length_filter_le _ _
theorem filter_lt {α : Type} {p q : α → Bool} : ∀ {l : List α} {x : α}, x ∈ l → p x = false → q x = true → (∀ y, p y = true → q y = true) → (l.filter p).length < (l.filter q).length
  | [], _, h, _, _, _ => by cases h
  | a :: r, x, h, hp, hq, hpq => by
    have hle : (r.filter p).length ≤ (r.filter q).length := by
      clear h
      induction r with
      | nil => exact Nat.le_refl _
      | cons a r ih =>
        rw [List.filter_cons, List.filter_cons]
        cases e : p a with
        | true => rw [hpq a e]; simpa using ih
        | false =>
          cases q a with
          | true => simp; omega
          | false => simpa using ih
    rcases List.mem_cons.1 h with rfl | h
    · rw [List.filter_cons, List.filter_cons, hp, hq]
      simp; omega
    · have h9 := filter_lt h hp hq hpq
      rw [List.filter_cons, List.filter_cons]
      cases e : p a with
      | true => rw [hpq a e]; simpa using h9
      | false =>
        cases q a with
        | true => simp; omega
        | false => simpa using h9
theorem mes_lt {L : List (List UInt8)} {last : Nat} (h : nmL (last + 1) ∈ L) : mes L (last + 1) < mes L last :=
  filter_lt h (by rw [cn_num]; simp) (by rw [cn_num]; simp) (fun y hy => by unfold cnB at hy ⊢; simp at hy ⊢; omega)
def lastOf (W : World) (S : Nat) : Nat := match W.cell? ⟨S, 14, none⟩ with
  | some (.int _ n) => n.toNat
  | _ => 0
theorem lastOf_eq {W : World} {S last : Nat} (h : W.cell? ⟨S, 14, none⟩ = some (.int .i64 (last : Int))) : lastOf W S = last := by
  unfold lastOf; rw [h]; simp
/-- What unused gives. -/
def UnPost (P : SbP) (db : Nat) (b : Tr db) (F : List UInt8 → Bool) (L : List (List UInt8)) (c : Nat) (sc : Sc) (room : Int) (φ : List UInt8 → Nat) (cf last : Nat) (W : World) (r : Ending) (W' : World) : Prop := ∃ n : Nat, r = .returned (.int .i64 (n : Int)) ∧ last < n ∧ n ≤ last + L.length + 1 ∧ nmL n ∉ L ∧ SbSt W' P db b F L c sc room φ cf n ∧ SbCh P W W'
set_option maxRecDepth 100000 in
set_option maxHeartbeats 4000000 in
theorem unused_c (P : SbP) (db : Nat) (b : Tr db) (F : List UInt8 → Bool) (L : List (List UInt8)) (c : Nat) (sc : Sc) (room : Int) (φ : List UInt8 → Nat) (cf last : Nat) (w : World) (h : SbSt w P db b F L c sc room φ cf last) (hl : last + L.length + 1 ≤ 1000000000000000) :
    Calls Tryz.prog 141 #[.pointer (some ⟨P.S, 0, none⟩)] w fun r w' => UnPost P db b F L c sc room φ cf last w r w' := by
  have hdep : Tryz.prog.follows Departure.mixedOrders = true := by kernel_rfl
  have H0 : Hid (SbSt w P db b F L c sc room φ cf last ∧ last + L.length + 1 ≤ 1000000000000000) := ⟨h, hl⟩
  obtain ⟨S, hS⟩ : ∃ S, P.S = S := ⟨_, rfl⟩
  have HS : Hid (P.S = S) := hS
  rw [hS]
  clear h hl hS
  go_enter Tryz.func141, Tryz.ntmps141
  go_wp2
  go_loopw [4] (fun u wr => ∃ l : Nat, Hid (last ≤ l ∧ l + mes L l ≤ last + L.length ∧ SbSt wr P db b F L c sc room φ cf l ∧ SbCh P w wr)) (fun _ wr => mes L (lastOf wr S))
  case atStart => exact ⟨last, ⟨Nat.le_refl _, by have := mes_le L last; omega, H0.out.1, SbCh.refl _ _⟩⟩
  case round =>
    obtain ⟨l, HI⟩ := hrel
    obtain ⟨i1, i2, hst, i4⟩ := HI.out
    have lS := hst.lt
    rw [HS.out] at lS
    have x14 := hst.c14
    have y14 := hst.fz 14
    rw [HS.out] at x14 y14
    have hst2 := hst.setS 14 (.int .i64 ((l + 1 : Nat) : Int)) room (l + 1) (.inr ⟨rfl, rfl, rfl⟩)
    rw [HS.out] at hst2
    obtain ⟨V, hV⟩ : ∃ V, wr.setCell ⟨S, 14, none⟩ (.int .i64 ((l : Int) + 1)) = V := ⟨_, rfl⟩
    have e1 : ((l + 1 : Nat) : Int) = (l : Int) + 1 := by omega
    rw [e1, hV] at hst2
    have HV : Hid (SbSt V P db b F L c sc room φ cf (l + 1) ∧ SbCh P w V) := ⟨hst2, by
      have h9 := i4.trans (SbCh.set P wr 14 (.int .i64 ((l : Int) + 1)))
      rw [HS.out, hV] at h9
      exact h9⟩
    have HM : Hid (lastOf wr S = l) := lastOf_eq x14
    have HEV : Hid (wr.setCell ⟨S, 14, none⟩ (.int .i64 ((l : Int) + 1)) = V) := hV
    have hli : (l : Int) ≤ 1000000000000000 := by have := H0.out.2; omega
    clear hst hst2 i1 i2 i4 hV e1
    go_wp2
    rw [HEV.out]
    obtain ⟨hst, hch⟩ := HV.out
    have lV : S < V.heap.size := by have := hst.lt; rw [HS.out] at this; exact this
    have d12 : V.drew.cell? ⟨S, 12, none⟩ = some (.map (some P.tk)) := by have := hst.c12; rw [HS.out] at this; exact this
    have d14 : V.drew.cell? ⟨S, 14, none⟩ = some (.int .i64 ((l : Int) + 1)) := by have := hst.c14; rw [HS.out] at this; exact this
    have f12 : V.cell? ⟨S, 12, none⟩ = some (.map (some P.tk)) := d12
    have f14 : V.cell? ⟨S, 14, none⟩ = some (.int .i64 ((l : Int) + 1)) := d14
    obtain ⟨ct, htk⟩ := hst.tak
    obtain ⟨tB, htB⟩ : ∃ tB, decide (nmL (l + 1) ∈ L) = tB := ⟨_, rfl⟩
    have HtB : Hid (decide (nmL (l + 1) ∈ L) = tB) := htB
    have HLk : Hid (∀ W, Below V.heap.size V W → (Instr.lookup 65 (.map (some P.tk)) (.string (numB (l + 1))) true).run Tryz.prog W = .ok (.tuple #[.agg #[], .bool tB]) W) := fun W hW => by
      have h9 := (htk.same (hW.block _ htk.lt)).look (numB (l + 1)) (by
        have hl2 := Lib.itoa_length_le ((l + 1 : Nat) : Int) (by omega) (by omega)
        rw [Lib.itoa_nonneg] at hl2
        show ((118 : UInt8) :: Lib.decDigits (l + 1)).toArray.size ≤ _
        simp only [List.size_toArray, List.length_cons]
        unfold maxLen; omega)
      rw [show decide ((numB (l + 1)).data.toList ∈ L) = tB from htB] at h9
      exact h9
    have HNc : Hid (∀ W, Below V.heap.size V W → Calls Tryz.prog 142 #[.int .i64 ((l : Int) + 1)] W fun e w' => e = .returned (.string (numB (l + 1))) ∧ Below W.heap.size W w') := fun W hW => by
      have h9 := numbered_c (l + 1) (by omega) W (hst.gt.below hW)
      rw [show ((l + 1 : Nat) : Int) = (l : Int) + 1 by omega] at h9
      exact h9
    have HSV : Hid (∀ W w2, Below V.heap.size V W → Below W.heap.size W w2 → Below V.heap.size V w2 ∧ S < w2.heap.size ∧ w2.cell? ⟨S, 12, none⟩ = some (.map (some P.tk)) ∧ w2.cell? ⟨S, 14, none⟩ = some (.int .i64 ((l : Int) + 1))) := fun W w2 h1 h2 => by
      have h3 : Below V.heap.size V w2 := h1.trans (h2.mono h1.size)
      exact ⟨h3, Nat.lt_of_lt_of_le lV h3.size, (cell_of_block (h3.block S lV) _).trans d12, (cell_of_block (h3.block S lV) _).trans d14⟩
    have HLs : Hid (∀ X, Below V.heap.size V X → lastOf X S = l + 1) := fun X hX => lastOf_eq (by rw [cell_of_block (hX.block S lV) _, f14]; rw [show ((l + 1 : Nat) : Int) = (l : Int) + 1 by omega])
    obtain ⟨tkB, htkB⟩ : ∃ k, P.tk = k := ⟨_, rfl⟩
    rw [htkB] at d12 f12 HLk HSV
    clear hst hch htk htB htkB
    go_region_with (go_at_call 142; refine (HNc.out _ (by first | exact (Below.refl _ V).drew | exact ((Below.refl _ V).drew.alloc (Nat.le_refl _) _) | exact ((Below.refl _ V).alloc (Nat.le_refl _) _).drew)).mono ?_; rintro e w2 ⟨rfl, q2⟩; obtain ⟨p1, p2, p3, p4⟩ := HSV.out _ w2 (by first | exact (Below.refl _ V).drew | exact ((Below.refl _ V).drew.alloc (Nat.le_refl _) _) | exact ((Below.refl _ V).alloc (Nat.le_refl _) _).drew) q2; have HP : Hid (Below V.heap.size V w2) := p1; have k1 := HLk.out w2 p1; have k2 := HLk.out (w2.alloc (.cells #[] 63)) (p1.alloc p1.size _); clear q2 p1)
    all_goals
      cases tB with
      | false =>
        go_wp2
        go_ret
        refine ⟨l + 1, by first | rfl | simp, by have := HI.out.1; omega, by have := HI.out.2.1; have := mes_le L l; omega, of_decide_eq_false HtB.out, ?_, ?_⟩
        · exact HV.out.1.below (by first | exact HP.out | exact HP.out.alloc HP.out.size _)
        · exact HV.out.2.trans (SbCh.below (by first | exact HP.out | exact HP.out.alloc HP.out.size _))
      | true =>
        go_wp2
        go_roundw
        case rel =>
          have h9 := mes_lt (of_decide_eq_true HtB.out)
          refine ⟨l + 1, ⟨by have := HI.out.1; omega, by have := HI.out.2.1; omega, ?_, ?_⟩⟩
          · exact HV.out.1.below (by first | exact HP.out | exact HP.out.alloc HP.out.size _)
          · exact HV.out.2.trans (SbCh.below (by first | exact HP.out | exact HP.out.alloc HP.out.size _))
        case measure =>
          have h9 := mes_lt (of_decide_eq_true HtB.out)
          rw [HM.out]
          first | rw [HLs.out w2 HP.out] | rw [HLs.out (w2.alloc (.cells #[] 63)) (HP.out.alloc HP.out.size _)]
          exact h9
end Go.Proofs.YtegdloenakachaaGreatDoor
