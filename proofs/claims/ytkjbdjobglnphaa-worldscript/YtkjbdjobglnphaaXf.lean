/-
  WorldScript: the document's Feed and Put where they do something; all its calls over what is told of a world.
-/
import Derived.Test.YtkjbdjobglnphaaXe
namespace Go.Proofs.Ytkjbdjobglnphaa
open Go.RowKit Go.Shelf Go.Maps Go.Conc
set_option linter.unusedVariables false
theorem buildB (b : Nat) (w : World) (hb : b ≤ w.heap.size) : (w.alloc (.cells #[] 5)).ownsRow b 5 1 (.slice (some ⟨w.heap.size, 0, none⟩) 0 0) 0 (vals []) := World.ownsRow_lit w #[] 0 hb (by decide) rfl
theorem fed1 {w w3 : World} {b ni c3 : Nat} {o3 ob : Option Addr} {A l : List Int} (hA : A.length = ni) (h31 : w3.ownsRow b 5 1 (.slice o3 (0 + ni) c3) ([] ++ A).length (vals ([] ++ A))) (h32 : Oth (fun k => Value.ownBlock (.slice (some ⟨w.heap.size, 0, none⟩) 0 0) = some k) (w.alloc (.cells #[] 5)) w3)
    (h33 : Value.ownBlock (.slice o3 (0 + ni) c3) = Value.ownBlock (.slice (some ⟨w.heap.size, 0, none⟩) 0 0) ∨ Value.ownBlock (.slice o3 (0 + ni) c3) = some (w.alloc (.cells #[] 5)).heap.size) (hb : BytAt w ob l) : w3.ownsRow b 5 1 (.slice o3 ni c3) ni (vals A) ∧ Below w.heap.size w w3 ∧ (∀ k, Value.ownBlock (.slice o3 ni c3) = some k → w.heap.size ≤ k) ∧ BytAt w3 ob l := by
  have hB : Below w.heap.size w w3 := (below1 w _).trans (h32.below (by simp) (fun j hj => by cases hj; exact Nat.le_refl _))
  rw [Nat.zero_add] at h31 h33
  rw [List.nil_append, hA] at h31
  refine ⟨h31, hB, fun k hk => ?_, hb.oth (Oth.of_below (S := fun _ => False) hB) (fun _ _ _ e => e)⟩
  rcases h33 with h9 | h9
  · rw [h9] at hk; cases hk; exact Nat.le_refl _
  · rw [h9] at hk; cases hk; simp
/-- The document's world behind bytes that were fed. -/
def RFed (w W' : World) (b R ni rd : Nat) (ow : Option Addr) (nw' cw : Nat) (A : List Int) : Prop :=
  ∃ oi ci, RB W' R oi ni ci rd false ow nw' cw ∧ W'.ownsRow b 5 1 (.slice oi ni ci) ni (vals A) ∧ Oth (· = R) w W' ∧ ∀ k, Value.ownBlock (.slice oi ni ci) = some k → w.heap.size ≤ k
section
variable {R ni rd nw' : Nat} {en : Bool} {oi ow : Option Addr} {ci cw : Nat}
set_option maxRecDepth 100000 in
set_option maxHeartbeats 4000000 in
theorem rFeed_ok (b : Nat) (ob : Option Addr) (m cb : Nat) (A l : List Int) (w : World) (h : RB w R oi ni ci rd false ow nw' cw) (hA : A.length = ni) (hrow : w.ownsRow b 5 1 (.slice oi ni ci) ni (vals A)) (hb : b ≤ w.heap.size) (hl : l.length = m) (hob : ob = none → l = [] ∧ cb = 0) (hby : BytAt w ob l) (hlen : ni + m ≤ 1048576) :
    Calls Try.prog 27 #[.pointer (some ⟨R, 0, none⟩), .slice ob m cb] w fun r W' => r = .returned (.int .i64 0) ∧ RFed w W' b R (ni + m) rd ow nw' cw (A ++ l) := by
  obtain ⟨c0, c1, c2, c3, f0, f1, f2, f3⟩ := Blk.all4 h
  have hR := Blk.lt h
  have hw := wrapS ((ni : Int) + m) (by omega) (by omega)
  have hd : decide ((1048576 : Int) < (ni : Int) + (m : Int)) = false := by simp; omega
  have HW : Hid (RB w R oi ni ci rd false ow nw' cw ∧ A.length = ni ∧ w.ownsRow b 5 1 (.slice oi ni ci) ni (vals A) ∧ b ≤ w.heap.size ∧ l.length = m ∧ (ob = none → l = [] ∧ cb = 0) ∧ BytAt w ob l ∧ ni + m ≤ 1048576) := ⟨h, hA, hrow, hb, hl, hob, hby, hlen⟩
  have HX : Hid ((w.alloc (.cells #[] 5)).ownsRow b 5 1 (.slice (some ⟨w.heap.size, 0, none⟩) 0 0) 0 (vals []) ∧ BytAt (w.alloc (.cells #[] 5)) oi A ∧ (oi = none → A = [] ∧ ci = 0)) := by
    refine ⟨buildB b w hb, ?_, fun e => ?_⟩
    · subst hA
      exact (owns_byt hrow).oth (Oth.of_below (S := fun _ => False) (below1 w _)) (fun _ _ _ e => e)
    · have h9 := own_none hrow e
      exact ⟨List.length_eq_zero_iff.1 (by omega), h9.2⟩
  clear h hA hrow hb hl hob hby hlen
  go_enter Try.func27, Try.ntmps27
  go_wp2_with (at_builtin; first
    | (refine app_bytes rfl _ _ rfl b (.slice o3 ni c3) ni A HW.out.2.1 rfl H3.out.1 ob m cb l rfl HW.out.2.2.2.2.1 HW.out.2.2.2.2.2.1 H3.out.2.2.2 (by have := HW.out; omega) (by have := HW.out.2.2.2.1; have := H3.out.2.1.size; omega) ?_; intro o4 c4 w4 h41 h42 h43; have H4 : Hid (w4.ownsRow b 5 1 (.slice o4 (ni + m) c4) (A ++ l).length (vals (A ++ l)) ∧ Oth (fun k => Value.ownBlock (.slice o3 ni c3) = some k) w3 w4 ∧ (Value.ownBlock (.slice o4 (ni + m) c4) = Value.ownBlock (.slice o3 ni c3) ∨ Value.ownBlock (.slice o4 (ni + m) c4) = some w3.heap.size)) := ⟨h41, h42, h43⟩; have HB4 : Hid (RB w4 R oi ni ci rd false ow nw' cw) := Blk.at HB3.out (h42.block R (Blk.lt HB3.out) (fun e => by have := H3.out.2.2.1 R e; have := Blk.lt HW.out.1; omega)); have g0 := Blk.cell HB4.out 0 _ rfl; have e0 := Blk.frozen HB4.out 0; have hR4 := Blk.lt HB4.out; clear h41 h42 h43)
    | (refine app_bytes rfl _ _ rfl b (.slice (some ⟨w.heap.size, 0, none⟩) 0 0) 0 [] rfl rfl HX.out.1 oi ni ci A rfl HW.out.2.1 HX.out.2.2 HX.out.2.1 (by have := HW.out; omega) (by have := HW.out.2.2.2.1; simp; omega) ?_; intro o3 c3 w3 h31 h32 h33; have H3 : Hid (w3.ownsRow b 5 1 (.slice o3 ni c3) ni (vals A) ∧ Below w.heap.size w w3 ∧ (∀ k, Value.ownBlock (.slice o3 ni c3) = some k → w.heap.size ≤ k) ∧ BytAt w3 ob l) := fed1 HW.out.2.1 h31 h32 h33 HW.out.2.2.2.2.2.2.1; have HB3 : Hid (RB w3 R oi ni ci rd false ow nw' cw) := Blk.below HW.out.1 H3.out.2.1 (Blk.lt HW.out.1); clear h31 h32 h33))
  go_ret
  have h9 : (A ++ l).length = ni + m := by rw [List.length_append]; have := HW.out; omega
  have h1 := H4.out.1
  rw [h9] at h1
  have hk : ∀ k, Value.ownBlock (.slice o4 (ni + m) c4) = some k → w.heap.size ≤ k := by
    intro k hk
    rcases H4.out.2.2 with h8 | h8
    · exact H3.out.2.2.1 k (by rw [← h8]; exact hk)
    · rw [h8] at hk; cases hk; exact H3.out.2.1.size
  refine ⟨rfl, o4, c4, Blk.set HB4.out 0 _, owns_same h1 (fun g hg => Below.heap_setCell _ _ _ _ (fun e => owns_ne_blk h1 HB4.out (by decide) (by rw [show g = R from e] at hg; exact hg))), ?_, hk⟩
  exact Oth.setCell (S := (· = R)) (p := ⟨R, 0, none⟩) ((Oth.of_below (S := (· = R)) H3.out.2.1).trans H4.out.2.1 (fun j hj e => absurd (H3.out.2.2.1 j e) (by omega))) (fun _ => rfl) _
set_option maxRecDepth 100000 in
set_option maxHeartbeats 1000000 in
theorem rPut_full (x : Int) (w : World) (h : RB w R oi ni ci rd en ow nw' cw) (hn : nw' = 1048576) : Calls Try.prog 31 #[.pointer (some ⟨R, 0, none⟩), .int .u8 x] w fun r W' => r = .returned (.int .i64 3) ∧ W' = w := by
  subst hn
  obtain ⟨c0, c1, c2, c3, f0, f1, f2, f3⟩ := Blk.all4 h
  clear h
  go_enter Try.func31, Try.ntmps31
  go_wp2
  go_ret
  exact ⟨rfl, rfl⟩
/-- The document's world behind a byte that was written. -/
def RWrote (w W' : World) (b R : Nat) (oi : Option Addr) (ni ci rd : Nat) (en : Bool) (ow : Option Addr) (nw' cw : Nat) (A : List Int) : Prop :=
  ∃ o' c', RB W' R oi ni ci rd en o' (nw' + 1) c' ∧ W'.ownsRow b 5 1 (.slice o' (nw' + 1) c') (nw' + 1) (vals A) ∧ Oth (fun k => k = R ∨ Value.ownBlock (.slice ow nw' cw) = some k) w W' ∧ ∀ k, Value.ownBlock (.slice o' (nw' + 1) c') = some k → Value.ownBlock (.slice ow nw' cw) = some k ∨ w.heap.size ≤ k
set_option maxRecDepth 100000 in
set_option maxHeartbeats 4000000 in
theorem rPut_ok (x : Int) (w : World) (h : RB w R oi ni ci rd en ow nw' cw) (b : Nat) (A : List Int) (hA : A.length = nw') (hrow : w.ownsRow b 5 1 (.slice ow nw' cw) nw' (vals A)) (hb : b ≤ w.heap.size) (hn : nw' < 1048576) : Calls Try.prog 31 #[.pointer (some ⟨R, 0, none⟩), .int .u8 x] w fun r W' => r = .returned (.int .i64 0) ∧ RWrote w W' b R oi ni ci rd en ow nw' cw (A ++ [x]) := by
  obtain ⟨c0, c1, c2, c3, f0, f1, f2, f3⟩ := Blk.all4 h
  have hP := Blk.lt h
  have HW : Hid (RB w R oi ni ci rd en ow nw' cw ∧ A.length = nw' ∧ w.ownsRow b 5 1 (.slice ow nw' cw) nw' (vals A) ∧ b ≤ w.heap.size ∧ nw' < 1048576) := ⟨h, hA, hrow, hb, hn⟩
  have hd : ((nw' : Int) == 1048576) = false := by simp; omega
  have hd2 : ¬ (nw' : Int) = 1048576 := by omega
  clear h hA hrow hb hn
  have HO : Hid ((w.alloc (.cells #[.int .u8 x] 5)).ownsRow b 5 1 (.slice ow nw' cw) nw' (vals A)) := owns_same HW.out.2.2.1 (fun g hg => Below.heap_alloc _ _ _ (HW.out.2.2.1.lt g hg).2)
  have HB : Hid (BytAt (w.alloc (.cells #[.int .u8 x] 5)) (some ⟨w.heap.size, 0, none⟩) [x]) := byt_new w [x] 5 (0, 0)
  go_enter Try.func31, Try.ntmps31
  go_wp2_with (at_builtin; refine app_bytes rfl _ _ rfl b (.slice ow nw' cw) nw' A HW.out.2.1 rfl HO.out (some ⟨w.heap.size, 0, none⟩) 1 1 [x] rfl rfl (fun e => by cases e) HB.out (by have := HW.out; simp; omega) (by have := HW.out.2.2.2.1; simp; omega) ?_; intro o' c' w3 h31 h32 h33; have H3 : Hid (w3.ownsRow b 5 1 (.slice o' (nw' + 1) c') (A ++ [x]).length (vals (A ++ [x])) ∧ Oth (fun k => Value.ownBlock (.slice ow nw' cw) = some k) (w.alloc (.cells #[.int .u8 x] 5)) w3 ∧ (Value.ownBlock (.slice o' (nw' + 1) c') = Value.ownBlock (.slice ow nw' cw) ∨ Value.ownBlock (.slice o' (nw' + 1) c') = some (w.heap.size + 1))) := ⟨h31, h32, by simpa using h33⟩; have HB3 : Hid (RB w3 R oi ni ci rd en ow nw' cw) := Blk.at (Blk.alloc HW.out.1 _) (h32.block R (by simp; omega) (fun e => owns_ne_blk HW.out.2.2.1 HW.out.1 (by decide) e)); have g3 := Blk.cell HB3.out 3 _ rfl; have e3 := Blk.frozen HB3.out 3; have hP3 := Blk.lt HB3.out; clear h31 h32 h33)
  go_ret
  have h1 := H3.out.1
  have h9 : (A ++ [x]).length = nw' + 1 := by rw [List.length_append]; have := HW.out.2.1; simp; omega
  rw [h9] at h1
  refine ⟨rfl, o', c', Blk.set HB3.out 3 _, ?_, ?_, ?_⟩
  · exact owns_same h1 (fun g hg => Below.heap_setCell _ _ _ _ (fun e => owns_ne_blk h1 HB3.out (by decide) (by rw [show g = R from e] at hg; exact hg)))
  · refine Oth.setCell (p := ⟨R, 3, none⟩) ?_ (fun _ => .inl rfl) _
    exact ((Oth.refl (fun k => k = R ∨ Value.ownBlock (.slice ow nw' cw) = some k) w).alloc (.cells #[.int .u8 x] 5)).trans H3.out.2.1 (fun j hj e => .inr e)
  · intro k hk
    rcases H3.out.2.2 with h9 | h9
    · exact .inl (by rw [← h9]; exact hk)
    · rw [h9] at hk; cases hk; exact .inr (by omega)
end
section
variable {b : Nat} {W : World} {F : Nat → Prop} {R : Nat} {s : St}
theorem othF {S F : Nat → Prop} {W W' : World} (h : Oth S W W') (hs : ∀ k, S k → F k) : Oth F W W' := ⟨h.os, h.tape, h.output, h.size, fun k hk hn => h.block k hk (fun e => hn (hs k e))⟩
theorem owns_oth {W W' : World} {b n : Nat} {v : Value} {xs : List Value} (h : W.ownsRow b 5 1 v n xs) {S : Nat → Prop} (ho : Oth S W W') (hs : ∀ k, S k → v.ownBlock ≠ some k) : W'.ownsRow b 5 1 v n xs := owns_same h (fun g hg => ho.block g (h.lt g hg).2 (fun e => hs g e hg))
theorem RSt.feed (h : RSt b W F R s) (hok : s.Ok) (hb0 : b ≤ W.heap.size) (ob : Option Addr) (n cb : Nat) (l : List Int) (hn : l.length = n) (hni : n ≤ 10000000) (hob : ob = none → l = [] ∧ cb = 0) (hb : BytAt W ob l) :
    Calls Try.prog 27 #[.pointer (some ⟨R, 0, none⟩), .slice ob n cb] W fun r W' => r = .returned (.int .i64 (feedE s n)) ∧ RSt b W' (nw F W) R (feedS s l) ∧ Oth F W W' := by
  subst hn
  have h0 := h
  obtain ⟨oi, ci, ow, cw, h1, h2, h3, h4, h5, h6, h7⟩ := h
  unfold feedE feedS
  cases he : s.en with
  | true =>
    rw [he] at h1
    refine (rFeed_over ob l.length cb W h1).mono ?_
    rintro r W' ⟨rfl, rfl⟩
    exact ⟨by simp, by simp only [if_true]; exact h0.mono (fun k hk => .inl hk), Oth.refl _ _⟩
  | false =>
    rw [he] at h1
    by_cases hl : s.inn.length + l.length ≤ 1048576
    · refine (rFeed_ok b ob l.length cb s.inn l W h1 rfl h2 hb0 rfl hob hb hl).mono ?_
      rintro r W' ⟨rfl, oi2, ci2, g1, g2, g3, g4⟩
      refine ⟨by simp [hl], ?_, othF g3 (fun k e => by rw [e]; exact h4)⟩
      simp only [Bool.false_eq_true, if_false, hl, if_true]
      have hlen : (s.inn ++ l).length = s.inn.length + l.length := List.length_append
      refine ⟨oi2, ci2, ow, cw, ?_, ?_, owns_oth h3 g3 (fun k e => by rw [e]; exact owns_ne_blk h3 h1 (by decide)), .inl h4, fun k hk => .inr (g4 k ?_), fun k hk => .inl (h6 k hk), fun k hk e => ?_⟩
      · show Blk W' R #[.slice oi2 (s.inn ++ l).length ci2, .int .i64 (s.rd : Int), .bool false, .slice ow s.out.length cw] 57
        rw [hlen]; exact g1
      · show W'.ownsRow b 5 1 (.slice oi2 (s.inn ++ l).length ci2) (s.inn ++ l).length (vals (s.inn ++ l))
        rw [hlen]; exact g2
      · have hk' : Value.ownBlock (.slice oi2 (s.inn ++ l).length ci2) = some k := hk
        rw [hlen] at hk'; exact hk'
      · have e' : Value.ownBlock (.slice oi2 (s.inn ++ l).length ci2) = some k := e
        rw [hlen] at e'
        have := g4 k e'
        have := (h3.lt k hk).2
        omega
    · refine (rFeed_long ob l.length cb W h1 hok.inn hni hl).mono ?_
      rintro r W' ⟨rfl, rfl⟩
      refine ⟨by simp [hl], ?_, Oth.refl _ _⟩
      simp only [Bool.false_eq_true, if_false, hl]
      exact h0.mono (fun k hk => .inl hk)
theorem RSt.ends (h : RSt b W F R s) : Calls Try.prog 28 #[.pointer (some ⟨R, 0, none⟩)] W fun r W' => r = .returned (.int .i64 (endE s)) ∧ RSt b W' (nw F W) R (endS s) ∧ Oth F W W' := by
  obtain ⟨oi, ci, ow, cw, h1, h2, h3, h4, h5, h6, h7⟩ := h
  unfold endE endS
  cases he : s.en with
  | true =>
    rw [he] at h1
    refine (rEnd_over W h1).mono ?_
    rintro r W' ⟨rfl, rfl⟩
    exact ⟨by simp, ⟨oi, ci, ow, cw, h1, h2, h3, .inl h4, fun k hk => .inl (h5 k hk), fun k hk => .inl (h6 k hk), h7⟩, Oth.refl _ _⟩
  | false =>
    rw [he] at h1
    refine (rEnd_ok W h1).mono ?_
    rintro r W' ⟨rfl, g1, g3⟩
    exact ⟨by simp, ⟨oi, ci, ow, cw, g1, owns_oth h2 g3 (fun k e => by rw [e]; exact owns_ne_blk h2 h1 (by decide)), owns_oth h3 g3 (fun k e => by rw [e]; exact owns_ne_blk h3 h1 (by decide)), .inl h4, fun k hk => .inl (h5 k hk), fun k hk => .inl (h6 k hk), h7⟩, othF g3 (fun k e => by rw [e]; exact h4)⟩
theorem RSt.drew (h : RSt b W F R s) : RSt b W.drew F R s := h
theorem RSt.get (h : RSt b W F R s) (hok : s.Ok) : Calls Try.prog 29 #[.pointer (some ⟨R, 0, none⟩)] W fun r W' => r = .returned (.tuple #[.int .u8 (getB s), .int .i64 (eofN s)]) ∧ RSt b W' (nw F W) R (getS s) ∧ Oth F W W' := by
  have h0 := h
  obtain ⟨oi, ci, ow, cw, h1, h2, h3, h4, h5, h6, h7⟩ := h
  unfold getB getS eofN
  by_cases hr : s.rd < s.inn.length
  · have hx : s.inn[s.rd]? = some s.inn[s.rd] := List.getElem?_eq_getElem hr
    obtain ⟨g, rfl⟩ : ∃ g, oi = some ⟨g, 0, none⟩ := by
      rcases h2 with ⟨_, ⟨g1, g2⟩ | ⟨g, cap, cur, g1, _⟩⟩
      · omega
      · cases g1; exact ⟨g, rfl⟩
    have hc : W.cell? ⟨g, s.rd, none⟩ = some (.int .u8 s.inn[s.rd]) := by
      have := h2.cellAt s.rd (by omega)
      rw [this]; simp [vals, hx]
    refine (rGet_some g _ W h1 hr hok.inn hc (h2.lt g rfl).2 (fun e => owns_ne_blk h2 h1 (by decide) (by rw [← e]; rfl))).mono ?_
    rintro r W' ⟨rfl, g1, g3⟩
    refine ⟨by rw [hx, whatN, if_neg (by omega)]; rfl, ?_, othF g3 (fun k e => by rw [e]; exact h4)⟩
    rw [if_pos hr]
    exact ⟨_, ci, ow, cw, g1, owns_oth h2 g3 (fun k e => by rw [e]; exact owns_ne_blk h2 h1 (by decide)), owns_oth h3 g3 (fun k e => by rw [e]; exact owns_ne_blk h3 h1 (by decide)), .inl h4, fun k hk => .inl (h5 k hk), fun k hk => .inl (h6 k hk), h7⟩
  · have hx : s.inn[s.rd]? = none := List.getElem?_eq_none (by omega)
    refine (rGet_none W h1 (by have := hok.rd; omega) hok.inn).mono ?_
    rintro r W' ⟨rfl, rfl⟩
    refine ⟨by rw [hx, show s.inn.length - s.rd = 0 by omega]; rfl, ?_, (Oth.refl _ _).drew⟩
    rw [if_neg hr]
    exact h0.drew.mono (fun k hk => .inl hk)
theorem RSt.eof (h : RSt b W F R s) (hok : s.Ok) : Calls Try.prog 30 #[.pointer (some ⟨R, 0, none⟩)] W fun r W' => r = .returned (.int .i64 (eofN s)) ∧ Below W.heap.size W W' := by
  obtain ⟨oi, ci, ow, cw, h1, h2, h3, h4, h5, h6, h7⟩ := h
  refine (rEof_c W h1 hok.rd hok.inn).mono ?_
  rintro r W' ⟨rfl, rfl⟩
  exact ⟨rfl, (Below.refl _ _).drew⟩
theorem RSt.left (h : RSt b W F R s) (hok : s.Ok) : Calls Try.prog 33 #[.pointer (some ⟨R, 0, none⟩)] W fun r W' => r = .returned (.int .i64 ((s.inn.length - s.rd : Nat) : Int)) ∧ Below W.heap.size W W' := by
  obtain ⟨oi, ci, ow, cw, h1, h2, h3, h4, h5, h6, h7⟩ := h
  refine (rLeft_c W h1 hok.rd hok.inn).mono ?_
  rintro r W' ⟨rfl, rfl⟩
  exact ⟨rfl, (Below.refl _ _).drew⟩
theorem RSt.put (h : RSt b W F R s) (hok : s.Ok) (hb : b ≤ W.heap.size) (x : Int) : Calls Try.prog 31 #[.pointer (some ⟨R, 0, none⟩), .int .u8 x] W fun r W' => r = .returned (.int .i64 (putE s)) ∧ RSt b W' (nw F W) R (putS s x) ∧ Oth F W W' := by
  have h0 := h
  obtain ⟨oi, ci, ow, cw, h1, h2, h3, h4, h5, h6, h7⟩ := h
  unfold putE putS
  by_cases hn : s.out.length = 1048576
  · refine (rPut_full x W h1 hn).mono ?_
    rintro r W' ⟨rfl, rfl⟩
    rw [if_pos hn, if_pos hn]
    exact ⟨rfl, h0.mono (fun k hk => .inl hk), Oth.refl _ _⟩
  · refine (rPut_ok x W h1 b s.out rfl h3 hb (by have := hok.out; omega)).mono ?_
    rintro r W' ⟨rfl, o', c', g1, g2, g3, g4⟩
    rw [if_neg hn, if_neg hn]
    have hlen : (s.out ++ [x]).length = s.out.length + 1 := by simp
    have key : ∀ k, Value.ownBlock (.slice o' (s.out ++ [x]).length c') = some k → Value.ownBlock (.slice ow s.out.length cw) = some k ∨ W.heap.size ≤ k := by rw [hlen]; exact g4
    refine ⟨rfl, ⟨oi, ci, o', c', ?_, owns_oth h2 g3 (fun k e => e.elim (fun e => by rw [e]; exact owns_ne_blk h2 h1 (by decide)) (fun e => h7 k e)), ?_, .inl h4, fun k hk => .inl (h5 k hk), ?_, ?_⟩, othF g3 (fun k e => e.elim (fun e => by rw [e]; exact h4) (h6 k))⟩
    · show Blk W' R #[.slice oi s.inn.length ci, .int .i64 (s.rd : Int), .bool s.en, .slice o' (s.out ++ [x]).length c'] 57
      rw [hlen]; exact g1
    · show W'.ownsRow b 5 1 (.slice o' (s.out ++ [x]).length c') (s.out ++ [x]).length (vals (s.out ++ [x]))
      rw [hlen]; exact g2
    · exact fun k hk => (key k hk).elim (fun e => .inl (h6 k e)) .inr
    · intro k hk e
      rcases key k hk with h9 | h9
      · exact h7 k h9 e
      · have := (h2.lt k e).2; omega
end
end Go.Proofs.Ytkjbdjobglnphaa
