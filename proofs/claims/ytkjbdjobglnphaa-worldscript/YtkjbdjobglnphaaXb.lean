/-
  WorldScript: the program's calls: Put, Clone, Out.
-/
import Derived.Test.YtkjbdjobglnphaaXa
import Derived.Test.YtkjbdjobglnphaaWk
namespace Go.Proofs.Ytkjbdjobglnphaa
open Go.RowKit Go.Shelf Go.Maps Go.Conc
set_option linter.unusedVariables false
theorem own_none {W : World} {b n c : Nat} {o : Option Addr} {xs : List Value} (h : W.ownsRow b 5 1 (.slice o n c) n xs) : o = none → n = 0 ∧ c = 0 := by
  intro e
  rcases h with ⟨_, ⟨h1, h2⟩ | ⟨g, cap, cur, h1, _⟩⟩
  · cases h1; exact ⟨rfl, rfl⟩
  · cases h1; cases e
section
variable {P C cap : Nat} {u : List Int} {fed : Nat} {en : Bool} {o : Option Addr} {n c : Nat}
set_option maxRecDepth 100000 in
set_option maxHeartbeats 1000000 in
theorem put_full (x : Int) (w : World) (h : WdAt w P C cap u fed en o n c) (hn : n = 1048576) : Calls Try.prog 20 #[.pointer (some ⟨P, 0, none⟩), .int .u8 x] w fun r W' => r = .returned (.int .i64 3) ∧ W' = w := by
  subst hn
  have HM : Hid (Calls Try.prog 22 #[.pointer (some ⟨P, 0, none⟩)] w fun r W' => r = .returned (.bool true) ∧ W' = w) := made_c w h
  obtain ⟨c0, c1, c2, c3, c4, f0, f1, f2, f3, f4⟩ := h.blk.all5
  clear h
  go_enter Try.func20, Try.ntmps20
  go_wp2_with (go_at_call 22; fail)
  refine HM.out.mono ?_
  rintro r w1 ⟨rfl, rfl⟩
  go_wp2
  go_ret
  exact ⟨rfl, rfl⟩
/-- A world behind a byte that was written. -/
def Wrote (w W' : World) (b P C cap : Nat) (u : List Int) (fed : Nat) (en : Bool) (o : Option Addr) (n c : Nat) (A : List Int) : Prop :=
  ∃ o' c', WdAt W' P C cap u fed en o' (n + 1) c' ∧ W'.ownsRow b 5 1 (.slice o' (n + 1) c') (n + 1) (vals A) ∧ Oth (fun k => k = P ∨ Value.ownBlock (.slice o n c) = some k) w W' ∧ ∀ k, Value.ownBlock (.slice o' (n + 1) c') = some k → Value.ownBlock (.slice o n c) = some k ∨ w.heap.size ≤ k
set_option maxRecDepth 100000 in
set_option maxHeartbeats 4000000 in
theorem put_ok (x : Int) (w : World) (h : WdAt w P C cap u fed en o n c) (b : Nat) (A : List Int) (hA : A.length = n) (hrow : w.ownsRow b 5 1 (.slice o n c) n (vals A)) (hb : b ≤ w.heap.size) (hn : n < 1048576) : Calls Try.prog 20 #[.pointer (some ⟨P, 0, none⟩), .int .u8 x] w fun r W' => r = .returned (.int .i64 0) ∧ Wrote w W' b P C cap u fed en o n c (A ++ [x]) := by
  have HM : Hid (Calls Try.prog 22 #[.pointer (some ⟨P, 0, none⟩)] w fun r W' => r = .returned (.bool true) ∧ W' = w) := made_c w h
  obtain ⟨c0, c1, c2, c3, c4, f0, f1, f2, f3, f4⟩ := h.blk.all5
  have hP := h.blk.lt
  have HW : Hid (WdAt w P C cap u fed en o n c ∧ A.length = n ∧ w.ownsRow b 5 1 (.slice o n c) n (vals A) ∧ b ≤ w.heap.size ∧ n < 1048576) := ⟨h, hA, hrow, hb, hn⟩
  have hd : decide ((1048576 : Int) ≤ (n : Int)) = false := by simp; omega
  clear h hA hrow hb hn
  go_enter Try.func20, Try.ntmps20
  go_wp2_with (go_at_call 22; fail)
  refine HM.out.mono ?_
  rintro r w1 ⟨rfl, rfl⟩
  have HO : Hid ((w1.alloc (.cells #[.int .u8 x] 5)).ownsRow b 5 1 (.slice o n c) n (vals A)) := owns_same HW.out.2.2.1 (fun g hg => Below.heap_alloc _ _ _ (HW.out.2.2.1.lt g hg).2)
  have HB : Hid (BytAt (w1.alloc (.cells #[.int .u8 x] 5)) (some ⟨w1.heap.size, 0, none⟩) [x]) := byt_new w1 [x] 5 (0, 0)
  go_wp2_with (at_builtin; refine app_bytes rfl _ _ rfl b (.slice o n c) n A HW.out.2.1 rfl HO.out (some ⟨w1.heap.size, 0, none⟩) 1 1 [x] rfl rfl (fun e => by cases e) HB.out (by have := HW.out; simp; omega) (by have := HW.out.2.2.2.1; simp; omega) ?_; intro o' c' w3 h31 h32 h33; have H3 : Hid (w3.ownsRow b 5 1 (.slice o' (n + 1) c') (A ++ [x]).length (vals (A ++ [x])) ∧ Oth (fun k => Value.ownBlock (.slice o n c) = some k) (w1.alloc (.cells #[.int .u8 x] 5)) w3 ∧ (Value.ownBlock (.slice o' (n + 1) c') = Value.ownBlock (.slice o n c) ∨ Value.ownBlock (.slice o' (n + 1) c') = some (w1.heap.size + 1))) := ⟨h31, h32, by simpa using h33⟩; have HB3 : Hid (Blk w3 P #[.pointer (some ⟨P, 0, none⟩), .chan (some C), .int .i64 (fed : Int), .bool en, .slice o n c] 43) := (HW.out.1.blk.alloc _).at (h32.block P (by simp; omega) (fun e => owns_ne_blk HW.out.2.2.1 HW.out.1.blk (by decide) e)); have g4 := HB3.out.cell 4 _ rfl; have e4 := HB3.out.frozen 4; have hP3 := HB3.out.lt; clear h31 h32 h33)
  go_ret
  refine ⟨rfl, o', c', ⟨HB3.out.set 4 _, ?_, HW.out.1.room, HW.out.1.le, HW.out.1.most, HW.out.1.capb⟩, ?_, ?_, ?_⟩
  · refine (HW.out.1.ch.at (W' := w3) ?_).at (Below.heap_setCell _ _ _ _ (HW.out.1.ch.ne HW.out.1.blk))
    rw [H3.out.2.1.block C (by have := HW.out.1.ch.lt; simp; omega) (fun e => owns_ne_ch HW.out.2.2.1 HW.out.1.ch e), Below.heap_alloc _ _ _ HW.out.1.ch.lt]
  · have h1 := H3.out.1
    have h9 : (A ++ [x]).length = n + 1 := by rw [List.length_append]; have := HW.out.2.1; simp; omega
    rw [h9] at h1
    exact owns_same h1 (fun g hg => Below.heap_setCell _ _ _ _ (fun e => owns_ne_blk h1 HB3.out (by decide) (by rw [show g = P from e] at hg; exact hg)))
  · refine Oth.setCell (p := ⟨P, 4, none⟩) ?_ (fun _ => .inl rfl) _
    exact ((Oth.refl (fun k => k = P ∨ Value.ownBlock (.slice o n c) = some k) w1).alloc (.cells #[.int .u8 x] 5)).trans H3.out.2.1 (fun j hj e => .inr e)
  · intro k hk
    rcases H3.out.2.2 with h9 | h9
    · exact .inl (by rw [← h9]; exact hk)
    · rw [h9] at hk; cases hk; exact .inr (by omega)
end
def Cloned (n : Nat) (l : List Int) (w : World) (r : Ending) (W' : World) : Prop := ∃ o' c', r = .returned (.slice o' n c') ∧ BytAt W' o' l ∧ Below w.heap.size w W'
theorem nil0 (w : World) : (binOp .eql 27 (.slice none 0 0) (.slice none 0 0)).run Try.prog w = .ok (.bool true) w := by kernel_rfl
theorem nil1 (a : Addr) (n c : Nat) (w : World) : (binOp .eql 27 (.slice (some a) n c) (.slice none 0 0)).run Try.prog w = .ok (.bool false) w := by kernel_rfl
theorem buildE (w : World) : (w.alloc (.cells #[] 5)).ownsRow w.heap.size 5 1 (.slice (some ⟨w.heap.size, 0, none⟩) 0 0) 0 (vals []) := by
  exact World.ownsRow_lit w #[] 0 (Nat.le_refl _) (by decide) rfl
set_option maxRecDepth 100000 in
set_option maxHeartbeats 1000000 in
theorem clone_c (o : Option Addr) (n c : Nat) (l : List Int) (hl : l.length = n) (hln : n ≤ 1048576) (hn : o = none → l = [] ∧ c = 0) (w : World) (h : BytAt w o l) : Calls Try.prog 34 #[.slice o n c] w fun r W' => Cloned n l w r W' := by
  cases o with
  | none =>
    obtain ⟨rfl, rfl⟩ := hn rfl
    obtain rfl : n = 0 := by simpa using hl.symm
    have he := nil0
    go_enter Try.func34, Try.ntmps34
    go_wp2
    go_ret
    exact ⟨none, 0, rfl, .inl rfl, Below.refl _ _⟩
  | some a =>
    have HO := buildE w
    have HX : Hid ((w.alloc (.cells #[] 5)).ownsRow w.heap.size 5 1 (.slice (some ⟨w.heap.size, 0, none⟩) 0 0) 0 (vals []) ∧ BytAt (w.alloc (.cells #[] 5)) (some a) l ∧ l.length = n ∧ n ≤ 1048576) := ⟨HO, h.oth (Oth.of_below (S := fun _ => False) (below1 w _)) (fun _ _ _ e => e), hl, hln⟩
    have he := nil1
    clear HO h hl hn hln
    go_enter Try.func34, Try.ntmps34
    go_wp2_with (at_builtin; refine app_bytes rfl _ _ rfl w.heap.size (.slice (some ⟨w.heap.size, 0, none⟩) 0 0) 0 [] rfl rfl HX.out.1 (some a) n c l rfl HX.out.2.2.1 (fun e => by cases e) HX.out.2.1 (by have := HX.out.2.2; omega) (by simp) ?_; intro o' c' w3 h31 h32 h33; have H3 : Hid (w3.ownsRow w.heap.size 5 1 (.slice o' (0 + n) c') ([] ++ l).length (vals ([] ++ l)) ∧ Oth (fun k => Value.ownBlock (.slice (some ⟨w.heap.size, 0, none⟩) 0 0) = some k) (w.alloc (.cells #[] 5)) w3) := ⟨h31, h32⟩; clear h31 h32 h33)
    go_ret
    have h1 := H3.out.1
    rw [List.nil_append, HX.out.2.2.1, Nat.zero_add] at h1
    refine ⟨o', c', by simp, owns_byt (b := w.heap.size) (c := c') (by rw [HX.out.2.2.1]; exact h1), ?_⟩
    refine (below1 w _).trans ((H3.out.2.below (by simp) (fun j hj => by cases hj; exact Nat.le_refl _)))
end Go.Proofs.Ytkjbdjobglnphaa
