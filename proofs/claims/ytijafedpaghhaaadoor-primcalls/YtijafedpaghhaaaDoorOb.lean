/-
  Package prim: Strict, Simple, Takes, by contracts.
-/
import Derived.Test.YtijafedpaghhaaaDoorOa
namespace Go.Proofs.YtijafedpaghhaaaDoor
open Go.RowKit Go.Shelf Go.Maps
set_option linter.unusedVariables false

def othM (x : List UInt8) : Option Int :=
  if x = [115, 101, 113] then some 1 else
  if x = [101, 114, 114, 111, 114] then some 0 else
  if x = [115, 104, 111, 119] then some 1 else
  if x = [114, 101, 116] then some 0 else
  if x = [98, 105, 110, 100] then some 0 else
  if x = [103, 101, 116, 99] then some 0 else
  if x = [112, 117, 116, 99] then some 0 else
  if x = [101, 111, 102] then some 0 else
  if x = [101, 120, 105, 116] then some 0 else
  none
theorem oth_find (x : List UInt8) : (othL.find? (fun p => p.1 == x) = none ∧ othM x = none) ∨ ∃ v, othL.find? (fun p => p.1 == x) = some (x, .int .i64 v) ∧ othM x = some v := by
  by_cases hseq : x = [115, 101, 113]
  · subst hseq; exact .inr ⟨1, rfl, rfl⟩
  by_cases herror : x = [101, 114, 114, 111, 114]
  · subst herror; exact .inr ⟨0, rfl, rfl⟩
  by_cases hshow : x = [115, 104, 111, 119]
  · subst hshow; exact .inr ⟨1, rfl, rfl⟩
  by_cases hret : x = [114, 101, 116]
  · subst hret; exact .inr ⟨0, rfl, rfl⟩
  by_cases hbind : x = [98, 105, 110, 100]
  · subst hbind; exact .inr ⟨0, rfl, rfl⟩
  by_cases hgetc : x = [103, 101, 116, 99]
  · subst hgetc; exact .inr ⟨0, rfl, rfl⟩
  by_cases hputc : x = [112, 117, 116, 99]
  · subst hputc; exact .inr ⟨0, rfl, rfl⟩
  by_cases heof : x = [101, 111, 102]
  · subst heof; exact .inr ⟨0, rfl, rfl⟩
  by_cases hexit : x = [101, 120, 105, 116]
  · subst hexit; exact .inr ⟨0, rfl, rfl⟩
  left
  refine ⟨?_, by simp [othM, *]⟩
  simp [othL]
  simp [Ne.symm, eq_comm, *]
theorem zero3 (w : World) : (zeroValue 3).run Tryd.prog w = .ok (.int .i64 0) w := by kernel_rfl
def strictM (x : List UInt8) : Int := (othM x).getD (arM x)
set_option maxRecDepth 100000 in
set_option maxHeartbeats 2000000 in
theorem strict_c (s : ByteArray) (hs : s.size ≤ maxLen) (w : World) : Calls Tryd.prog 10 #[.string s] w fun e w' => e = .returned (.int .i64 (strictM s.data.toList)) ∧ Below w.heap.size w w' := by
  have HA : Hid (∀ W : World, Calls Tryd.prog 29 #[.string s] W fun e w' => e = .returned (.int .i64 (arM s.data.toList)) ∧ w' = W) := fun W => by rw [← toL]; exact arity_c s W
  rcases oth_find s.data.toList with ⟨h1, h2⟩ | ⟨v, h1, h2⟩
  · have HR : Hid (strictM s.data.toList = arM s.data.toList) := by show _ = _; unfold strictM; rw [h2]; rfl
    have HL : Hid (∀ (W : World) (b : Nat), MapIs W b 9 othL → (Instr.lookup 52 (.map (some b)) (.string s) true).run Tryd.prog W = .ok (.tuple #[.int .i64 0, .bool false]) W) := by
      intro W b h
      rcases h.look 52 3 Tryd.underlying52 _ (zero3 W) s hs with ⟨v, k1, _⟩ | ⟨_, k2⟩
      · rw [h1] at k1; cases k1
      · exact k2
    clear hs h1 h2
    go_enter Tryd.func10, Tryd.ntmps10
    go_wp2_with (go_at_call 27; fail)
    refine (others_c _).mono ?_
    rintro e w1 ⟨rfl, hm, hb⟩
    have HB : Hid (Below w.heap.size w w1) := hb
    have hrun := HL.out w1 w.heap.size hm
    clear hm hb HL
    go_wp2_with (go_at_call 29; refine (HA.out _).mono ?_; rintro e w' ⟨rfl, rfl⟩)
    go_ret
    exact ⟨by rw [HR.out]; rfl, HB.out⟩
  · have HR : Hid (strictM s.data.toList = v) := by show _ = _; unfold strictM; rw [h2]; rfl
    have HL : Hid (∀ (W : World) (b : Nat), MapIs W b 9 othL → (Instr.lookup 52 (.map (some b)) (.string s) true).run Tryd.prog W = .ok (.tuple #[.int .i64 v, .bool true]) W) := by
      intro W b h
      rcases h.look 52 3 Tryd.underlying52 _ (zero3 W) s hs with ⟨u, k1, k2⟩ | ⟨k1, _⟩
      · rw [h1] at k1; cases k1; exact k2
      · rw [h1] at k1; cases k1
    clear hs h1 h2
    go_enter Tryd.func10, Tryd.ntmps10
    go_wp2_with (go_at_call 27; fail)
    refine (others_c _).mono ?_
    rintro e w1 ⟨rfl, hm, hb⟩
    have HB : Hid (Below w.heap.size w w1) := hb
    have hrun := HL.out w1 w.heap.size hm
    clear hm hb HL
    go_wp2
    go_ret
    exact ⟨by rw [HR.out]; rfl, HB.out⟩
def simpleM (x : List UInt8) : Bool := (opOf x).isSome
set_option maxRecDepth 100000 in
set_option maxHeartbeats 2000000 in
theorem simple_c (s : ByteArray) (hs : s.size ≤ maxLen) (w : World) : Calls Tryd.prog 13 #[.string s] w fun e w' => e = .returned (.bool (simpleM s.data.toList)) ∧ Below w.heap.size w w' := by
  rcases tab_find s.data.toList with ⟨h1, h2⟩ | ⟨tk, f, g, h1, h2, h3, h4⟩
  · have HR : Hid (simpleM s.data.toList = false) := by show _ = _; unfold simpleM; rw [h2]; rfl
    have HL : Hid (∀ (W : World) (b : Nat), MapIs W b 15 tabL → (Instr.lookup 46 (.map (some b)) (.string s) true).run Tryd.prog W = .ok (.tuple #[.agg #[.int .i64 0, .nilFunc], .bool false]) W) := by
      intro W b h
      rcases h.look 46 49 Tryd.underlying46 _ (zeroEnt W) s hs with ⟨v, k1, _⟩ | ⟨_, k2⟩
      · rw [h1] at k1; cases k1
      · exact k2
    clear hs h1 h2
    go_enter Tryd.func13, Tryd.ntmps13
    go_wp2_with (go_at_call 25; fail)
    refine (table_c _).mono ?_
    rintro e w1 ⟨rfl, hm, hb⟩
    have HB : Hid (Below w.heap.size w (w1.alloc (.cells #[.int .i64 0, .nilFunc] 49))) := hb.alloc hb.size _
    have hrun := HL.out w1 w.heap.size hm
    clear hm hb HL
    go_wp2
    go_ret
    exact ⟨by rw [HR.out]; rfl, HB.out⟩
  · have HR : Hid (simpleM s.data.toList = true) := by show _ = _; unfold simpleM; rw [h2]; rfl
    have HL : Hid (∀ (W : World) (b : Nat), MapIs W b 15 tabL → (Instr.lookup 46 (.map (some b)) (.string s) true).run Tryd.prog W = .ok (.tuple #[.agg #[.int .i64 tk, .func (.func f) #[] #[]], .bool true]) W) := look_tab s hs tk f h1
    clear hs h1 h2 h3 h4
    go_enter Tryd.func13, Tryd.ntmps13
    go_wp2_with (go_at_call 25; fail)
    refine (table_c _).mono ?_
    rintro e w1 ⟨rfl, hm, hb⟩
    have HB : Hid (Below w.heap.size w (w1.alloc (.cells #[.int .i64 tk, .func (.func f) #[] #[]] 49))) := hb.alloc hb.size _
    have hrun := HL.out w1 w.heap.size hm
    clear hm hb HL
    go_wp2
    go_ret
    exact ⟨by rw [HR.out]; rfl, HB.out⟩
def takesM (x : List UInt8) (i : Int) : Int := match opOf x with
  | none => 0
  | some (tk, _) => if i < 0 ∨ arM x ≤ i then 0 else tk
set_option maxRecDepth 100000 in
set_option maxHeartbeats 2000000 in
theorem takes_c (s : ByteArray) (hs : s.size ≤ maxLen) (i : Int) (w : World) : Calls Tryd.prog 16 #[.string s, .int .i64 i] w fun e w' => e = .returned (.int .i64 (takesM s.data.toList i)) ∧ Below w.heap.size w w' := by
  have HA : Hid (∀ W : World, Calls Tryd.prog 29 #[.string s] W fun e w' => e = .returned (.int .i64 (arM s.data.toList)) ∧ w' = W) := fun W => by rw [← toL]; exact arity_c s W
  rcases tab_find s.data.toList with ⟨h1, h2⟩ | ⟨tk, f, g, h1, h2, h3, h4⟩
  · have HR : Hid (takesM s.data.toList i = 0) := by show _ = _; unfold takesM; rw [h2]
    have HL : Hid (∀ (W : World) (b : Nat), MapIs W b 15 tabL → (Instr.lookup 46 (.map (some b)) (.string s) true).run Tryd.prog W = .ok (.tuple #[.agg #[.int .i64 0, .nilFunc], .bool false]) W) := by
      intro W b h
      rcases h.look 46 49 Tryd.underlying46 _ (zeroEnt W) s hs with ⟨v, k1, _⟩ | ⟨_, k2⟩
      · rw [h1] at k1; cases k1
      · exact k2
    clear hs h1 h2
    go_enter Tryd.func16, Tryd.ntmps16
    go_wp2_with (go_at_call 25; fail)
    refine (table_c _).mono ?_
    rintro e w1 ⟨rfl, hm, hb⟩
    have HB : Hid (Below w.heap.size w (w1.alloc (.cells #[.int .i64 0, .nilFunc] 49))) := hb.alloc hb.size _
    have hrun := HL.out w1 w.heap.size hm
    clear hm hb HL
    go_wp2
    go_ret
    exact ⟨by rw [HR.out]; rfl, HB.out⟩
  · have HR : Hid (takesM s.data.toList i = if i < 0 ∨ arM s.data.toList ≤ i then 0 else tk) := by show _ = _; unfold takesM; rw [h2]
    have HL : Hid (∀ (W : World) (b : Nat), MapIs W b 15 tabL → (Instr.lookup 46 (.map (some b)) (.string s) true).run Tryd.prog W = .ok (.tuple #[.agg #[.int .i64 tk, .func (.func f) #[] #[]], .bool true]) W) := look_tab s hs tk f h1
    clear hs h1 h2 h3 h4
    generalize arM s.data.toList = ar at *
    by_cases hi : i < 0
    · have HR2 : Hid (takesM s.data.toList i = 0) := by show _ = _; rw [HR.out, if_pos (.inl hi)]
      go_enter Tryd.func16, Tryd.ntmps16
      go_wp2_with (go_at_call 25; fail)
      refine (table_c _).mono ?_
      rintro e w1 ⟨rfl, hm, hb⟩
      have HB : Hid (Below w.heap.size w (w1.alloc (.cells #[.int .i64 tk, .func (.func f) #[] #[]] 49))) := hb.alloc hb.size _
      have hrun := HL.out w1 w.heap.size hm
      clear hm hb HL
      go_wp2
      go_ret
      exact ⟨by rw [HR2.out]; rfl, HB.out⟩
    · have hi0 : decide (i < 0) = false := by simpa using hi
      by_cases hj : ar ≤ i
      · have HR2 : Hid (takesM s.data.toList i = 0) := by show _ = _; rw [HR.out, if_pos (.inr hj)]
        go_enter Tryd.func16, Tryd.ntmps16
        go_wp2_with (go_at_call 25; fail)
        refine (table_c _).mono ?_
        rintro e w1 ⟨rfl, hm, hb⟩
        have HB : Hid (Below w.heap.size w (w1.alloc (.cells #[.int .i64 tk, .func (.func f) #[] #[]] 49))) := hb.alloc hb.size _
        have hrun := HL.out w1 w.heap.size hm
        clear hm hb HL
        go_wp2_with (go_at_call 29; refine (HA.out _).mono ?_; rintro e w' ⟨rfl, rfl⟩)
        go_ret
        exact ⟨by rw [HR2.out]; rfl, HB.out⟩
      · have HR2 : Hid (takesM s.data.toList i = tk) := by show _ = _; rw [HR.out, if_neg (by omega)]
        have hj0 : decide (ar ≤ i) = false := by simpa using hj
        go_enter Tryd.func16, Tryd.ntmps16
        go_wp2_with (go_at_call 25; fail)
        refine (table_c _).mono ?_
        rintro e w1 ⟨rfl, hm, hb⟩
        have HB : Hid (Below w.heap.size w (w1.alloc (.cells #[.int .i64 tk, .func (.func f) #[] #[]] 49))) := hb.alloc hb.size _
        have hrun := HL.out w1 w.heap.size hm
        clear hm hb HL
        go_wp2_with (go_at_call 29; refine (HA.out _).mono ?_; rintro e w' ⟨rfl, rfl⟩)
        go_ret
        exact ⟨by rw [HR2.out]; rfl, HB.out⟩
end Go.Proofs.YtijafedpaghhaaaDoor
