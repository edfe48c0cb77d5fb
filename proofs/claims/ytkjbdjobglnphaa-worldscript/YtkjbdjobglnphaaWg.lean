/-
  The law's lives, walked.
-/
import Derived.Test.YtkjbdjobglnphaaWf
import Derived.Lib.SlBytesConst
namespace Go.Proofs.Ytkjbdjobglnphaa
open Go.RowKit Go.Shelf Go.Maps Go.Conc
set_option linter.unusedVariables false
theorem byt_of {W : World} {g : Nat} {l : List Int} {T : TypeId} {fr : Nat × Nat} (h : W.heap[g]? = some (.cells (bvs l) T fr)) : BytAt W (some ⟨g, 0, none⟩) l := by
  refine .inr ⟨g, 0, rfl, (Array.getElem?_eq_some_iff.1 h).1, fun j z hz => ?_⟩
  simp [World.cell?, h, bvs, hz]
theorem byt_new (W : World) (l : List Int) (T : TypeId) (fr : Nat × Nat) : BytAt (W.alloc (.cells (bvs l) T fr)) (some ⟨W.heap.size, 0, none⟩) l := byt_of (fr := fr) Array.getElem?_push_size
/-- A new world, made above what lay there. -/
structure Fresh (w W : World) (P C cap : Nat) (u : List Int) (fed : Nat) (en : Bool) (o : Option Addr) (n c : Nat) : Prop where
  at_ : WdAt W P C cap u fed en o n c
  below : Below w.heap.size w W
  hP : w.heap.size ≤ P
  hC : w.heap.size ≤ C
section
variable {w W W' : World} {P C cap : Nat} {u : List Int} {fed : Nat} {en : Bool} {o : Option Addr} {n c : Nat}
theorem Fresh.on (h : Fresh w W P C cap u fed en o n c) (hb : Below W.heap.size W W') : Fresh w W' P C cap u fed en o n c := ⟨h.at_.below hb, h.below.trans (hb.mono h.below.size), h.hP, h.hC⟩
theorem Fresh.feeds (h : Fresh w W P C cap u fed en o n c) {u' : List Int} {fed' : Nat} (hf : Fed W W' P C u' fed' o n c) : ∃ C2 cap2, Fresh w W' P C2 cap2 u' fed' false o n c := by
  obtain ⟨C2, cap2, h1, h2, h3⟩ := hf
  refine ⟨C2, cap2, h1, ?_, h.hP, by have := h.below.size; have := h.hC; omega⟩
  exact h.below.trans (h2.below h.below.size (fun j hj => by have := h.hP; have := h.hC; omega))
theorem Fresh.got (h : Fresh w W P C cap u fed en o n c) {u' : List Int} (h1 : WdAt W' P C cap u' fed en o n c) (h2 : Oth (· = C) W W') : Fresh w W' P C cap u' fed en o n c :=
  ⟨h1, h.below.trans (h2.below h.below.size (fun j hj => by have := h.hC; omega)), h.hP, h.hC⟩
theorem Fresh.ends (h : Fresh w W P C cap u fed en o n c) (h1 : WdAt W' P C cap u fed true o n c) (h2 : Oth (· = P) W W') : Fresh w W' P C cap u fed true o n c :=
  ⟨h1, h.below.trans (h2.below h.below.size (fun j hj => by have := h.hP; omega)), h.hP, h.hC⟩
end
theorem new_f (w0 w : World) (hb : Below w0.heap.size w0 w) : Calls Try.prog 8 #[] w fun r W' => ∃ P C, r = .returned (.pointer (some ⟨P, 0, none⟩)) ∧ Fresh w0 W' P C 64 [] 0 false none 0 0 := by
  refine (new_c w).mono ?_
  rintro r W' ⟨rfl, h1, h2⟩
  have := hb.size
  exact ⟨_, _, rfl, h1, hb.trans (h2.mono this), by omega, this⟩
set_option maxRecDepth 100000 in
set_option maxHeartbeats 4000000 in
theorem lives_c (w : World) : Calls Try.prog 7 #[] w fun e W' => e = .returned (.bool true) ∧ Below w.heap.size w W' := by
  have hcv := fun (w : World) (C : Array Value) (n c : Nat) => Lib.run_convert_bytes_const (P := Try.prog) w 27 5 C n c Try.underlying27 Try.underlying5
  go_enter Try.func7, Try.ntmps7
  go_wp2_with (go_at_call 8; fail)
  refine (new_f w _ (Below.refl _ _)).mono ?_
  rintro r w1 ⟨P, C, rfl, h1⟩
  have H1 : Hid (Fresh w w1 P C 64 [] 0 false none 0 0) := h1
  clear h1
  go_wp2_with (go_at_call 9; fail)
  have H2 := H1.out.on (below1 w1 (.cells #[.int .u8 97, .int .u8 98] 5 (2, 3)))
  refine (feed_ok _ [97, 98] 2 _ H2.at_ (by decide) (byt_new w1 [97, 98] _ _) (fun a ha _ => by cases ha; have := H1.out.at_.blk.lt; simp only; omega)).mono ?_
  rintro r w2 ⟨rfl, h2⟩
  obtain ⟨C2, cap2, h2⟩ := H2.feeds h2
  have H3 : Hid (Fresh w w2 P C2 cap2 [97, 98] 2 false none 0 0) := h2
  clear h2 H2 H1
  go_wp2_with (go_at_call 10; fail)
  refine (get_some 97 _ H3.out.at_).mono ?_
  rintro r w3 ⟨rfl, h3, h4⟩
  have H4 : Hid (Fresh w w3 P C2 cap2 [98] 2 false none 0 0) := H3.out.got h3 h4
  clear h3 h4 H3
  go_wp2_with (go_at_call 19; fail)
  refine (eof_c _ H4.out.at_).mono ?_
  rintro r w4 ⟨rfl, h4⟩
  have H5 : Hid (Fresh w w4 P C2 cap2 [98] 2 false none 0 0) := H4.out.on h4
  clear h4 H4
  simp only [whatN, List.length_cons, List.length_nil, Nat.zero_add, Nat.succ_ne_zero, if_false]
  go_wp2_with (go_at_call 10; fail)
  refine (get_some 98 _ H5.out.at_).mono ?_
  rintro r w5 ⟨rfl, h3, h4⟩
  have H6 : Hid (Fresh w w5 P C2 cap2 [] 2 false none 0 0) := H5.out.got h3 h4
  clear h3 h4 H5
  go_wp2_with (go_at_call 10; fail)
  refine (get_none _ H6.out.at_).mono ?_
  rintro r w6 ⟨rfl, h4⟩
  have H7 : Hid (Fresh w w6 P C2 cap2 [] 2 false none 0 0) := H6.out.on h4
  clear h4 H6
  simp only [whatN, if_true, if_false, Bool.false_eq_true]
  go_wp2
  go_ret
  exact ⟨rfl, H7.out.below⟩
set_option maxRecDepth 100000 in
set_option maxHeartbeats 4000000 in
theorem lawNames_c (w : World) : Calls Try.prog 3 #[] w fun e W' => e = .returned (.bool true) ∧ Below w.heap.size w W' := by
  have hcv := fun (w : World) (C : Array Value) (n c : Nat) => Lib.run_convert_bytes_const (P := Try.prog) w 27 5 C n c Try.underlying27 Try.underlying5
  go_enter Try.func3, Try.ntmps3
  go_wp2_with (go_at_call 7; fail)
  refine (lives_c w).mono ?_
  rintro r w0 ⟨rfl, h0⟩
  have H0 : Hid (Below w.heap.size w w0) := h0
  clear h0
  go_wp2_with (go_at_call 8; fail)
  refine (new_f w _ H0.out).mono ?_
  rintro r w1 ⟨P, C, rfl, h1⟩
  have H1 : Hid (Fresh w w1 P C 64 [] 0 false none 0 0) := h1
  clear h1
  go_wp2_with (go_at_call 9; fail)
  have H2 := H1.out.on (below1 w1 (.cells #[.int .u8 97, .int .u8 98] 5 (2, 3)))
  refine (feed_ok _ [97, 98] 2 _ H2.at_ (by decide) (byt_new w1 [97, 98] _ _) (fun a ha _ => by cases ha; have := H1.out.at_.blk.lt; simp only; omega)).mono ?_
  rintro r w2 ⟨rfl, h2⟩
  obtain ⟨C2, cap2, h2⟩ := H2.feeds h2
  have H3 : Hid (Fresh w w2 P C2 cap2 [97, 98] 2 false none 0 0) := h2
  clear h2 H2 H1
  go_wp2_with (go_at_call 10; fail)
  refine (get_some 97 _ H3.out.at_).mono ?_
  rintro r w3 ⟨rfl, h3, h4⟩
  have H4 : Hid (Fresh w w3 P C2 cap2 [98] 2 false none 0 0) := H3.out.got h3 h4
  clear h3 h4 H3
  go_wp2_with (go_at_call 10; fail)
  refine (get_some 98 _ H4.out.at_).mono ?_
  rintro r w5 ⟨rfl, h3, h4⟩
  have H6 : Hid (Fresh w w5 P C2 cap2 [] 2 false none 0 0) := H4.out.got h3 h4
  clear h3 h4 H4
  go_wp2_with (go_at_call 11; fail)
  refine (end_ok _ H6.out.at_).mono ?_
  rintro r w6 ⟨rfl, h3, h4⟩
  have H7 : Hid (Fresh w w6 P C2 cap2 [] 2 true none 0 0) := H6.out.ends h3 h4
  clear h3 h4 H6
  go_wp2_with (go_at_call 10; fail)
  refine (get_none _ H7.out.at_).mono ?_
  rintro r w7 ⟨rfl, h4⟩
  have H8 : Hid (Fresh w w7 P C2 cap2 [] 2 true none 0 0) := H7.out.on h4
  clear h4 H7
  simp only [whatN, if_true]
  go_wp2_with (go_at_call 9; fail)
  have H9 := H8.out.on (below1 w7 (.cells #[.int .u8 99] 5 (1, 2)))
  refine (feed_over _ 1 1 _ H9.at_).mono ?_
  rintro r w8 ⟨rfl, rfl⟩
  have H10 : Hid (Fresh w (w7.alloc (.cells #[.int .u8 99] 5 (1, 2))) P C2 cap2 [] 2 true none 0 0) := H9
  clear H9 H8
  generalize w7.alloc (.cells #[.int .u8 99] 5 (1, 2)) = w8 at *
  go_wp2_with (go_at_call 11; fail)
  refine (end_over _ H10.out.at_).mono ?_
  rintro r w9 ⟨rfl, rfl⟩
  go_wp2_with (go_at_call 12; fail)
  refine (used_c _ H10.out.at_).mono ?_
  rintro r w10 ⟨rfl, h4⟩
  have H11 : Hid (Fresh w w10 P C2 cap2 [] 2 true none 0 0) := H10.out.on h4
  clear h4 H10
  simp only [List.length_nil, Nat.sub_zero, Int.cast_ofNat_Int]
  go_wp2_with (go_at_call 13; fail)
  refine (left_c _ H11.out.at_).mono ?_
  rintro r w11 ⟨rfl, h4⟩
  have H12 : Hid (Fresh w w11 P C2 cap2 [] 2 true none 0 0) := H11.out.on h4
  clear h4 H11
  simp only [List.length_nil, Int.cast_ofNat_Int]
  go_wp2_with (go_at_call 14; fail)
  refine (ended_c _ H12.out.at_).mono ?_
  rintro r w12 ⟨rfl, h4⟩
  have H13 : Hid (Fresh w w12 P C2 cap2 [] 2 true none 0 0) := H12.out.on h4
  clear h4 H12
  go_wp2
  go_ret
  exact ⟨rfl, H13.out.below⟩
end Go.Proofs.Ytkjbdjobglnphaa
