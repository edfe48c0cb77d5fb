/-
  Telling literals.
  Telling choices and lists that are made of others.
  Telling constructors that are defined.
  Telling fixities.
  Telling conditions.
  Atoms of every kind.
-/
import Derived.Test.YtndpebkiiemfpaaGreatDoorHTb
namespace Go.Proofs.YtndpebkiiemfpaaGreatDoor
open Go.RowKit Go.Shelf Go.Maps
set_option linter.unusedVariables false
set_option linter.unusedSimpArgs false

set_option maxRecDepth 100000 in
set_option maxHeartbeats 4000000 in
theorem literalPInt_c (n : Nd) (o : Option Addr) (cap : Nat) (hk : n.kind = 36) (w : World) : Calls Tryz.prog 96 #[.agg #[.int .i64 n.kind, .string (bs n.name), .int .i64 n.num, .slice o n.kids.length cap, .int .i64 n.pos]] w fun e w' => e = .returned (.agg #[.int .i64 5, .string ⟨#[]⟩, .int .i64 n.num, .int .i64 0, .int .i64 0, .int .i64 0, .bool false]) ∧ Below w.heap.size w w' := by
  have HN : Hid (∀ X : World, Calls Tryz.prog 90 #[.int .i64 n.num] X fun e w' => e = .returned (.agg #[.int .i64 5, .string ⟨#[]⟩, .int .i64 n.num, .int .i64 0, .int .i64 0, .int .i64 0, .bool false]) ∧ Below X.heap.size X w') := fun X => number_t n.num X
  have hB2 : Hid (∀ o1 o2 : Obj, Below w.heap.size w ((w.alloc o1).alloc o2)) := fun o1 o2 => ((Below.refl _ w).alloc (Nat.le_refl _) _).alloc (by simp) _
  rw [hk]
  go_enter Tryz.func96, Tryz.ntmps96
  go_wp2_with (go_at_call 90; fail)
  refine (HN.out _).mono ?_
  rintro e w1 ⟨rfl, hb1⟩
  have hz := (Blk.new2 w (.cells #[.int .i64 36, .string (bs n.name), .int .i64 n.num, .slice o n.kids.length cap, .int .i64 n.pos] 24) #[.int .i64 0, .string ⟨#[]⟩, .int .i64 0, .int .i64 0, .int .i64 0, .int .i64 0, .bool false] 39).below hb1
  obtain ⟨q0, q1, q2, q3, q4, q5, q6, f0, f1, f2, f3, f4, f5, f6⟩ := hz.all7
  have hl1 := hz.lt
  have HB1 : Hid (Below w.heap.size w w1) := (hB2.out _ _).trans (hb1.mono (by simp; omega))
  clear hb1 hz
  go_wp2
  exact bodyPost_ret (v := .agg #[.int .i64 5, .string ⟨#[]⟩, .int .i64 n.num, .int .i64 0, .int .i64 0, .int .i64 0, .bool false]) (by simp [results, Tryz.results96, go_sem, q0, q1, q2, q3, q4, q5, q6]) rfl ⟨rfl, by repeat (first | (refine Below.setCell ?_ (by simp) _) | exact HB1.out)⟩
set_option maxRecDepth 100000 in
set_option maxHeartbeats 4000000 in
theorem tellPInt {B bl T : Nat} {n : Nd} (hk : n.kind = 36) : TellOK B bl T 47 n [⟨5, [], n.num⟩] 0 := by
  intro ts v c w o cap hn hS hc hl
  obtain ⟨V, hV, hnV, hSV, hfV, hBx, hx1, hx2, hx3, hx4⟩ := boxed hn hS
  have c0 : V.cell? ⟨w.heap.size, 0, none⟩ = some (.int .i64 n.kind) := hBx.cell 0 _ rfl
  have c1 : V.cell? ⟨w.heap.size, 1, none⟩ = some (.string (bs n.name)) := hBx.cell 1 _ rfl
  have c2 : V.cell? ⟨w.heap.size, 2, none⟩ = some (.int .i64 n.num) := hBx.cell 2 _ rfl
  have c3 : V.cell? ⟨w.heap.size, 3, none⟩ = some (.slice o n.kids.length cap) := hBx.cell 3 _ rfl
  have c4 : V.cell? ⟨w.heap.size, 4, none⟩ = some (.int .i64 n.pos) := hBx.cell 4 _ rfl
  have hlV := hBx.lt
  have HF : Hid (TFr T bl w V v v) := hfV
  have HLt : Hid (Calls Tryz.prog 96 #[.agg #[.int .i64 n.kind, .string (bs n.name), .int .i64 n.num, .slice o n.kids.length cap, .int .i64 n.pos]] V fun e w' => e = .returned (.agg #[.int .i64 5, .string ⟨#[]⟩, .int .i64 n.num, .int .i64 0, .int .i64 0, .int .i64 0, .bool false]) ∧ Below V.heap.size V w') := literalPInt_c n o cap hk V
  have HSV : Hid (TSt B bl T c V v ts) := hSV
  have HP : Hid (∀ X : World, TSt B bl T c X v ts → Calls Tryz.prog 85 #[.pointer (some ⟨T, 0, none⟩), .slice (some ⟨X.heap.size, 0, none⟩) 1 1] (X.alloc (.cells #[.int .i64 5, .string ⟨#[]⟩, .int .i64 n.num, .int .i64 0, .int .i64 0, .int .i64 0, .bool false] 39)) fun e W' => e = .returned (.tuple #[]) ∧ ∃ v', TSt B bl T c W' v' (ts ++ [⟨5, [], n.num⟩]) ∧ TFr T bl X W' v v') := fun X hX => put1_c B bl T c ts v 5 ⟨#[]⟩ n.num X hX hl
  rw [hk] at c0 hV HLt ⊢
  clear hn hS hc hl hnV hSV hfV hBx
  go_enter Tryz.func47, Tryz.ntmps47
  go_wp2_with (go_at_call 96; fail)
  refine HLt.out.mono ?_
  rintro e w1 ⟨rfl, hb1⟩
  have HC : Hid (Calls Tryz.prog 85 #[.pointer (some ⟨T, 0, none⟩), .slice (some ⟨w1.heap.size, 0, none⟩) 1 1] (w1.alloc (.cells #[.int .i64 5, .string ⟨#[]⟩, .int .i64 n.num, .int .i64 0, .int .i64 0, .int .i64 0, .bool false] 39)) fun e W' => e = .returned (.tuple #[]) ∧ ∃ v', TSt B bl T c W' v' (ts ++ [⟨5, [], n.num⟩]) ∧ TFr T bl w1 W' v v') := HP.out w1 (HSV.out.below hb1)
  have HF2 : Hid (TFr T bl w w1 v v) := HF.out.trans (tfr_below hb1 v)
  clear hb1 HLt HP HF
  have HF := HF2
  clear HF2
  go_wp2_with (go_at_call 85; fail)
  refine HC.out.mono ?_
  rintro e w3 ⟨rfl, v', h3, f3⟩
  have H3 : Hid (TSt B bl T (c + 0) w3 v' (ts ++ [⟨5, [], n.num⟩])) := h3
  have F3 : Hid (TFr T bl w w3 v v') := HF.out.trans f3
  clear h3 f3
  go_wp2
  first
    | (go_end0; exact ⟨rfl, v', H3.out, F3.out⟩)
    | exact bodyPost_ret (v := .tuple #[]) (by simp [results, Tryz.results47, go_sem]) rfl ⟨rfl, v', H3.out, F3.out⟩

set_option maxRecDepth 100000 in
set_option maxHeartbeats 4000000 in
theorem literalChar_c (n : Nd) (o : Option Addr) (cap : Nat) (hk : n.kind = 14) (w : World) : Calls Tryz.prog 96 #[.agg #[.int .i64 n.kind, .string (bs n.name), .int .i64 n.num, .slice o n.kids.length cap, .int .i64 n.pos]] w fun e w' => e = .returned (.agg #[.int .i64 6, .string ⟨#[]⟩, .int .i64 n.num, .int .i64 0, .int .i64 0, .int .i64 0, .bool false]) ∧ Below w.heap.size w w' := by
  have hB2 : Hid (∀ o1 o2 : Obj, Below w.heap.size w ((w.alloc o1).alloc o2)) := fun o1 o2 => ((Below.refl _ w).alloc (Nat.le_refl _) _).alloc (by simp) _
  rw [hk]
  clear hk
  go_enter Tryz.func96, Tryz.ntmps96
  go_wp2
  exact bodyPost_ret (v := .agg #[.int .i64 6, .string ⟨#[]⟩, .int .i64 n.num, .int .i64 0, .int .i64 0, .int .i64 0, .bool false]) (by simp [results, Tryz.results96, go_sem]) rfl ⟨rfl, by repeat (first | (refine Below.setCell ?_ (by simp) _) | exact hB2.out _ _)⟩
set_option maxRecDepth 100000 in
set_option maxHeartbeats 4000000 in
theorem tellChar {B bl T : Nat} {n : Nd} (hk : n.kind = 14) : TellOK B bl T 46 n [⟨6, [], n.num⟩] 0 := by
  intro ts v c w o cap hn hS hc hl
  obtain ⟨V, hV, hnV, hSV, hfV, hBx, hx1, hx2, hx3, hx4⟩ := boxed hn hS
  have c0 : V.cell? ⟨w.heap.size, 0, none⟩ = some (.int .i64 n.kind) := hBx.cell 0 _ rfl
  have c1 : V.cell? ⟨w.heap.size, 1, none⟩ = some (.string (bs n.name)) := hBx.cell 1 _ rfl
  have c2 : V.cell? ⟨w.heap.size, 2, none⟩ = some (.int .i64 n.num) := hBx.cell 2 _ rfl
  have c3 : V.cell? ⟨w.heap.size, 3, none⟩ = some (.slice o n.kids.length cap) := hBx.cell 3 _ rfl
  have c4 : V.cell? ⟨w.heap.size, 4, none⟩ = some (.int .i64 n.pos) := hBx.cell 4 _ rfl
  have hlV := hBx.lt
  have HF : Hid (TFr T bl w V v v) := hfV
  have HLt : Hid (Calls Tryz.prog 96 #[.agg #[.int .i64 n.kind, .string (bs n.name), .int .i64 n.num, .slice o n.kids.length cap, .int .i64 n.pos]] V fun e w' => e = .returned (.agg #[.int .i64 6, .string ⟨#[]⟩, .int .i64 n.num, .int .i64 0, .int .i64 0, .int .i64 0, .bool false]) ∧ Below V.heap.size V w') := literalChar_c n o cap hk V
  have HSV : Hid (TSt B bl T c V v ts) := hSV
  have HP : Hid (∀ X : World, TSt B bl T c X v ts → Calls Tryz.prog 85 #[.pointer (some ⟨T, 0, none⟩), .slice (some ⟨X.heap.size, 0, none⟩) 1 1] (X.alloc (.cells #[.int .i64 6, .string ⟨#[]⟩, .int .i64 n.num, .int .i64 0, .int .i64 0, .int .i64 0, .bool false] 39)) fun e W' => e = .returned (.tuple #[]) ∧ ∃ v', TSt B bl T c W' v' (ts ++ [⟨6, [], n.num⟩]) ∧ TFr T bl X W' v v') := fun X hX => put1_c B bl T c ts v 6 ⟨#[]⟩ n.num X hX hl
  rw [hk] at c0 hV HLt ⊢
  clear hn hS hc hl hnV hSV hfV hBx
  go_enter Tryz.func46, Tryz.ntmps46
  go_wp2_with (go_at_call 96; fail)
  refine HLt.out.mono ?_
  rintro e w1 ⟨rfl, hb1⟩
  have HC : Hid (Calls Tryz.prog 85 #[.pointer (some ⟨T, 0, none⟩), .slice (some ⟨w1.heap.size, 0, none⟩) 1 1] (w1.alloc (.cells #[.int .i64 6, .string ⟨#[]⟩, .int .i64 n.num, .int .i64 0, .int .i64 0, .int .i64 0, .bool false] 39)) fun e W' => e = .returned (.tuple #[]) ∧ ∃ v', TSt B bl T c W' v' (ts ++ [⟨6, [], n.num⟩]) ∧ TFr T bl w1 W' v v') := HP.out w1 (HSV.out.below hb1)
  have HF2 : Hid (TFr T bl w w1 v v) := HF.out.trans (tfr_below hb1 v)
  clear hb1 HLt HP HF
  have HF := HF2
  clear HF2
  go_wp2_with (go_at_call 85; fail)
  refine HC.out.mono ?_
  rintro e w3 ⟨rfl, v', h3, f3⟩
  have H3 : Hid (TSt B bl T (c + 0) w3 v' (ts ++ [⟨6, [], n.num⟩])) := h3
  have F3 : Hid (TFr T bl w w3 v v') := HF.out.trans f3
  clear h3 f3
  go_wp2
  first
    | (go_end0; exact ⟨rfl, v', H3.out, F3.out⟩)
    | exact bodyPost_ret (v := .tuple #[]) (by simp [results, Tryz.results46, go_sem]) rfl ⟨rfl, v', H3.out, F3.out⟩

set_option maxRecDepth 100000 in
set_option maxHeartbeats 4000000 in
theorem literalPChar_c (n : Nd) (o : Option Addr) (cap : Nat) (hk : n.kind = 37) (w : World) : Calls Tryz.prog 96 #[.agg #[.int .i64 n.kind, .string (bs n.name), .int .i64 n.num, .slice o n.kids.length cap, .int .i64 n.pos]] w fun e w' => e = .returned (.agg #[.int .i64 6, .string ⟨#[]⟩, .int .i64 n.num, .int .i64 0, .int .i64 0, .int .i64 0, .bool false]) ∧ Below w.heap.size w w' := by
  have hB2 : Hid (∀ o1 o2 : Obj, Below w.heap.size w ((w.alloc o1).alloc o2)) := fun o1 o2 => ((Below.refl _ w).alloc (Nat.le_refl _) _).alloc (by simp) _
  rw [hk]
  clear hk
  go_enter Tryz.func96, Tryz.ntmps96
  go_wp2
  exact bodyPost_ret (v := .agg #[.int .i64 6, .string ⟨#[]⟩, .int .i64 n.num, .int .i64 0, .int .i64 0, .int .i64 0, .bool false]) (by simp [results, Tryz.results96, go_sem]) rfl ⟨rfl, by repeat (first | (refine Below.setCell ?_ (by simp) _) | exact hB2.out _ _)⟩
set_option maxRecDepth 100000 in
set_option maxHeartbeats 4000000 in
theorem tellPChar {B bl T : Nat} {n : Nd} (hk : n.kind = 37) : TellOK B bl T 47 n [⟨6, [], n.num⟩] 0 := by
  intro ts v c w o cap hn hS hc hl
  obtain ⟨V, hV, hnV, hSV, hfV, hBx, hx1, hx2, hx3, hx4⟩ := boxed hn hS
  have c0 : V.cell? ⟨w.heap.size, 0, none⟩ = some (.int .i64 n.kind) := hBx.cell 0 _ rfl
  have c1 : V.cell? ⟨w.heap.size, 1, none⟩ = some (.string (bs n.name)) := hBx.cell 1 _ rfl
  have c2 : V.cell? ⟨w.heap.size, 2, none⟩ = some (.int .i64 n.num) := hBx.cell 2 _ rfl
  have c3 : V.cell? ⟨w.heap.size, 3, none⟩ = some (.slice o n.kids.length cap) := hBx.cell 3 _ rfl
  have c4 : V.cell? ⟨w.heap.size, 4, none⟩ = some (.int .i64 n.pos) := hBx.cell 4 _ rfl
  have hlV := hBx.lt
  have HF : Hid (TFr T bl w V v v) := hfV
  have HLt : Hid (Calls Tryz.prog 96 #[.agg #[.int .i64 n.kind, .string (bs n.name), .int .i64 n.num, .slice o n.kids.length cap, .int .i64 n.pos]] V fun e w' => e = .returned (.agg #[.int .i64 6, .string ⟨#[]⟩, .int .i64 n.num, .int .i64 0, .int .i64 0, .int .i64 0, .bool false]) ∧ Below V.heap.size V w') := literalPChar_c n o cap hk V
  have HSV : Hid (TSt B bl T c V v ts) := hSV
  have HP : Hid (∀ X : World, TSt B bl T c X v ts → Calls Tryz.prog 85 #[.pointer (some ⟨T, 0, none⟩), .slice (some ⟨X.heap.size, 0, none⟩) 1 1] (X.alloc (.cells #[.int .i64 6, .string ⟨#[]⟩, .int .i64 n.num, .int .i64 0, .int .i64 0, .int .i64 0, .bool false] 39)) fun e W' => e = .returned (.tuple #[]) ∧ ∃ v', TSt B bl T c W' v' (ts ++ [⟨6, [], n.num⟩]) ∧ TFr T bl X W' v v') := fun X hX => put1_c B bl T c ts v 6 ⟨#[]⟩ n.num X hX hl
  rw [hk] at c0 hV HLt ⊢
  clear hn hS hc hl hnV hSV hfV hBx
  go_enter Tryz.func47, Tryz.ntmps47
  go_wp2_with (go_at_call 96; fail)
  refine HLt.out.mono ?_
  rintro e w1 ⟨rfl, hb1⟩
  have HC : Hid (Calls Tryz.prog 85 #[.pointer (some ⟨T, 0, none⟩), .slice (some ⟨w1.heap.size, 0, none⟩) 1 1] (w1.alloc (.cells #[.int .i64 6, .string ⟨#[]⟩, .int .i64 n.num, .int .i64 0, .int .i64 0, .int .i64 0, .bool false] 39)) fun e W' => e = .returned (.tuple #[]) ∧ ∃ v', TSt B bl T c W' v' (ts ++ [⟨6, [], n.num⟩]) ∧ TFr T bl w1 W' v v') := HP.out w1 (HSV.out.below hb1)
  have HF2 : Hid (TFr T bl w w1 v v) := HF.out.trans (tfr_below hb1 v)
  clear hb1 HLt HP HF
  have HF := HF2
  clear HF2
  go_wp2_with (go_at_call 85; fail)
  refine HC.out.mono ?_
  rintro e w3 ⟨rfl, v', h3, f3⟩
  have H3 : Hid (TSt B bl T (c + 0) w3 v' (ts ++ [⟨6, [], n.num⟩])) := h3
  have F3 : Hid (TFr T bl w w3 v v') := HF.out.trans f3
  clear h3 f3
  go_wp2
  first
    | (go_end0; exact ⟨rfl, v', H3.out, F3.out⟩)
    | exact bodyPost_ret (v := .tuple #[]) (by simp [results, Tryz.results47, go_sem]) rfl ⟨rfl, v', H3.out, F3.out⟩

set_option maxRecDepth 100000 in
set_option maxHeartbeats 4000000 in
theorem literalStr_c (n : Nd) (o : Option Addr) (cap : Nat) (hk : n.kind = 15) (w : World) : Calls Tryz.prog 96 #[.agg #[.int .i64 n.kind, .string (bs n.name), .int .i64 n.num, .slice o n.kids.length cap, .int .i64 n.pos]] w fun e w' => e = .returned (.agg #[.int .i64 7, .string (bs n.name), .int .i64 0, .int .i64 0, .int .i64 0, .int .i64 0, .bool false]) ∧ Below w.heap.size w w' := by
  have hB2 : Hid (∀ o1 o2 : Obj, Below w.heap.size w ((w.alloc o1).alloc o2)) := fun o1 o2 => ((Below.refl _ w).alloc (Nat.le_refl _) _).alloc (by simp) _
  rw [hk]
  clear hk
  go_enter Tryz.func96, Tryz.ntmps96
  go_wp2
  exact bodyPost_ret (v := .agg #[.int .i64 7, .string (bs n.name), .int .i64 0, .int .i64 0, .int .i64 0, .int .i64 0, .bool false]) (by simp [results, Tryz.results96, go_sem]) rfl ⟨rfl, by repeat (first | (refine Below.setCell ?_ (by simp) _) | exact hB2.out _ _)⟩
set_option maxRecDepth 100000 in
set_option maxHeartbeats 4000000 in
theorem tellStr {B bl T : Nat} {n : Nd} (hk : n.kind = 15) : TellOK B bl T 46 n [⟨7, n.name, 0⟩] 0 := by
  intro ts v c w o cap hn hS hc hl
  obtain ⟨V, hV, hnV, hSV, hfV, hBx, hx1, hx2, hx3, hx4⟩ := boxed hn hS
  have c0 : V.cell? ⟨w.heap.size, 0, none⟩ = some (.int .i64 n.kind) := hBx.cell 0 _ rfl
  have c1 : V.cell? ⟨w.heap.size, 1, none⟩ = some (.string (bs n.name)) := hBx.cell 1 _ rfl
  have c2 : V.cell? ⟨w.heap.size, 2, none⟩ = some (.int .i64 n.num) := hBx.cell 2 _ rfl
  have c3 : V.cell? ⟨w.heap.size, 3, none⟩ = some (.slice o n.kids.length cap) := hBx.cell 3 _ rfl
  have c4 : V.cell? ⟨w.heap.size, 4, none⟩ = some (.int .i64 n.pos) := hBx.cell 4 _ rfl
  have hlV := hBx.lt
  have HF : Hid (TFr T bl w V v v) := hfV
  have HLt : Hid (Calls Tryz.prog 96 #[.agg #[.int .i64 n.kind, .string (bs n.name), .int .i64 n.num, .slice o n.kids.length cap, .int .i64 n.pos]] V fun e w' => e = .returned (.agg #[.int .i64 7, .string (bs n.name), .int .i64 0, .int .i64 0, .int .i64 0, .int .i64 0, .bool false]) ∧ Below V.heap.size V w') := literalStr_c n o cap hk V
  have HSV : Hid (TSt B bl T c V v ts) := hSV
  have HP : Hid (∀ X : World, TSt B bl T c X v ts → Calls Tryz.prog 85 #[.pointer (some ⟨T, 0, none⟩), .slice (some ⟨X.heap.size, 0, none⟩) 1 1] (X.alloc (.cells #[.int .i64 7, .string (bs n.name), .int .i64 0, .int .i64 0, .int .i64 0, .int .i64 0, .bool false] 39)) fun e W' => e = .returned (.tuple #[]) ∧ ∃ v', TSt B bl T c W' v' (ts ++ [⟨7, n.name, 0⟩]) ∧ TFr T bl X W' v v') := fun X hX => by
    have h := put1_c B bl T c ts v 7 (bs n.name) 0 X hX hl
    have e : (bs n.name).data.toList = n.name := by simp [bs]
    rw [e] at h
    exact h
  rw [hk] at c0 hV HLt ⊢
  clear hn hS hc hl hnV hSV hfV hBx
  go_enter Tryz.func46, Tryz.ntmps46
  go_wp2_with (go_at_call 96; fail)
  refine HLt.out.mono ?_
  rintro e w1 ⟨rfl, hb1⟩
  have HC : Hid (Calls Tryz.prog 85 #[.pointer (some ⟨T, 0, none⟩), .slice (some ⟨w1.heap.size, 0, none⟩) 1 1] (w1.alloc (.cells #[.int .i64 7, .string (bs n.name), .int .i64 0, .int .i64 0, .int .i64 0, .int .i64 0, .bool false] 39)) fun e W' => e = .returned (.tuple #[]) ∧ ∃ v', TSt B bl T c W' v' (ts ++ [⟨7, n.name, 0⟩]) ∧ TFr T bl w1 W' v v') := HP.out w1 (HSV.out.below hb1)
  have HF2 : Hid (TFr T bl w w1 v v) := HF.out.trans (tfr_below hb1 v)
  clear hb1 HLt HP HF
  have HF := HF2
  clear HF2
  go_wp2_with (go_at_call 85; fail)
  refine HC.out.mono ?_
  rintro e w3 ⟨rfl, v', h3, f3⟩
  have H3 : Hid (TSt B bl T (c + 0) w3 v' (ts ++ [⟨7, n.name, 0⟩])) := h3
  have F3 : Hid (TFr T bl w w3 v v') := HF.out.trans f3
  clear h3 f3
  go_wp2
  first
    | (go_end0; exact ⟨rfl, v', H3.out, F3.out⟩)
    | exact bodyPost_ret (v := .tuple #[]) (by simp [results, Tryz.results46, go_sem]) rfl ⟨rfl, v', H3.out, F3.out⟩

set_option maxRecDepth 100000 in
set_option maxHeartbeats 4000000 in
theorem literalPStr_c (n : Nd) (o : Option Addr) (cap : Nat) (hk : n.kind = 38) (w : World) : Calls Tryz.prog 96 #[.agg #[.int .i64 n.kind, .string (bs n.name), .int .i64 n.num, .slice o n.kids.length cap, .int .i64 n.pos]] w fun e w' => e = .returned (.agg #[.int .i64 7, .string (bs n.name), .int .i64 0, .int .i64 0, .int .i64 0, .int .i64 0, .bool false]) ∧ Below w.heap.size w w' := by
  have hB2 : Hid (∀ o1 o2 : Obj, Below w.heap.size w ((w.alloc o1).alloc o2)) := fun o1 o2 => ((Below.refl _ w).alloc (Nat.le_refl _) _).alloc (by simp) _
  rw [hk]
  clear hk
  go_enter Tryz.func96, Tryz.ntmps96
  go_wp2
  exact bodyPost_ret (v := .agg #[.int .i64 7, .string (bs n.name), .int .i64 0, .int .i64 0, .int .i64 0, .int .i64 0, .bool false]) (by simp [results, Tryz.results96, go_sem]) rfl ⟨rfl, by repeat (first | (refine Below.setCell ?_ (by simp) _) | exact hB2.out _ _)⟩
set_option maxRecDepth 100000 in
set_option maxHeartbeats 4000000 in
theorem tellPStr {B bl T : Nat} {n : Nd} (hk : n.kind = 38) : TellOK B bl T 47 n [⟨7, n.name, 0⟩] 0 := by
  intro ts v c w o cap hn hS hc hl
  obtain ⟨V, hV, hnV, hSV, hfV, hBx, hx1, hx2, hx3, hx4⟩ := boxed hn hS
  have c0 : V.cell? ⟨w.heap.size, 0, none⟩ = some (.int .i64 n.kind) := hBx.cell 0 _ rfl
  have c1 : V.cell? ⟨w.heap.size, 1, none⟩ = some (.string (bs n.name)) := hBx.cell 1 _ rfl
  have c2 : V.cell? ⟨w.heap.size, 2, none⟩ = some (.int .i64 n.num) := hBx.cell 2 _ rfl
  have c3 : V.cell? ⟨w.heap.size, 3, none⟩ = some (.slice o n.kids.length cap) := hBx.cell 3 _ rfl
  have c4 : V.cell? ⟨w.heap.size, 4, none⟩ = some (.int .i64 n.pos) := hBx.cell 4 _ rfl
  have hlV := hBx.lt
  have HF : Hid (TFr T bl w V v v) := hfV
  have HLt : Hid (Calls Tryz.prog 96 #[.agg #[.int .i64 n.kind, .string (bs n.name), .int .i64 n.num, .slice o n.kids.length cap, .int .i64 n.pos]] V fun e w' => e = .returned (.agg #[.int .i64 7, .string (bs n.name), .int .i64 0, .int .i64 0, .int .i64 0, .int .i64 0, .bool false]) ∧ Below V.heap.size V w') := literalPStr_c n o cap hk V
  have HSV : Hid (TSt B bl T c V v ts) := hSV
  have HP : Hid (∀ X : World, TSt B bl T c X v ts → Calls Tryz.prog 85 #[.pointer (some ⟨T, 0, none⟩), .slice (some ⟨X.heap.size, 0, none⟩) 1 1] (X.alloc (.cells #[.int .i64 7, .string (bs n.name), .int .i64 0, .int .i64 0, .int .i64 0, .int .i64 0, .bool false] 39)) fun e W' => e = .returned (.tuple #[]) ∧ ∃ v', TSt B bl T c W' v' (ts ++ [⟨7, n.name, 0⟩]) ∧ TFr T bl X W' v v') := fun X hX => by
    have h := put1_c B bl T c ts v 7 (bs n.name) 0 X hX hl
    have e : (bs n.name).data.toList = n.name := by simp [bs]
    rw [e] at h
    exact h
  rw [hk] at c0 hV HLt ⊢
  clear hn hS hc hl hnV hSV hfV hBx
  go_enter Tryz.func47, Tryz.ntmps47
  go_wp2_with (go_at_call 96; fail)
  refine HLt.out.mono ?_
  rintro e w1 ⟨rfl, hb1⟩
  have HC : Hid (Calls Tryz.prog 85 #[.pointer (some ⟨T, 0, none⟩), .slice (some ⟨w1.heap.size, 0, none⟩) 1 1] (w1.alloc (.cells #[.int .i64 7, .string (bs n.name), .int .i64 0, .int .i64 0, .int .i64 0, .int .i64 0, .bool false] 39)) fun e W' => e = .returned (.tuple #[]) ∧ ∃ v', TSt B bl T c W' v' (ts ++ [⟨7, n.name, 0⟩]) ∧ TFr T bl w1 W' v v') := HP.out w1 (HSV.out.below hb1)
  have HF2 : Hid (TFr T bl w w1 v v) := HF.out.trans (tfr_below hb1 v)
  clear hb1 HLt HP HF
  have HF := HF2
  clear HF2
  go_wp2_with (go_at_call 85; fail)
  refine HC.out.mono ?_
  rintro e w3 ⟨rfl, v', h3, f3⟩
  have H3 : Hid (TSt B bl T (c + 0) w3 v' (ts ++ [⟨7, n.name, 0⟩])) := h3
  have F3 : Hid (TFr T bl w w3 v v') := HF.out.trans f3
  clear h3 f3
  go_wp2
  first
    | (go_end0; exact ⟨rfl, v', H3.out, F3.out⟩)
    | exact bodyPost_ret (v := .tuple #[]) (by simp [results, Tryz.results47, go_sem]) rfl ⟨rfl, v', H3.out, F3.out⟩

end Go.Proofs.YtndpebkiiemfpaaGreatDoor

namespace Go.Proofs.YtndpebkiiemfpaaGreatDoor
open Go.RowKit Go.Shelf Go.Maps
set_option linter.unusedVariables false
set_option linter.unusedSimpArgs false

set_option maxRecDepth 100000 in
set_option maxHeartbeats 4000000 in
theorem conCase {B bl T : Nat} {n : Nd} (hk : n.kind = 22) {a : Nd} {rest : List Nd} (hkids : n.kids = a :: rest) {o1 : List TkT} {u1 : Nat} (h1 : TellOK B bl T 23 a o1 u1) {o3 : List TkT} {u3 : Nat} (h3 : ListOK B bl T 84 rest o3 u3) : TellOK B bl T 100 n ([wdT ⟨#[99, 97, 115, 101]⟩] ++ o1 ++ [wdT ⟨#[111, 102]⟩] ++ o3) (u1 + u3) := by
  intro ts v c w o cap hn hS hc hl
  obtain ⟨V, hV, hnV, hSV, hfV, hBx, hx1, hx2, hx3, hx4⟩ := boxed hn hS
  have c0 : V.cell? ⟨w.heap.size, 0, none⟩ = some (.int .i64 n.kind) := hBx.cell 0 _ rfl
  have c1 : V.cell? ⟨w.heap.size, 1, none⟩ = some (.string (bs n.name)) := hBx.cell 1 _ rfl
  have c2 : V.cell? ⟨w.heap.size, 2, none⟩ = some (.int .i64 n.num) := hBx.cell 2 _ rfl
  have c3 : V.cell? ⟨w.heap.size, 3, none⟩ = some (.slice o n.kids.length cap) := hBx.cell 3 _ rfl
  have c4 : V.cell? ⟨w.heap.size, 4, none⟩ = some (.int .i64 n.pos) := hBx.cell 4 _ rfl
  have hlV := hBx.lt
  have HF : Hid (TFr T bl w V v v) := hfV
  have HC : Hid (c + (u1 + u3) ≤ 4611686018427387904) := hc
  have Hl : Hid (ts.length + (1 + o1.length + 1 + o3.length) ≤ 1000000000) := by (try simp only [List.length_append, List.length_cons, List.length_nil] at hl); show _ ≤ _; omega
  have hcap1 := hnV.2.1
  have hcap2 := hnV.2.2.1
  obtain ⟨g, off, rfl, hg, hKA⟩ := hnV.1.at 0 (by rw [hkids]; simp)
  have hgV : g < V.heap.size := by have := hSV.lt; have := hSV.1; omega
  have Hg : Hid (g < B) := hg
  have HgV : Hid (g < V.heap.size) := hgV
  obtain ⟨m, hm⟩ : ∃ m, rest.length = m := ⟨_, rfl⟩
  have hLn : n.kids.length = m + 1 := by rw [hkids, List.length_cons, hm]
  have hKA2 : KidsAt V B (a :: rest) g off := by rw [← hkids]; exact hKA
  simp only [KidsAt] at hKA2
  have HNa : Hid (NdAt V B a g off) := hKA2.1
  have HKa : Hid (KIn V B (some ⟨g, off, none⟩) (a :: rest)) := .inr ⟨g, off, rfl, hg, by rw [← hkids]; exact hKA⟩
  have Hm : Hid (rest.length = m) := hm
  have Hcap : Hid (m + 1 ≤ cap ∧ cap ≤ 9223372036854775807) := ⟨by rw [← hLn]; exact hcap1, hcap2⟩
  obtain ⟨o2s, hsl0, hkr0⟩ := slice_from (some ⟨g, off, none⟩) (a :: rest) cap 1 (by simp) (by rw [← hkids]; exact hcap1)
  have hsl : ∀ w : World, (Instr.slice 22 (.slice (some ⟨g, off, none⟩) (m + 1) cap) (some (.int .i64 1)) none none).run Tryz.prog w = .ok (.slice o2s m (cap - 1)) w := by
    intro w
    have h := hsl0 w
    simp only [List.length_cons, hm] at h
    exact h
  have HKr : Hid (∀ W : World, KIn W B (some ⟨g, off, none⟩) (a :: rest) → KIn W B o2s rest) := fun W h => hkr0 W B h
  clear hsl0 hkr0
  rw [hLn] at c3 hV hBx ⊢
  clear hm hLn hcap1 hcap2 hKA2
  clear hkids hKA hg
  have S0 : Hid (TSt B bl T (c + 0) V v ts) := hSV
  have HSV : Hid (TSt B bl T c V v ts) := hSV
  have F0 : Hid (TFr T bl V V v v) := TFr.refl _ _ _ _
  have HBx : Hid (Blk V w.heap.size #[.int .i64 n.kind, .string (bs n.name), .int .i64 n.num, .slice (some ⟨g, off, none⟩) (m + 1) cap, .int .i64 n.pos] 24) := hBx
  have Hx : Hid (w.heap.size ≠ T ∧ w.heap.size ≠ bl ∧ v.ownBlock ≠ some w.heap.size) := ⟨hx1, hx2, hx3⟩
  have HNV : Hid (NdIn V B n (some ⟨g, off, none⟩) cap) := hnV
  have HH1 : Hid (TellOK B bl T 23 a o1 u1) := h1
  clear h1
  have HH3 : Hid (ListOK B bl T 84 rest o3 u3) := h3
  clear h3
  have HMword : Hid (∀ (s : ByteArray) (X : World), Calls Tryz.prog 86 #[.string s] X fun e w' => e = .returned (.agg #[.int .i64 9, .string s, .int .i64 0, .int .i64 0, .int .i64 0, .int .i64 0, .bool false]) ∧ Below X.heap.size X w') := word_c
  have Hk : Hid (n.kind = 22) := hk
  rw [hk] at c0 hV ⊢
  clear hn hS hc hl hnV hSV hfV hBx hx1 hx2 hx3 hk
  go_enter Tryz.func100, Tryz.ntmps100
  go_wp2_with (go_at_call 86; fail)
  refine (HMword.out _ _).mono ?_
  rintro e wm1 ⟨rfl, hbm1⟩
  have Sm1 : Hid (TSt B bl T (c + 0) wm1 v (ts)) := S0.out.below hbm1
  have Fm1 : Hid (TFr T bl V wm1 v v) := F0.out.trans (tfr_below hbm1 v)
  have HP1 : Hid (Calls Tryz.prog 85 #[.pointer (some ⟨T, 0, none⟩), .slice (some ⟨wm1.heap.size, 0, none⟩) 1 1] (wm1.alloc (.cells #[.int .i64 9, .string ⟨#[99, 97, 115, 101]⟩, .int .i64 0, .int .i64 0, .int .i64 0, .int .i64 0, .bool false] 39)) fun e W' => e = .returned (.tuple #[]) ∧ ∃ v'', TSt B bl T (c + 0) W' v'' ((ts) ++ [wdT ⟨#[99, 97, 115, 101]⟩]) ∧ TFr T bl wm1 W' v v'') := put1_c B bl T (c + 0) _ v 9 ⟨#[99, 97, 115, 101]⟩ 0 wm1 Sm1.out (by have := Hl.out; omega)
  clear hbm1
  go_wp2_with (go_at_call 85; fail)
  refine HP1.out.mono ?_
  rintro e w1 ⟨rfl, v1, s1, f1⟩
  have S1 : Hid (TSt B bl T (c + 0) w1 v1 ((ts) ++ [wdT ⟨#[99, 97, 115, 101]⟩])) := s1
  have F1 : Hid (TFr T bl V w1 v v1) := Fm1.out.trans f1
  clear s1 f1 HP1 Sm1 Fm1 S0 F0
  clear c0 c1 c2 c3 c4 hlV
  have hBB2 : Below B V w1 := F1.out.below HSV.out
  obtain ⟨o_a, cap_a, k0, k1, k2, k3, k4, hNk⟩ := kid_in (NdAt.below hBB2 a g (off) Hg.out HNa.out)
  have HC2 : Hid (Calls Tryz.prog 23 #[.pointer (some ⟨T, 0, none⟩), .agg #[.int .i64 a.kind, .string (bs a.name), .int .i64 a.num, .slice o_a a.kids.length cap_a, .int .i64 a.pos]] w1 fun e W' => e = .returned (.tuple #[]) ∧ ∃ v', TSt B bl T (c + 0 + u1) W' v' (((ts) ++ [wdT ⟨#[99, 97, 115, 101]⟩]) ++ o1) ∧ TFr T bl w1 W' v1 v') := HH1.out ((ts) ++ [wdT ⟨#[99, 97, 115, 101]⟩]) v1 (c + 0) w1 o_a cap_a hNk S1.out (by have := HC.out; omega) (by have := Hl.out; simp only [List.length_append, List.length_cons, List.length_nil]; omega)
  have hgr : g < w1.heap.size := Nat.lt_of_lt_of_le HgV.out hBB2.size
  clear hBB2 hNk
  go_wp2_with (go_at_call 23; fail)
  refine HC2.out.mono ?_
  rintro e w2 ⟨rfl, v2, s2, f2⟩
  have S2 : Hid (TSt B bl T (c + 0 + u1) w2 v2 (((ts) ++ [wdT ⟨#[99, 97, 115, 101]⟩]) ++ o1)) := s2
  have F2 : Hid (TFr T bl V w2 v v2) := F1.out.trans f2
  clear s2 f2 HC2 S1 F1 k0 k1 k2 k3 k4 hgr
  go_wp2_with (go_at_call 86; fail)
  refine (HMword.out _ _).mono ?_
  rintro e wm3 ⟨rfl, hbm3⟩
  have Sm3 : Hid (TSt B bl T (c + 0 + u1) wm3 v2 (((ts) ++ [wdT ⟨#[99, 97, 115, 101]⟩]) ++ o1)) := S2.out.below hbm3
  have Fm3 : Hid (TFr T bl V wm3 v v2) := F2.out.trans (tfr_below hbm3 v2)
  have HP3 : Hid (Calls Tryz.prog 85 #[.pointer (some ⟨T, 0, none⟩), .slice (some ⟨wm3.heap.size, 0, none⟩) 1 1] (wm3.alloc (.cells #[.int .i64 9, .string ⟨#[111, 102]⟩, .int .i64 0, .int .i64 0, .int .i64 0, .int .i64 0, .bool false] 39)) fun e W' => e = .returned (.tuple #[]) ∧ ∃ v'', TSt B bl T (c + 0 + u1) W' v'' ((((ts) ++ [wdT ⟨#[99, 97, 115, 101]⟩]) ++ o1) ++ [wdT ⟨#[111, 102]⟩]) ∧ TFr T bl wm3 W' v2 v'') := put1_c B bl T (c + 0 + u1) _ v2 9 ⟨#[111, 102]⟩ 0 wm3 Sm3.out (by have := Hl.out; simp only [List.length_append, List.length_cons, List.length_nil]; omega)
  clear hbm3
  go_wp2_with (go_at_call 85; fail)
  refine HP3.out.mono ?_
  rintro e w3 ⟨rfl, v3, s3, f3⟩
  have S3 : Hid (TSt B bl T (c + 0 + u1) w3 v3 ((((ts) ++ [wdT ⟨#[99, 97, 115, 101]⟩]) ++ o1) ++ [wdT ⟨#[111, 102]⟩])) := s3
  have F3 : Hid (TFr T bl V w3 v v3) := Fm3.out.trans f3
  clear s3 f3 HP3 Sm3 Fm3 S2 F2
  have hBB4 : Below B V w3 := F3.out.below HSV.out
  have HC4 : Hid (Calls Tryz.prog 84 #[.pointer (some ⟨T, 0, none⟩), .slice o2s m (cap - 1)] w3 fun e W' => e = .returned (.tuple #[]) ∧ ∃ v', TSt B bl T (c + 0 + u1 + u3) W' v' (((((ts) ++ [wdT ⟨#[99, 97, 115, 101]⟩]) ++ o1) ++ [wdT ⟨#[111, 102]⟩]) ++ o3) ∧ TFr T bl w3 W' v3 v') := by
    have hh := HH3.out ((((ts) ++ [wdT ⟨#[99, 97, 115, 101]⟩]) ++ o1) ++ [wdT ⟨#[111, 102]⟩]) v3 (c + 0 + u1) w3 o2s (cap - 1) (HKr.out _ (HKa.out.below hBB4)) (by rw [Hm.out]; have := Hcap.out; omega) (by have := Hcap.out; omega) S3.out (by have := HC.out; omega) (by have := Hl.out; simp only [List.length_append, List.length_cons, List.length_nil]; omega)
    rw [Hm.out] at hh
    exact hh
  clear hBB4
  go_wp2_with (go_at_call 84; fail)
  refine HC4.out.mono ?_
  rintro e w4 ⟨rfl, v4, s4, f4⟩
  have S4 : Hid (TSt B bl T (c + 0 + u1 + u3) w4 v4 (((((ts) ++ [wdT ⟨#[99, 97, 115, 101]⟩]) ++ o1) ++ [wdT ⟨#[111, 102]⟩]) ++ o3)) := s4
  have F4 : Hid (TFr T bl V w4 v v4) := F3.out.trans f4
  clear s4 f4 HC4 S3 F3 
  have H3 : TSt B bl T (c + (u1 + u3)) w4 v4 (ts ++ ([wdT ⟨#[99, 97, 115, 101]⟩] ++ o1 ++ [wdT ⟨#[111, 102]⟩] ++ o3)) := by
    have h := S4.out
    simp only [Nat.add_zero, Nat.add_assoc, List.append_assoc] at h ⊢
    exact h
  have H3' : Hid (TSt B bl T (c + (u1 + u3)) w4 v4 (ts ++ ([wdT ⟨#[99, 97, 115, 101]⟩] ++ o1 ++ [wdT ⟨#[111, 102]⟩] ++ o3))) := H3
  have FE : Hid (TFr T bl w w4 v v4) := HF.out.trans F4.out
  clear H3 S4 F4
  go_wp2
  first
    | (go_end0; exact ⟨rfl, v4, H3'.out, FE.out⟩)
    | exact bodyPost_ret (v := .tuple #[]) (by simp [results, Tryz.results100, go_sem]) rfl ⟨rfl, v4, H3'.out, FE.out⟩
set_option maxRecDepth 100000 in
set_option maxHeartbeats 4000000 in
theorem conComp {B bl T : Nat} {n : Nd} (hk : n.kind = 27) {a : Nd} {rest : List Nd} (hkids : n.kids = a :: rest) {o1 : List TkT} {u1 : Nat} (h1 : TellOK B bl T 23 a o1 u1) {o3 : List TkT} {u3 : Nat} (h3 : PartOK B bl T rest (coT) o3 u3) : TellOK B bl T 100 n ([mkT ⟨#[91]⟩] ++ o1 ++ [sgT ⟨#[124]⟩] ++ o3 ++ [mkT ⟨#[93]⟩]) (u1 + u3) := by
  intro ts v c w o cap hn hS hc hl
  obtain ⟨V, hV, hnV, hSV, hfV, hBx, hx1, hx2, hx3, hx4⟩ := boxed hn hS
  have c0 : V.cell? ⟨w.heap.size, 0, none⟩ = some (.int .i64 n.kind) := hBx.cell 0 _ rfl
  have c1 : V.cell? ⟨w.heap.size, 1, none⟩ = some (.string (bs n.name)) := hBx.cell 1 _ rfl
  have c2 : V.cell? ⟨w.heap.size, 2, none⟩ = some (.int .i64 n.num) := hBx.cell 2 _ rfl
  have c3 : V.cell? ⟨w.heap.size, 3, none⟩ = some (.slice o n.kids.length cap) := hBx.cell 3 _ rfl
  have c4 : V.cell? ⟨w.heap.size, 4, none⟩ = some (.int .i64 n.pos) := hBx.cell 4 _ rfl
  have hlV := hBx.lt
  have HF : Hid (TFr T bl w V v v) := hfV
  have HC : Hid (c + (u1 + u3) ≤ 4611686018427387904) := hc
  have Hl : Hid (ts.length + (1 + o1.length + 1 + o3.length + 1) ≤ 1000000000) := by (try simp only [List.length_append, List.length_cons, List.length_nil] at hl); show _ ≤ _; omega
  have hcap1 := hnV.2.1
  have hcap2 := hnV.2.2.1
  obtain ⟨g, off, rfl, hg, hKA⟩ := hnV.1.at 0 (by rw [hkids]; simp)
  have hgV : g < V.heap.size := by have := hSV.lt; have := hSV.1; omega
  have Hg : Hid (g < B) := hg
  have HgV : Hid (g < V.heap.size) := hgV
  obtain ⟨m, hm⟩ : ∃ m, rest.length = m := ⟨_, rfl⟩
  have hLn : n.kids.length = m + 1 := by rw [hkids, List.length_cons, hm]
  have hKA2 : KidsAt V B (a :: rest) g off := by rw [← hkids]; exact hKA
  simp only [KidsAt] at hKA2
  have HNa : Hid (NdAt V B a g off) := hKA2.1
  have HKa : Hid (KIn V B (some ⟨g, off, none⟩) (a :: rest)) := .inr ⟨g, off, rfl, hg, by rw [← hkids]; exact hKA⟩
  have Hm : Hid (rest.length = m) := hm
  have Hcap : Hid (m + 1 ≤ cap ∧ cap ≤ 9223372036854775807) := ⟨by rw [← hLn]; exact hcap1, hcap2⟩
  obtain ⟨o2s, hsl0, hkr0⟩ := slice_from (some ⟨g, off, none⟩) (a :: rest) cap 1 (by simp) (by rw [← hkids]; exact hcap1)
  have hsl : ∀ w : World, (Instr.slice 22 (.slice (some ⟨g, off, none⟩) (m + 1) cap) (some (.int .i64 1)) none none).run Tryz.prog w = .ok (.slice o2s m (cap - 1)) w := by
    intro w
    have h := hsl0 w
    simp only [List.length_cons, hm] at h
    exact h
  have HKr : Hid (∀ W : World, KIn W B (some ⟨g, off, none⟩) (a :: rest) → KIn W B o2s rest) := fun W h => hkr0 W B h
  clear hsl0 hkr0
  rw [hLn] at c3 hV hBx ⊢
  clear hm hLn hcap1 hcap2 hKA2
  clear hkids hKA hg
  have S0 : Hid (TSt B bl T (c + 0) V v ts) := hSV
  have HSV : Hid (TSt B bl T c V v ts) := hSV
  have F0 : Hid (TFr T bl V V v v) := TFr.refl _ _ _ _
  have HBx : Hid (Blk V w.heap.size #[.int .i64 n.kind, .string (bs n.name), .int .i64 n.num, .slice (some ⟨g, off, none⟩) (m + 1) cap, .int .i64 n.pos] 24) := hBx
  have Hx : Hid (w.heap.size ≠ T ∧ w.heap.size ≠ bl ∧ v.ownBlock ≠ some w.heap.size) := ⟨hx1, hx2, hx3⟩
  have HNV : Hid (NdIn V B n (some ⟨g, off, none⟩) cap) := hnV
  have HH1 : Hid (TellOK B bl T 23 a o1 u1) := h1
  clear h1
  have HH3 : Hid (PartOK B bl T rest (coT) o3 u3) := h3
  clear h3
  have HMmark : Hid (∀ (s : ByteArray) (X : World), Calls Tryz.prog 91 #[.string s] X fun e w' => e = .returned (.agg #[.int .i64 8, .string s, .int .i64 0, .int .i64 0, .int .i64 0, .int .i64 0, .bool false]) ∧ Below X.heap.size X w') := mark_c
  have HMsign : Hid (∀ (s : ByteArray) (X : World), Calls Tryz.prog 88 #[.string s] X fun e w' => e = .returned (.agg #[.int .i64 10, .string s, .int .i64 0, .int .i64 0, .int .i64 0, .int .i64 0, .bool false]) ∧ Below X.heap.size X w') := sign_c
  have Hk : Hid (n.kind = 27) := hk
  rw [hk] at c0 hV ⊢
  clear hn hS hc hl hnV hSV hfV hBx hx1 hx2 hx3 hk
  go_enter Tryz.func100, Tryz.ntmps100
  go_wp2_with (go_at_call 91; fail)
  refine (HMmark.out _ _).mono ?_
  rintro e wm1 ⟨rfl, hbm1⟩
  have Sm1 : Hid (TSt B bl T (c + 0) wm1 v (ts)) := S0.out.below hbm1
  have Fm1 : Hid (TFr T bl V wm1 v v) := F0.out.trans (tfr_below hbm1 v)
  have HP1 : Hid (Calls Tryz.prog 85 #[.pointer (some ⟨T, 0, none⟩), .slice (some ⟨wm1.heap.size, 0, none⟩) 1 1] (wm1.alloc (.cells #[.int .i64 8, .string ⟨#[91]⟩, .int .i64 0, .int .i64 0, .int .i64 0, .int .i64 0, .bool false] 39)) fun e W' => e = .returned (.tuple #[]) ∧ ∃ v'', TSt B bl T (c + 0) W' v'' ((ts) ++ [mkT ⟨#[91]⟩]) ∧ TFr T bl wm1 W' v v'') := put1_c B bl T (c + 0) _ v 8 ⟨#[91]⟩ 0 wm1 Sm1.out (by have := Hl.out; omega)
  clear hbm1
  go_wp2_with (go_at_call 85; fail)
  refine HP1.out.mono ?_
  rintro e w1 ⟨rfl, v1, s1, f1⟩
  have S1 : Hid (TSt B bl T (c + 0) w1 v1 ((ts) ++ [mkT ⟨#[91]⟩])) := s1
  have F1 : Hid (TFr T bl V w1 v v1) := Fm1.out.trans f1
  clear s1 f1 HP1 Sm1 Fm1 S0 F0
  clear c0 c1 c2 c3 c4 hlV
  have hBB2 : Below B V w1 := F1.out.below HSV.out
  obtain ⟨o_a, cap_a, k0, k1, k2, k3, k4, hNk⟩ := kid_in (NdAt.below hBB2 a g (off) Hg.out HNa.out)
  have HC2 : Hid (Calls Tryz.prog 23 #[.pointer (some ⟨T, 0, none⟩), .agg #[.int .i64 a.kind, .string (bs a.name), .int .i64 a.num, .slice o_a a.kids.length cap_a, .int .i64 a.pos]] w1 fun e W' => e = .returned (.tuple #[]) ∧ ∃ v', TSt B bl T (c + 0 + u1) W' v' (((ts) ++ [mkT ⟨#[91]⟩]) ++ o1) ∧ TFr T bl w1 W' v1 v') := HH1.out ((ts) ++ [mkT ⟨#[91]⟩]) v1 (c + 0) w1 o_a cap_a hNk S1.out (by have := HC.out; omega) (by have := Hl.out; simp only [List.length_append, List.length_cons, List.length_nil]; omega)
  have hgr : g < w1.heap.size := Nat.lt_of_lt_of_le HgV.out hBB2.size
  clear hBB2 hNk
  go_wp2_with (go_at_call 23; fail)
  refine HC2.out.mono ?_
  rintro e w2 ⟨rfl, v2, s2, f2⟩
  have S2 : Hid (TSt B bl T (c + 0 + u1) w2 v2 (((ts) ++ [mkT ⟨#[91]⟩]) ++ o1)) := s2
  have F2 : Hid (TFr T bl V w2 v v2) := F1.out.trans f2
  clear s2 f2 HC2 S1 F1 k0 k1 k2 k3 k4 hgr
  go_wp2_with (go_at_call 88; fail)
  refine (HMsign.out _ _).mono ?_
  rintro e wm3 ⟨rfl, hbm3⟩
  have Sm3 : Hid (TSt B bl T (c + 0 + u1) wm3 v2 (((ts) ++ [mkT ⟨#[91]⟩]) ++ o1)) := S2.out.below hbm3
  have Fm3 : Hid (TFr T bl V wm3 v v2) := F2.out.trans (tfr_below hbm3 v2)
  have HP3 : Hid (Calls Tryz.prog 85 #[.pointer (some ⟨T, 0, none⟩), .slice (some ⟨wm3.heap.size, 0, none⟩) 1 1] (wm3.alloc (.cells #[.int .i64 10, .string ⟨#[124]⟩, .int .i64 0, .int .i64 0, .int .i64 0, .int .i64 0, .bool false] 39)) fun e W' => e = .returned (.tuple #[]) ∧ ∃ v'', TSt B bl T (c + 0 + u1) W' v'' ((((ts) ++ [mkT ⟨#[91]⟩]) ++ o1) ++ [sgT ⟨#[124]⟩]) ∧ TFr T bl wm3 W' v2 v'') := put1_c B bl T (c + 0 + u1) _ v2 10 ⟨#[124]⟩ 0 wm3 Sm3.out (by have := Hl.out; simp only [List.length_append, List.length_cons, List.length_nil]; omega)
  clear hbm3
  go_wp2_with (go_at_call 85; fail)
  refine HP3.out.mono ?_
  rintro e w3 ⟨rfl, v3, s3, f3⟩
  have S3 : Hid (TSt B bl T (c + 0 + u1) w3 v3 ((((ts) ++ [mkT ⟨#[91]⟩]) ++ o1) ++ [sgT ⟨#[124]⟩])) := s3
  have F3 : Hid (TFr T bl V w3 v v3) := Fm3.out.trans f3
  clear s3 f3 HP3 Sm3 Fm3 S2 F2
  have HQ4 : Hid (∀ X : World, TSt B bl T (c + 0 + u1) X v3 ((((ts) ++ [mkT ⟨#[91]⟩]) ++ o1) ++ [sgT ⟨#[124]⟩]) → Below B V X → Calls Tryz.prog 89 #[.pointer (some ⟨T, 0, none⟩), .slice o2s m (cap - 1), .agg #[.int .i64 8, .string ⟨#[44]⟩, .int .i64 0, .int .i64 0, .int .i64 0, .int .i64 0, .bool false]] X fun e W' => e = .returned (.tuple #[]) ∧ ∃ v', TSt B bl T (c + 0 + u1 + u3) W' v' (((((ts) ++ [mkT ⟨#[91]⟩]) ++ o1) ++ [sgT ⟨#[124]⟩]) ++ o3) ∧ TFr T bl X W' v3 v') := fun X hX hb => by
    have hh := HH3.out ((((ts) ++ [mkT ⟨#[91]⟩]) ++ o1) ++ [sgT ⟨#[124]⟩]) v3 (c + 0 + u1) X o2s (cap - 1) (HKr.out _ (HKa.out.below hb)) (by rw [Hm.out]; have := Hcap.out; omega) (by have := Hcap.out; omega) hX (by have := HC.out; omega) (by have := Hl.out; simp only [List.length_append, List.length_cons, List.length_nil]; omega)
    rw [Hm.out] at hh
    exact hh
  go_wp2
  go_region_with (first | (go_at_call 91; refine (HMmark.out _ _).mono ?_; rintro e wm4 ⟨rfl, hbm4⟩; have hbn4 : Below w3.heap.size w3 wm4 := (by first | exact hbm4 | exact ((Below.refl w3.heap.size w3).drew).trans hbm4); have Sm4 : Hid (TSt B bl T (c + 0 + u1) wm4 v3 ((((ts) ++ [mkT ⟨#[91]⟩]) ++ o1) ++ [sgT ⟨#[124]⟩])) := S3.out.below hbn4; have Fm4 : Hid (TFr T bl V wm4 v v3) := F3.out.trans (tfr_below hbn4 v3); clear hbm4 hbn4) | (go_at_call 89; refine (HQ4.out wm4 Sm4.out (Fm4.out.below HSV.out)).mono ?_; rintro e w4 ⟨rfl, v4, s4, f4⟩; have S4 : Hid (TSt B bl T (c + 0 + u1 + u3) w4 v4 (((((ts) ++ [mkT ⟨#[91]⟩]) ++ o1) ++ [sgT ⟨#[124]⟩]) ++ o3)) := s4; have F4 : Hid (TFr T bl V w4 v v4) := Fm4.out.trans f4; clear s4 f4))
  go_wp2_with (go_at_call 91; fail)
  refine (HMmark.out _ _).mono ?_
  rintro e wm5 ⟨rfl, hbm5⟩
  have Sm5 : Hid (TSt B bl T (c + 0 + u1 + u3) wm5 v4 (((((ts) ++ [mkT ⟨#[91]⟩]) ++ o1) ++ [sgT ⟨#[124]⟩]) ++ o3)) := S4.out.below hbm5
  have Fm5 : Hid (TFr T bl V wm5 v v4) := F4.out.trans (tfr_below hbm5 v4)
  have HP5 : Hid (Calls Tryz.prog 85 #[.pointer (some ⟨T, 0, none⟩), .slice (some ⟨wm5.heap.size, 0, none⟩) 1 1] (wm5.alloc (.cells #[.int .i64 8, .string ⟨#[93]⟩, .int .i64 0, .int .i64 0, .int .i64 0, .int .i64 0, .bool false] 39)) fun e W' => e = .returned (.tuple #[]) ∧ ∃ v'', TSt B bl T (c + 0 + u1 + u3) W' v'' ((((((ts) ++ [mkT ⟨#[91]⟩]) ++ o1) ++ [sgT ⟨#[124]⟩]) ++ o3) ++ [mkT ⟨#[93]⟩]) ∧ TFr T bl wm5 W' v4 v'') := put1_c B bl T (c + 0 + u1 + u3) _ v4 8 ⟨#[93]⟩ 0 wm5 Sm5.out (by have := Hl.out; simp only [List.length_append, List.length_cons, List.length_nil]; omega)
  clear hbm5
  go_wp2_with (go_at_call 85; fail)
  refine HP5.out.mono ?_
  rintro e w5 ⟨rfl, v5, s5, f5⟩
  have S5 : Hid (TSt B bl T (c + 0 + u1 + u3) w5 v5 ((((((ts) ++ [mkT ⟨#[91]⟩]) ++ o1) ++ [sgT ⟨#[124]⟩]) ++ o3) ++ [mkT ⟨#[93]⟩])) := s5
  have F5 : Hid (TFr T bl V w5 v v5) := Fm5.out.trans f5
  clear s5 f5 HP5 Sm5 Fm5 S4 F4
  have H3 : TSt B bl T (c + (u1 + u3)) w5 v5 (ts ++ ([mkT ⟨#[91]⟩] ++ o1 ++ [sgT ⟨#[124]⟩] ++ o3 ++ [mkT ⟨#[93]⟩])) := by
    have h := S5.out
    simp only [Nat.add_zero, Nat.add_assoc, List.append_assoc] at h ⊢
    exact h
  have H3' : Hid (TSt B bl T (c + (u1 + u3)) w5 v5 (ts ++ ([mkT ⟨#[91]⟩] ++ o1 ++ [sgT ⟨#[124]⟩] ++ o3 ++ [mkT ⟨#[93]⟩]))) := H3
  have FE : Hid (TFr T bl w w5 v v5) := HF.out.trans F5.out
  clear H3 S5 F5
  go_wp2
  first
    | (go_end0; exact ⟨rfl, v5, H3'.out, FE.out⟩)
    | exact bodyPost_ret (v := .tuple #[]) (by simp [results, Tryz.results100, go_sem]) rfl ⟨rfl, v5, H3'.out, FE.out⟩
end Go.Proofs.YtndpebkiiemfpaaGreatDoor

namespace Go.Proofs.YtndpebkiiemfpaaGreatDoor
open Go.RowKit Go.Shelf Go.Maps
set_option linter.unusedVariables false
set_option linter.unusedSimpArgs false

set_option maxRecDepth 100000 in
set_option maxHeartbeats 4000000 in
theorem declConDef {B bl T : Nat} {n : Nd} (hk : n.kind = 3) {o0 : List TkT} {u0 : Nat} (h0 : StrOK B bl T 87 (bs n.name) o0 u0) {o1 : List TkT} {u1 : Nat} (h1 : StrOK B bl T 87 ⟨#[97]⟩ o1 u1) {N : Nat} (hN : n.num = (N : Int)) (hN2 : N ≤ 1000000) : TellOK B bl T 45 n (o0 ++ (List.replicate N o1).flatten) (u0 + N * u1) := by
  intro ts v c w o cap hn hS hc hl
  obtain ⟨V, hV, hnV, hSV, hfV, hBx, hx1, hx2, hx3, hx4⟩ := boxed hn hS
  have c0 : V.cell? ⟨w.heap.size, 0, none⟩ = some (.int .i64 n.kind) := hBx.cell 0 _ rfl
  have c1 : V.cell? ⟨w.heap.size, 1, none⟩ = some (.string (bs n.name)) := hBx.cell 1 _ rfl
  have c2 : V.cell? ⟨w.heap.size, 2, none⟩ = some (.int .i64 n.num) := hBx.cell 2 _ rfl
  have c3 : V.cell? ⟨w.heap.size, 3, none⟩ = some (.slice o n.kids.length cap) := hBx.cell 3 _ rfl
  have c4 : V.cell? ⟨w.heap.size, 4, none⟩ = some (.int .i64 n.pos) := hBx.cell 4 _ rfl
  have hlV := hBx.lt
  have HF : Hid (TFr T bl w V v v) := hfV
  have HC : Hid (c + (u0 + N * u1) ≤ 4611686018427387904) := hc
  have Hl : Hid (ts.length + (o0.length + N * o1.length) ≤ 1000000000) := by
    have e : ((List.replicate N o1).flatten).length = N * o1.length := by simp
    simp only [List.length_append, e] at hl
    show _ ≤ _
    omega
  have HH1 : Hid (StrOK B bl T 87 ⟨#[97]⟩ o1 u1) := h1
  have HN2 : Hid (N ≤ 1000000) := hN2
  have hNi : (N : Int) ≤ 1000000 := by omega
  have HNn : Hid (n.num = (N : Int)) := hN
  clear h1 hN2 hN
  have S0 : Hid (TSt B bl T (c + 0) V v ts) := hSV
  have HSV : Hid (TSt B bl T c V v ts) := hSV
  have F0 : Hid (TFr T bl V V v v) := TFr.refl _ _ _ _
  have HBx : Hid (Blk V w.heap.size #[.int .i64 n.kind, .string (bs n.name), .int .i64 n.num, .slice o n.kids.length cap, .int .i64 n.pos] 24) := hBx
  have Hx : Hid (w.heap.size ≠ T ∧ w.heap.size ≠ bl ∧ v.ownBlock ≠ some w.heap.size) := ⟨hx1, hx2, hx3⟩
  have HNV : Hid (NdIn V B n o cap) := hnV
  have HH0 : Hid (StrOK B bl T 87 (bs n.name) o0 u0) := h0
  clear h0
  have Hk : Hid (n.kind = 3) := hk
  rw [hk] at c0 hV ⊢
  clear hn hS hc hl hnV hSV hfV hBx hx1 hx2 hx3 hk
  go_enter Tryz.func45, Tryz.ntmps45
  have HC1 : Hid (Calls Tryz.prog 87 #[.pointer (some ⟨T, 0, none⟩), .string (bs n.name)] V fun e W' => e = .returned (.tuple #[]) ∧ ∃ v', TSt B bl T (c + 0 + u0) W' v' ((ts) ++ o0) ∧ TFr T bl V W' v v') := HH0.out (ts) v (c + 0) V S0.out (by have := HC.out; omega) (by have := Hl.out; omega)
  go_wp2_with (go_at_call 87; fail)
  refine HC1.out.mono ?_
  rintro e w1 ⟨rfl, v1, s1, f1⟩
  have S1 : Hid (TSt B bl T (c + 0 + u0) w1 v1 ((ts) ++ o0)) := s1
  have F1 : Hid (TFr T bl V w1 v v1) := F0.out.trans f1
  clear s1 f1 HC1 S0 F0 
  clear c0 c1 c2 c3 c4 hlV
  have hBk := HBx.out.tfr F1.out Hx.out.1 Hx.out.2.1 Hx.out.2.2
  have b2 := hBk.cell 2 _ rfl
  rw [HNn.out] at b2
  have hlb := hBk.lt
  clear hBk
  go_wp2
  go_loopw [42] (fun i wr => ∃ (k : Nat) (vx : Value), k ≤ N ∧ i = .int .i64 k ∧ Hid (TSt B bl T (c + 0 + u0 + k * u1) wr vx ((ts ++ o0) ++ (List.replicate k o1).flatten)) ∧ Hid (TFr T bl V wr v vx)) (fun i _ => N - (intOf i).toNat)
  case atStart => exact ⟨0, v1, Nat.zero_le _, rfl, by show TSt _ _ _ _ _ _ _; simpa using S1.out, F1⟩
  case round =>
    obtain ⟨k, vx, hk, rfl, hS1, hF1⟩ := hrel
    by_cases hlt : k < N
    · have hki : (k : Int) < (N : Int) := by omega
      have Hk2 : Hid (k < N) := hlt
      have hmul : (k + 1) * u1 ≤ N * u1 := Nat.mul_le_mul_right _ hlt
      have hmul2 : (k + 1) * o1.length ≤ N * o1.length := Nat.mul_le_mul_right _ hlt
      have e1 : (k + 1) * u1 = k * u1 + u1 := Nat.succ_mul _ _
      have e2 : (k + 1) * o1.length = k * o1.length + o1.length := Nat.succ_mul _ _
      have eL : ((List.replicate k o1).flatten).length = k * o1.length := by simp
      have eR : (List.replicate (k + 1) o1).flatten = (List.replicate k o1).flatten ++ o1 := by rw [List.replicate_succ', List.flatten_append]; simp
      have HCk : Hid (Calls Tryz.prog 87 #[.pointer (some ⟨T, 0, none⟩), .string ⟨#[97]⟩] wr fun e W' => e = .returned (.tuple #[]) ∧ ∃ v', TSt B bl T (c + 0 + u0 + (k + 1) * u1) W' v' ((ts ++ o0) ++ (List.replicate (k + 1) o1).flatten) ∧ TFr T bl wr W' vx v') := by
        have h := HH1.out _ vx _ wr hS1.out (by have := HC.out; omega) (by have := Hl.out; simp only [List.length_append, eL]; omega)
        rw [eR, e1, ← List.append_assoc, ← Nat.add_assoc]
        exact h
      have HFk : Hid (TFr T bl V wr v vx) := hF1
      clear hmul hmul2 e1 e2 eL eR hS1 hF1 hk hlt
      go_wp2_with (go_at_call 87; fail)
      refine HCk.out.mono ?_
      rintro e w3 ⟨rfl, v3, s3, f3⟩
      have S3 : Hid (TSt B bl T (c + 0 + u0 + (k + 1) * u1) w3 v3 ((ts ++ o0) ++ (List.replicate (k + 1) o1).flatten)) := s3
      have F3 : Hid (TFr T bl V w3 v v3) := HFk.out.trans f3
      clear s3 f3 HCk HFk
      go_wp2
      exact ⟨⟨k + 1, v3, Hk2.out, cast_t k, S3, F3⟩, meas_t k N Hk2.out⟩
    · obtain rfl : N = k := by omega
      have H3' : Hid (TSt B bl T (c + (u0 + N * u1)) wr vx (ts ++ (o0 ++ (List.replicate N o1).flatten))) := by
        have h := hS1.out
        simp only [Nat.add_zero, Nat.add_assoc, List.append_assoc] at h ⊢
        exact h
      have FE : Hid (TFr T bl w wr v vx) := HF.out.trans hF1.out
      clear hS1 hF1
      go_wp2
      first
        | (go_end0; exact ⟨rfl, vx, H3'.out, FE.out⟩)
        | exact bodyPost_ret (v := .tuple #[]) (by simp [results, Tryz.results45, go_sem]) rfl ⟨rfl, vx, H3'.out, FE.out⟩
end Go.Proofs.YtndpebkiiemfpaaGreatDoor

namespace Go.Proofs.YtndpebkiiemfpaaGreatDoor
open Go.RowKit Go.Shelf Go.Maps
set_option linter.unusedVariables false
set_option linter.unusedSimpArgs false

def fxT (n : Nd) : List TkT := [wdT (bs n.name), ⟨5, [], n.num⟩]
theorem news2 (W : World) (n : Nd) : ∀ j u, ((fxT n).flatMap tC)[j]? = some u → (W.alloc (.cells #[.int .i64 9, .string (bs n.name), .int .i64 0, .int .i64 0, .int .i64 0, .int .i64 0, .bool false, .int .i64 5, .string ⟨#[]⟩, .int .i64 n.num, .int .i64 0, .int .i64 0, .int .i64 0, .bool false] 39)).cell? ⟨W.heap.size, j, none⟩ = some u := by
  intro j u hu
  have e : (fxT n).flatMap tC = [.int .i64 9, .string (bs n.name), .int .i64 0, .int .i64 0, .int .i64 0, .int .i64 0, .bool false, .int .i64 5, .string ⟨#[]⟩, .int .i64 n.num, .int .i64 0, .int .i64 0, .int .i64 0, .bool false] := rfl
  rw [e] at hu
  exact (Blk.new W #[.int .i64 9, .string (bs n.name), .int .i64 0, .int .i64 0, .int .i64 0, .int .i64 0, .bool false, .int .i64 5, .string ⟨#[]⟩, .int .i64 n.num, .int .i64 0, .int .i64 0, .int .i64 0, .bool false] 39).cell j u (by simpa using hu)
theorem put2_c (B bl T c : Nat) (ts : List TkT) (v : Value) (n : Nd) (w : World) (h : TSt B bl T c w v ts) (hb : ts.length + 2 ≤ 1000000000) :
    Calls Tryz.prog 85 #[.pointer (some ⟨T, 0, none⟩), .slice (some ⟨w.heap.size, 0, none⟩) 2 2] (w.alloc (.cells #[.int .i64 9, .string (bs n.name), .int .i64 0, .int .i64 0, .int .i64 0, .int .i64 0, .bool false, .int .i64 5, .string ⟨#[]⟩, .int .i64 n.num, .int .i64 0, .int .i64 0, .int .i64 0, .bool false] 39)) fun e W' => e = .returned (.tuple #[]) ∧ ∃ v', TSt B bl T c W' v' (ts ++ fxT n) ∧ TFr T bl w W' v v' := by
  have hA : Below w.heap.size w (w.alloc (.cells #[.int .i64 9, .string (bs n.name), .int .i64 0, .int .i64 0, .int .i64 0, .int .i64 0, .bool false, .int .i64 5, .string ⟨#[]⟩, .int .i64 n.num, .int .i64 0, .int .i64 0, .int .i64 0, .bool false] 39)) := (Below.refl _ w).alloc (Nat.le_refl _) _
  refine (put_c B bl T c ts (fxT n) v w.heap.size 2 _ (h.below hA) rfl (news2 w n) hb).mono ?_
  rintro e W' ⟨rfl, v', h1, h2⟩
  exact ⟨rfl, v', h1, (tfr_below hA v).trans h2⟩
set_option maxRecDepth 100000 in
set_option maxHeartbeats 4000000 in
theorem declFixity {B bl T : Nat} {n : Nd} (hk : n.kind = 4) {o1 : List TkT} {u1 : Nat} (h1 : PartOK B bl T n.kids (coT) o1 u1) : TellOK B bl T 45 n ((fxT n) ++ o1) (u1) := by
  intro ts v c w o cap hn hS hc hl
  obtain ⟨V, hV, hnV, hSV, hfV, hBx, hx1, hx2, hx3, hx4⟩ := boxed hn hS
  have c0 : V.cell? ⟨w.heap.size, 0, none⟩ = some (.int .i64 n.kind) := hBx.cell 0 _ rfl
  have c1 : V.cell? ⟨w.heap.size, 1, none⟩ = some (.string (bs n.name)) := hBx.cell 1 _ rfl
  have c2 : V.cell? ⟨w.heap.size, 2, none⟩ = some (.int .i64 n.num) := hBx.cell 2 _ rfl
  have c3 : V.cell? ⟨w.heap.size, 3, none⟩ = some (.slice o n.kids.length cap) := hBx.cell 3 _ rfl
  have c4 : V.cell? ⟨w.heap.size, 4, none⟩ = some (.int .i64 n.pos) := hBx.cell 4 _ rfl
  have hlV := hBx.lt
  have HF : Hid (TFr T bl w V v v) := hfV
  have HC : Hid (c + (u1) ≤ 4611686018427387904) := hc
  have Hl : Hid (ts.length + ((fxT n).length + o1.length) ≤ 1000000000) := by (try simp only [List.length_append, List.length_cons, List.length_nil] at hl); show _ ≤ _; omega
  have S0 : Hid (TSt B bl T (c + 0) V v ts) := hSV
  have HSV : Hid (TSt B bl T c V v ts) := hSV
  have F0 : Hid (TFr T bl V V v v) := TFr.refl _ _ _ _
  have HBx : Hid (Blk V w.heap.size #[.int .i64 n.kind, .string (bs n.name), .int .i64 n.num, .slice o n.kids.length cap, .int .i64 n.pos] 24) := hBx
  have Hx : Hid (w.heap.size ≠ T ∧ w.heap.size ≠ bl ∧ v.ownBlock ≠ some w.heap.size) := ⟨hx1, hx2, hx3⟩
  have HNV : Hid (NdIn V B n o cap) := hnV
  have HH1 : Hid (PartOK B bl T n.kids (coT) o1 u1) := h1
  clear h1
  have HMmark : Hid (∀ (s : ByteArray) (X : World), Calls Tryz.prog 91 #[.string s] X fun e w' => e = .returned (.agg #[.int .i64 8, .string s, .int .i64 0, .int .i64 0, .int .i64 0, .int .i64 0, .bool false]) ∧ Below X.heap.size X w') := mark_c
  have Hk : Hid (n.kind = 4) := hk
  rw [hk] at c0 hV ⊢
  clear hn hS hc hl hnV hSV hfV hBx hx1 hx2 hx3 hk
  go_enter Tryz.func45, Tryz.ntmps45
  have HW : Hid (∀ (s : ByteArray) (X : World), Calls Tryz.prog 86 #[.string s] X fun e w' => e = .returned (.agg #[.int .i64 9, .string s, .int .i64 0, .int .i64 0, .int .i64 0, .int .i64 0, .bool false]) ∧ Below X.heap.size X w') := word_c
  have HNu : Hid (∀ (m : Int) (X : World), Calls Tryz.prog 90 #[.int .i64 m] X fun e w' => e = .returned (.agg #[.int .i64 5, .string ⟨#[]⟩, .int .i64 m, .int .i64 0, .int .i64 0, .int .i64 0, .bool false]) ∧ Below X.heap.size X w') := number_t
  have HP2 : Hid (∀ X : World, TSt B bl T (c + 0) X v (ts) → Calls Tryz.prog 85 #[.pointer (some ⟨T, 0, none⟩), .slice (some ⟨X.heap.size, 0, none⟩) 2 2] (X.alloc (.cells #[.int .i64 9, .string (bs n.name), .int .i64 0, .int .i64 0, .int .i64 0, .int .i64 0, .bool false, .int .i64 5, .string ⟨#[]⟩, .int .i64 n.num, .int .i64 0, .int .i64 0, .int .i64 0, .bool false] 39)) fun e W' => e = .returned (.tuple #[]) ∧ ∃ v', TSt B bl T (c + 0) W' v' ((ts) ++ fxT n) ∧ TFr T bl X W' v v') := fun X hX => put2_c B bl T (c + 0) (ts) v n X hX (by have := Hl.out; have e : (fxT n).length = 2 := rfl; omega)
  go_wp2
  go_region_with (first | (go_at_call 86; refine (HW.out _ _).mono ?_; rintro e wa ⟨rfl, hba⟩; have Ba : Hid (Below V.heap.size V wa) := (by first | exact hba | exact ((Below.refl V.heap.size V).drew).trans hba); have hka := HBx.out.below Ba.out; have a1 := hka.cell 1 _ rfl; have a2 := hka.cell 2 _ rfl; have la := hka.lt; clear hka; clear hba) | (go_at_call 90; refine (HNu.out _ _).mono ?_; rintro e wb ⟨rfl, hbb⟩; have Bb : Hid (Below V.heap.size V wb) := Ba.out.trans (hbb.mono Ba.out.size); have hkb := HBx.out.below Bb.out; have b1 := hkb.cell 1 _ rfl; have b2 := hkb.cell 2 _ rfl; have lb := hkb.lt; clear hkb; clear hbb) | (go_at_call 85; refine (HP2.out wb (S0.out.below Bb.out)).mono ?_; rintro e w1 ⟨rfl, v1, s1, f1⟩; have S1 : Hid (TSt B bl T (c + 0) w1 v1 ((ts) ++ fxT n)) := s1; have F1 : Hid (TFr T bl V w1 v v1) := (F0.out.trans (tfr_below Bb.out v)).trans f1; clear s1 f1))
  all_goals (
    clear c0 c1 c2 c3 c4 hlV
    go_wp2_with (go_at_call 91; fail)
    refine (HMmark.out _ _).mono ?_
    rintro e wm2 ⟨rfl, hbm2⟩
    have Sm2 : Hid (TSt B bl T (c + 0) wm2 v1 ((ts) ++ fxT n)) := S1.out.below hbm2
    have Fm2 : Hid (TFr T bl V wm2 v v1) := F1.out.trans (tfr_below hbm2 v1)
    have hBB2 : Below B V wm2 := Fm2.out.below HSV.out
    have HC2 : Hid (Calls Tryz.prog 89 #[.pointer (some ⟨T, 0, none⟩), .slice o n.kids.length cap, .agg #[.int .i64 8, .string ⟨#[44]⟩, .int .i64 0, .int .i64 0, .int .i64 0, .int .i64 0, .bool false]] wm2 fun e W' => e = .returned (.tuple #[]) ∧ ∃ v', TSt B bl T (c + 0 + u1) W' v' (((ts) ++ fxT n) ++ o1) ∧ TFr T bl wm2 W' v1 v') := HH1.out ((ts) ++ fxT n) v1 (c + 0) wm2 o cap (HNV.out.1.below hBB2) HNV.out.2.1 HNV.out.2.2.1 Sm2.out (by have := HC.out; omega) (by have := Hl.out; simp only [List.length_append, List.length_cons, List.length_nil]; omega)
    clear hBB2 hbm2
    go_wp2_with (go_at_call 89; fail)
    refine HC2.out.mono ?_
    rintro e w2 ⟨rfl, v2, s2, f2⟩
    have S2 : Hid (TSt B bl T (c + 0 + u1) w2 v2 (((ts) ++ fxT n) ++ o1)) := s2
    have F2 : Hid (TFr T bl V w2 v v2) := Fm2.out.trans f2
    clear s2 f2 HC2 S1 F1 
    have H3 : TSt B bl T (c + (u1)) w2 v2 (ts ++ ((fxT n) ++ o1)) := by
      have h := S2.out
      simp only [Nat.add_zero, Nat.add_assoc, List.append_assoc] at h ⊢
      exact h
    have H3' : Hid (TSt B bl T (c + (u1)) w2 v2 (ts ++ ((fxT n) ++ o1))) := H3
    have FE : Hid (TFr T bl w w2 v v2) := HF.out.trans F2.out
    clear H3 S2 F2
    go_wp2
    first
      | (go_end0; exact ⟨rfl, v2, H3'.out, FE.out⟩)
      | exact bodyPost_ret (v := .tuple #[]) (by simp [results, Tryz.results45, go_sem]) rfl ⟨rfl, v2, H3'.out, FE.out⟩
  )
end Go.Proofs.YtndpebkiiemfpaaGreatDoor

namespace Go.Proofs.YtndpebkiiemfpaaGreatDoor
open Go.RowKit Go.Shelf Go.Maps
set_option linter.unusedVariables false
set_option linter.unusedSimpArgs false

def ifP (o0 o1 o2 : List TkT) : Nat → List TkT
  | 0 => []
  | 1 => wdT ⟨#[105, 102]⟩ :: o0
  | 2 => (wdT ⟨#[105, 102]⟩ :: o0) ++ (wdT ⟨#[116, 104, 101, 110]⟩ :: o1)
  | _ => (wdT ⟨#[105, 102]⟩ :: o0) ++ (wdT ⟨#[116, 104, 101, 110]⟩ :: o1) ++ (wdT ⟨#[101, 108, 115, 101]⟩ :: o2)
def ifC (u0 u1 u2 : Nat) : Nat → Nat
  | 0 => 0
  | 1 => u0
  | 2 => u0 + u1
  | _ => u0 + u1 + u2
set_option maxRecDepth 100000 in
set_option maxHeartbeats 4000000 in
theorem conIf {B bl T : Nat} {n : Nd} (hk : n.kind = 21) {a : Nd} {b : Nd} {d : Nd} (hkids : n.kids = [a, b, d]) {o0 : List TkT} {u0 : Nat} (h0 : TellOK B bl T 23 a o0 u0) {o1 : List TkT} {u1 : Nat} (h1 : TellOK B bl T 23 b o1 u1) {o2 : List TkT} {u2 : Nat} (h2 : TellOK B bl T 23 d o2 u2) : TellOK B bl T 100 n (ifP o0 o1 o2 3) (ifC u0 u1 u2 3) := by
  intro ts v c w o cap hn hS hc hl
  obtain ⟨V, hV, hnV, hSV, hfV, hBx, hx1, hx2, hx3, hx4⟩ := boxed hn hS
  have c0 : V.cell? ⟨w.heap.size, 0, none⟩ = some (.int .i64 n.kind) := hBx.cell 0 _ rfl
  have c1 : V.cell? ⟨w.heap.size, 1, none⟩ = some (.string (bs n.name)) := hBx.cell 1 _ rfl
  have c2 : V.cell? ⟨w.heap.size, 2, none⟩ = some (.int .i64 n.num) := hBx.cell 2 _ rfl
  have c3 : V.cell? ⟨w.heap.size, 3, none⟩ = some (.slice o n.kids.length cap) := hBx.cell 3 _ rfl
  have c4 : V.cell? ⟨w.heap.size, 4, none⟩ = some (.int .i64 n.pos) := hBx.cell 4 _ rfl
  have hlV := hBx.lt
  have HF : Hid (TFr T bl w V v v) := hfV
  have HC : Hid (c + (u0 + u1 + u2) ≤ 4611686018427387904) := hc
  have Hl : Hid (ts.length + (o0.length + o1.length + o2.length + 3) ≤ 1000000000) := by
    have e : (ifP o0 o1 o2 3).length = o0.length + o1.length + o2.length + 3 := by simp [ifP]; omega
    rw [e] at hl
    exact hl
  have hcap1 := hnV.2.1
  have hcap2 := hnV.2.2.1
  obtain ⟨g, off, rfl, hg, hKA⟩ := hnV.1.at 0 (by rw [hkids]; simp)
  have hgV : g < V.heap.size := by have := hSV.lt; have := hSV.1; omega
  have Hg : Hid (g < B) := hg
  have HgV : Hid (g < V.heap.size) := hgV
  have hLn : n.kids.length = 3 := by rw [hkids]; rfl
  have HNa : Hid (NdAt V B a g off) := by
    have := hKA.get _ g off 0 (by rw [hLn]; decide)
    have e : n.kids[0]'(by rw [hLn]; decide) = a := by simp only [hkids]; rfl
    rw [e] at this; exact this
  have HNb : Hid (NdAt V B b g (off + 5)) := by
    have := hKA.get _ g off 1 (by rw [hLn]; decide)
    have e : n.kids[1]'(by rw [hLn]; decide) = b := by simp only [hkids]; rfl
    rw [e] at this; exact this
  have HNd : Hid (NdAt V B d g (off + 10)) := by
    have := hKA.get _ g off 2 (by rw [hLn]; decide)
    have e : n.kids[2]'(by rw [hLn]; decide) = d := by simp only [hkids]; rfl
    rw [e] at this; exact this
  rw [hLn] at c3 hV hBx ⊢
  clear hLn hcap1 hcap2
  clear hkids hKA hg
  have S0 : Hid (TSt B bl T (c + 0) V v ts) := hSV
  have HSV : Hid (TSt B bl T c V v ts) := hSV
  have F0 : Hid (TFr T bl V V v v) := TFr.refl _ _ _ _
  have HBx : Hid (Blk V w.heap.size #[.int .i64 n.kind, .string (bs n.name), .int .i64 n.num, .slice (some ⟨g, off, none⟩) 3 cap, .int .i64 n.pos] 24) := hBx
  have Hx : Hid (w.heap.size ≠ T ∧ w.heap.size ≠ bl ∧ v.ownBlock ≠ some w.heap.size) := ⟨hx1, hx2, hx3⟩
  have HNV : Hid (NdIn V B n (some ⟨g, off, none⟩) cap) := hnV
  have HH0 : Hid (TellOK B bl T 23 a o0 u0) := h0
  clear h0
  have HH1 : Hid (TellOK B bl T 23 b o1 u1) := h1
  clear h1
  have HH2 : Hid (TellOK B bl T 23 d o2 u2) := h2
  clear h2
  have Hk : Hid (n.kind = 21) := hk
  rw [hk] at c0 hV ⊢
  have HMword : Hid (∀ (s : ByteArray) (X : World), Calls Tryz.prog 86 #[.string s] X fun e w' => e = .returned (.agg #[.int .i64 9, .string s, .int .i64 0, .int .i64 0, .int .i64 0, .int .i64 0, .bool false]) ∧ Below X.heap.size X w') := word_c
  clear hn hS hc hl hnV hSV hfV hBx hx1 hx2 hx3 hk
  go_enter Tryz.func100, Tryz.ntmps100
  go_wp2
  obtain ⟨V2, hV2⟩ : ∃ V2, V.alloc (.cells #[.string ⟨#[105, 102]⟩, .string ⟨#[116, 104, 101, 110]⟩, .string ⟨#[101, 108, 115, 101]⟩] 9) = V2 := ⟨_, rfl⟩
  have hb2 : Below V.heap.size V V2 := by rw [← hV2]; exact (Below.refl _ _).alloc (Nat.le_refl _) _
  have HBs : Hid (Blk V2 V.heap.size #[.string ⟨#[105, 102]⟩, .string ⟨#[116, 104, 101, 110]⟩, .string ⟨#[101, 108, 115, 101]⟩] 9) := by show Blk _ _ _ _; rw [← hV2]; exact Blk.new _ _ _
  have SV2 : Hid (TSt B bl T (c + 0) V2 v ts) := S0.out.below hb2
  have FV2 : Hid (TFr T bl V V2 v v) := tfr_below hb2 v
  have Hs : Hid (V.heap.size ≠ T ∧ V.heap.size ≠ bl ∧ v.ownBlock ≠ some V.heap.size) := by
    have h1 := HSV.out.lt
    have h2 := HSV.out.1
    exact ⟨by omega, by omega, fun e => by have := (HSV.out.row_lt _ e).2; omega⟩
  rw [hV2]
  clear hV2 hb2 c0 c1 c2 c3 c4 hlV S0 F0
  go_loopw [60] (fun i wr => ∃ (k : Nat) (vx : Value), k ≤ 3 ∧ i = .int .i64 k ∧ Hid (TSt B bl T (c + ifC u0 u1 u2 k) wr vx (ts ++ ifP o0 o1 o2 k)) ∧ Hid (TFr T bl V2 wr v vx)) (fun i _ => 3 - (intOf i).toNat)
  case atStart => exact ⟨0, v, Nat.zero_le _, rfl, by show TSt _ _ _ _ _ _ _; simpa [ifP, ifC] using SV2.out, TFr.refl _ _ _ _⟩
  case round =>
    obtain ⟨k, vx, hk, rfl, hS1, hF1⟩ := hrel
    have hBs := HBs.out.tfr hF1.out Hs.out.1 Hs.out.2.1 Hs.out.2.2
    have hFV := FV2.out.trans hF1.out
    have hBB : Below B V wr := hFV.below HSV.out
    have hls := hBs.lt
    rcases (show k = 0 ∨ k = 1 ∨ k = 2 ∨ k = 3 by omega) with rfl | rfl | rfl | rfl
    · have w0 := hBs.cell 0 _ rfl
      have Sx : Hid (TSt B bl T (c + ifC u0 u1 u2 0) wr vx (ts ++ ifP o0 o1 o2 0)) := hS1
      have Fx : Hid (TFr T bl V2 wr v vx) := hF1
      have Fv : Hid (TFr T bl V wr v vx) := hFV
      clear hBs hFV hBB hk hS1 hF1
      go_wp2_with (go_at_call 86; fail)
      refine (HMword.out _ _).mono ?_
      rintro e wm ⟨rfl, hbm⟩
      have HP : Hid (Calls Tryz.prog 85 #[.pointer (some ⟨T, 0, none⟩), .slice (some ⟨wm.heap.size, 0, none⟩) 1 1] (wm.alloc (.cells #[.int .i64 9, .string ⟨#[105, 102]⟩, .int .i64 0, .int .i64 0, .int .i64 0, .int .i64 0, .bool false] 39)) fun e W' => e = .returned (.tuple #[]) ∧ ∃ v', TSt B bl T (c + ifC u0 u1 u2 0) W' v' ((ts ++ ifP o0 o1 o2 0) ++ [wdT ⟨#[105, 102]⟩]) ∧ TFr T bl wm W' vx v') := put1_c B bl T _ _ vx 9 ⟨#[105, 102]⟩ 0 wm (Sx.out.below hbm) (by have := Hl.out; simp [ifP]; omega)
      have Fm : Hid (TFr T bl V2 wm v vx) := Fx.out.trans (tfr_below hbm vx)
      have Fn : Hid (TFr T bl V wm v vx) := Fv.out.trans (tfr_below hbm vx)
      clear hbm Sx Fx Fv w0 hls
      go_wp2_with (go_at_call 85; fail)
      refine HP.out.mono ?_
      rintro e w3 ⟨rfl, v3, s3, f3⟩
      have F3 : Hid (TFr T bl V2 w3 v v3) := Fm.out.trans f3
      have G3 : Hid (TFr T bl V w3 v v3) := Fn.out.trans f3
      have hBB3 : Below B V w3 := G3.out.below HSV.out
      obtain ⟨o_a, cap_a, k0, k1, k2, k3, k4, hNk⟩ := kid_in (NdAt.below hBB3 a g (off) Hg.out HNa.out)
      have HCk : Hid (Calls Tryz.prog 23 #[.pointer (some ⟨T, 0, none⟩), .agg #[.int .i64 a.kind, .string (bs a.name), .int .i64 a.num, .slice o_a a.kids.length cap_a, .int .i64 a.pos]] w3 fun e W' => e = .returned (.tuple #[]) ∧ ∃ v', TSt B bl T (c + ifC u0 u1 u2 0 + u0) W' v' (((ts ++ ifP o0 o1 o2 0) ++ [wdT ⟨#[105, 102]⟩]) ++ o0) ∧ TFr T bl w3 W' v3 v') := HH0.out _ v3 _ w3 o_a cap_a hNk s3 (by have := HC.out; simp [ifC]; omega) (by have := Hl.out; simp [ifP]; omega)
      have hgr : g < w3.heap.size := Nat.lt_of_lt_of_le HgV.out hBB3.size
      clear s3 f3 HP Fm Fn hBB3 hNk G3
      go_wp2_with (go_at_call 23; fail)
      refine HCk.out.mono ?_
      rintro e w4 ⟨rfl, v4, s4, f4⟩
      have S4 : Hid (TSt B bl T (c + ifC u0 u1 u2 1) w4 v4 (ts ++ ifP o0 o1 o2 1)) := by
        have e1 : ts ++ ifP o0 o1 o2 1 = ((ts ++ ifP o0 o1 o2 0) ++ [wdT ⟨#[105, 102]⟩]) ++ o0 := by simp [ifP]
        have e2 : c + ifC u0 u1 u2 1 = c + ifC u0 u1 u2 0 + u0 := by simp only [ifC]; omega
        show TSt _ _ _ _ _ _ _
        rw [e1, e2]
        exact s4
      have F4 : Hid (TFr T bl V2 w4 v v4) := F3.out.trans f4
      clear s4 f4 k0 k1 k2 k3 k4 hgr HCk F3
      go_wp2
      exact ⟨⟨1, v4, by decide, rfl, S4, F4⟩, by decide⟩
    · have w0 := hBs.cell 1 _ rfl
      have Sx : Hid (TSt B bl T (c + ifC u0 u1 u2 1) wr vx (ts ++ ifP o0 o1 o2 1)) := hS1
      have Fx : Hid (TFr T bl V2 wr v vx) := hF1
      have Fv : Hid (TFr T bl V wr v vx) := hFV
      clear hBs hFV hBB hk hS1 hF1
      go_wp2_with (go_at_call 86; fail)
      refine (HMword.out _ _).mono ?_
      rintro e wm ⟨rfl, hbm⟩
      have HP : Hid (Calls Tryz.prog 85 #[.pointer (some ⟨T, 0, none⟩), .slice (some ⟨wm.heap.size, 0, none⟩) 1 1] (wm.alloc (.cells #[.int .i64 9, .string ⟨#[116, 104, 101, 110]⟩, .int .i64 0, .int .i64 0, .int .i64 0, .int .i64 0, .bool false] 39)) fun e W' => e = .returned (.tuple #[]) ∧ ∃ v', TSt B bl T (c + ifC u0 u1 u2 1) W' v' ((ts ++ ifP o0 o1 o2 1) ++ [wdT ⟨#[116, 104, 101, 110]⟩]) ∧ TFr T bl wm W' vx v') := put1_c B bl T _ _ vx 9 ⟨#[116, 104, 101, 110]⟩ 0 wm (Sx.out.below hbm) (by have := Hl.out; simp [ifP]; omega)
      have Fm : Hid (TFr T bl V2 wm v vx) := Fx.out.trans (tfr_below hbm vx)
      have Fn : Hid (TFr T bl V wm v vx) := Fv.out.trans (tfr_below hbm vx)
      clear hbm Sx Fx Fv w0 hls
      go_wp2_with (go_at_call 85; fail)
      refine HP.out.mono ?_
      rintro e w3 ⟨rfl, v3, s3, f3⟩
      have F3 : Hid (TFr T bl V2 w3 v v3) := Fm.out.trans f3
      have G3 : Hid (TFr T bl V w3 v v3) := Fn.out.trans f3
      have hBB3 : Below B V w3 := G3.out.below HSV.out
      obtain ⟨o_b, cap_b, k0, k1, k2, k3, k4, hNk⟩ := kid_in (NdAt.below hBB3 b g (off + 5) Hg.out HNb.out)
      have HCk : Hid (Calls Tryz.prog 23 #[.pointer (some ⟨T, 0, none⟩), .agg #[.int .i64 b.kind, .string (bs b.name), .int .i64 b.num, .slice o_b b.kids.length cap_b, .int .i64 b.pos]] w3 fun e W' => e = .returned (.tuple #[]) ∧ ∃ v', TSt B bl T (c + ifC u0 u1 u2 1 + u1) W' v' (((ts ++ ifP o0 o1 o2 1) ++ [wdT ⟨#[116, 104, 101, 110]⟩]) ++ o1) ∧ TFr T bl w3 W' v3 v') := HH1.out _ v3 _ w3 o_b cap_b hNk s3 (by have := HC.out; simp [ifC]; omega) (by have := Hl.out; simp [ifP]; omega)
      have hgr : g < w3.heap.size := Nat.lt_of_lt_of_le HgV.out hBB3.size
      clear s3 f3 HP Fm Fn hBB3 hNk G3
      go_wp2_with (go_at_call 23; fail)
      refine HCk.out.mono ?_
      rintro e w4 ⟨rfl, v4, s4, f4⟩
      have S4 : Hid (TSt B bl T (c + ifC u0 u1 u2 2) w4 v4 (ts ++ ifP o0 o1 o2 2)) := by
        have e1 : ts ++ ifP o0 o1 o2 2 = ((ts ++ ifP o0 o1 o2 1) ++ [wdT ⟨#[116, 104, 101, 110]⟩]) ++ o1 := by simp [ifP]
        have e2 : c + ifC u0 u1 u2 2 = c + ifC u0 u1 u2 1 + u1 := by simp only [ifC]; omega
        show TSt _ _ _ _ _ _ _
        rw [e1, e2]
        exact s4
      have F4 : Hid (TFr T bl V2 w4 v v4) := F3.out.trans f4
      clear s4 f4 k0 k1 k2 k3 k4 hgr HCk F3
      go_wp2
      exact ⟨⟨2, v4, by decide, rfl, S4, F4⟩, by decide⟩
    · have w0 := hBs.cell 2 _ rfl
      have Sx : Hid (TSt B bl T (c + ifC u0 u1 u2 2) wr vx (ts ++ ifP o0 o1 o2 2)) := hS1
      have Fx : Hid (TFr T bl V2 wr v vx) := hF1
      have Fv : Hid (TFr T bl V wr v vx) := hFV
      clear hBs hFV hBB hk hS1 hF1
      go_wp2_with (go_at_call 86; fail)
      refine (HMword.out _ _).mono ?_
      rintro e wm ⟨rfl, hbm⟩
      have HP : Hid (Calls Tryz.prog 85 #[.pointer (some ⟨T, 0, none⟩), .slice (some ⟨wm.heap.size, 0, none⟩) 1 1] (wm.alloc (.cells #[.int .i64 9, .string ⟨#[101, 108, 115, 101]⟩, .int .i64 0, .int .i64 0, .int .i64 0, .int .i64 0, .bool false] 39)) fun e W' => e = .returned (.tuple #[]) ∧ ∃ v', TSt B bl T (c + ifC u0 u1 u2 2) W' v' ((ts ++ ifP o0 o1 o2 2) ++ [wdT ⟨#[101, 108, 115, 101]⟩]) ∧ TFr T bl wm W' vx v') := put1_c B bl T _ _ vx 9 ⟨#[101, 108, 115, 101]⟩ 0 wm (Sx.out.below hbm) (by have := Hl.out; simp [ifP]; omega)
      have Fm : Hid (TFr T bl V2 wm v vx) := Fx.out.trans (tfr_below hbm vx)
      have Fn : Hid (TFr T bl V wm v vx) := Fv.out.trans (tfr_below hbm vx)
      clear hbm Sx Fx Fv w0 hls
      go_wp2_with (go_at_call 85; fail)
      refine HP.out.mono ?_
      rintro e w3 ⟨rfl, v3, s3, f3⟩
      have F3 : Hid (TFr T bl V2 w3 v v3) := Fm.out.trans f3
      have G3 : Hid (TFr T bl V w3 v v3) := Fn.out.trans f3
      have hBB3 : Below B V w3 := G3.out.below HSV.out
      obtain ⟨o_d, cap_d, k0, k1, k2, k3, k4, hNk⟩ := kid_in (NdAt.below hBB3 d g (off + 10) Hg.out HNd.out)
      have HCk : Hid (Calls Tryz.prog 23 #[.pointer (some ⟨T, 0, none⟩), .agg #[.int .i64 d.kind, .string (bs d.name), .int .i64 d.num, .slice o_d d.kids.length cap_d, .int .i64 d.pos]] w3 fun e W' => e = .returned (.tuple #[]) ∧ ∃ v', TSt B bl T (c + ifC u0 u1 u2 2 + u2) W' v' (((ts ++ ifP o0 o1 o2 2) ++ [wdT ⟨#[101, 108, 115, 101]⟩]) ++ o2) ∧ TFr T bl w3 W' v3 v') := HH2.out _ v3 _ w3 o_d cap_d hNk s3 (by have := HC.out; simp [ifC]; omega) (by have := Hl.out; simp [ifP]; omega)
      have hgr : g < w3.heap.size := Nat.lt_of_lt_of_le HgV.out hBB3.size
      clear s3 f3 HP Fm Fn hBB3 hNk G3
      go_wp2_with (go_at_call 23; fail)
      refine HCk.out.mono ?_
      rintro e w4 ⟨rfl, v4, s4, f4⟩
      have S4 : Hid (TSt B bl T (c + ifC u0 u1 u2 3) w4 v4 (ts ++ ifP o0 o1 o2 3)) := by
        have e1 : ts ++ ifP o0 o1 o2 3 = ((ts ++ ifP o0 o1 o2 2) ++ [wdT ⟨#[101, 108, 115, 101]⟩]) ++ o2 := by simp [ifP]
        have e2 : c + ifC u0 u1 u2 3 = c + ifC u0 u1 u2 2 + u2 := by simp only [ifC]; omega
        show TSt _ _ _ _ _ _ _
        rw [e1, e2]
        exact s4
      have F4 : Hid (TFr T bl V2 w4 v v4) := F3.out.trans f4
      clear s4 f4 k0 k1 k2 k3 k4 hgr HCk F3
      go_wp2
      exact ⟨⟨3, v4, by decide, rfl, S4, F4⟩, by decide⟩
    · have S5 : Hid (TSt B bl T (c + ifC u0 u1 u2 3) wr vx (ts ++ ifP o0 o1 o2 3)) := hS1
      have FE : Hid (TFr T bl w wr v vx) := HF.out.trans hFV
      clear hBs hFV hBB hk hS1 hF1 hls
      go_wp2
      first
        | (go_end0; exact ⟨rfl, vx, S5.out, FE.out⟩)
        | exact bodyPost_ret (v := .tuple #[]) (by simp [results, Tryz.results100, go_sem]) rfl ⟨rfl, vx, S5.out, FE.out⟩
end Go.Proofs.YtndpebkiiemfpaaGreatDoor

namespace Go.Proofs.YtndpebkiiemfpaaGreatDoor
open Go.RowKit Go.Shelf Go.Maps
set_option linter.unusedVariables false

set_option maxRecDepth 100000 in
set_option maxHeartbeats 4000000 in
theorem isAtom39_c (n : Nd) (o : Option Addr) (cap : Nat) (hk : n.kind = 39) (w : World) : Calls Tryz.prog 138 #[.agg #[.int .i64 n.kind, .string (bs n.name), .int .i64 n.num, .slice o n.kids.length cap, .int .i64 n.pos]] w fun e w' => e = .returned (.bool (atomM n.kind n.kids.length)) ∧ Below w.heap.size w w' := by
  have HB : Hid (∀ o : Obj, Below w.heap.size w (w.alloc o)) := fun o => (Below.refl _ w).alloc (Nat.le_refl _) _
  by_cases h0 : n.kids.length = 0
  · have HR2 : Hid (atomM n.kind n.kids.length = true) := by show _ = _; rw [hk, h0]; rfl
    have h1 : (n.kids.length : Int) = 0 := by omega
    have h2 : ((n.kids.length : Int) == 0) = true := by simp [h1]
    have Hk : Hid (n.kind = 39) := hk
    rw [hk]
    rw [hk] at HR2
    clear hk
    go_enter Tryz.func138, Tryz.ntmps138
    go_wp2
    go_ret
    exact ⟨by rw [HR2.out]; first | rfl | simp [h0], HB.out _⟩
  · have HR2 : Hid (atomM n.kind n.kids.length = false) := by show _ = _; rw [hk]; simp [atomM, h0]
    have h1 : ¬ (n.kids.length : Int) = 0 := by omega
    have h2 : ((n.kids.length : Int) == 0) = false := by simpa using h1
    rw [hk]
    rw [hk] at HR2
    clear hk
    go_enter Tryz.func138, Tryz.ntmps138
    go_wp2
    go_ret
    exact ⟨by rw [HR2.out]; first | rfl | simp [h0], HB.out _⟩
theorem isAtomG_c (n : Nd) (o : Option Addr) (cap : Nat) (w : World) : Calls Tryz.prog 138 #[.agg #[.int .i64 n.kind, .string (bs n.name), .int .i64 n.num, .slice o n.kids.length cap, .int .i64 n.pos]] w fun e w' => e = .returned (.bool (atomM n.kind n.kids.length)) ∧ Below w.heap.size w w' := by
  by_cases hk : n.kind = 39
  · exact isAtom39_c n o cap hk w
  · exact isAtom_c n o cap hk w
set_option maxRecDepth 100000 in
set_option maxHeartbeats 4000000 in
theorem atomYesG {B bl T : Nat} {n : Nd} {out : List TkT} {k : Nat} (ha : atomM n.kind n.kids.length = true) (h : TellOK B bl T 23 n out k) : TellOK B bl T 98 n out k := by
  intro ts v c w o cap hn hS hc hl
  obtain ⟨V, hV, hnV, hSV, hfV, hBx, hx1, hx2, hx3, hx4⟩ := boxed hn hS
  have c0 : V.cell? ⟨w.heap.size, 0, none⟩ = some (.int .i64 n.kind) := hBx.cell 0 _ rfl
  have c1 : V.cell? ⟨w.heap.size, 1, none⟩ = some (.string (bs n.name)) := hBx.cell 1 _ rfl
  have c2 : V.cell? ⟨w.heap.size, 2, none⟩ = some (.int .i64 n.num) := hBx.cell 2 _ rfl
  have c3 : V.cell? ⟨w.heap.size, 3, none⟩ = some (.slice o n.kids.length cap) := hBx.cell 3 _ rfl
  have c4 : V.cell? ⟨w.heap.size, 4, none⟩ = some (.int .i64 n.pos) := hBx.cell 4 _ rfl
  have hlV := hBx.lt
  have HF : Hid (TFr T bl w V v v) := hfV
  have HA : Hid (Calls Tryz.prog 138 #[.agg #[.int .i64 n.kind, .string (bs n.name), .int .i64 n.num, .slice o n.kids.length cap, .int .i64 n.pos]] V fun e w' => e = .returned (.bool true) ∧ Below V.heap.size V w') := by have := isAtomG_c n o cap V; rw [ha] at this; exact this
  have HX : Hid (∀ X : World, Below V.heap.size V X → Calls Tryz.prog 23 #[.pointer (some ⟨T, 0, none⟩), .agg #[.int .i64 n.kind, .string (bs n.name), .int .i64 n.num, .slice o n.kids.length cap, .int .i64 n.pos]] X fun e W' => e = .returned (.tuple #[]) ∧ ∃ v', TSt B bl T (c + k) W' v' (ts ++ out) ∧ TFr T bl X W' v v') := fun X hX => h ts v c X o cap (hnV.below (hX.mono (by have := hSV.lt; have := hSV.1; omega))) (hSV.below hX) hc hl
  have HBx : Hid (Blk V w.heap.size #[.int .i64 n.kind, .string (bs n.name), .int .i64 n.num, .slice o n.kids.length cap, .int .i64 n.pos] 24) := hBx
  clear h hn hS hc hl hnV hSV hfV hBx ha
  go_enter Tryz.func98, Tryz.ntmps98
  go_wp2_with (go_at_call 138; fail)
  refine HA.out.mono ?_
  rintro e w1 ⟨rfl, hb1⟩
  have HC := HX.out w1 hb1
  have HC1 : Hid (Calls Tryz.prog 23 #[.pointer (some ⟨T, 0, none⟩), .agg #[.int .i64 n.kind, .string (bs n.name), .int .i64 n.num, .slice o n.kids.length cap, .int .i64 n.pos]] w1 fun e W' => e = .returned (.tuple #[]) ∧ ∃ v', TSt B bl T (c + k) W' v' (ts ++ out) ∧ TFr T bl w1 W' v v') := HC
  have HF2 : Hid (TFr T bl w w1 v v) := HF.out.trans (tfr_below hb1 v)
  have hB1 := HBx.out.below hb1
  have d0 : w1.cell? ⟨w.heap.size, 0, none⟩ = some (.int .i64 n.kind) := hB1.cell 0 _ rfl
  have d1 : w1.cell? ⟨w.heap.size, 1, none⟩ = some (.string (bs n.name)) := hB1.cell 1 _ rfl
  have d2 : w1.cell? ⟨w.heap.size, 2, none⟩ = some (.int .i64 n.num) := hB1.cell 2 _ rfl
  have d3 : w1.cell? ⟨w.heap.size, 3, none⟩ = some (.slice o n.kids.length cap) := hB1.cell 3 _ rfl
  have d4 : w1.cell? ⟨w.heap.size, 4, none⟩ = some (.int .i64 n.pos) := hB1.cell 4 _ rfl
  have hl1 := hB1.lt
  clear hb1 HC HA HX HF hB1 c0 c1 c2 c3 c4 hlV
  have HF := HF2
  clear HF2
  go_wp2_with (go_at_call 23; fail)
  refine HC1.out.mono ?_
  rintro e w3 ⟨rfl, v', h3, f3⟩
  have H3 : Hid (TSt B bl T (c + k) w3 v' (ts ++ out)) := h3
  have F3 : Hid (TFr T bl w w3 v v') := HF.out.trans f3
  clear h3 f3
  go_wp2
  first
    | (go_end0; exact ⟨rfl, v', H3.out, F3.out⟩)
    | exact bodyPost_ret (v := .tuple #[]) (by simp [results, Tryz.results98, go_sem]) rfl ⟨rfl, v', H3.out, F3.out⟩
set_option maxRecDepth 100000 in
set_option maxHeartbeats 4000000 in
theorem atomNoG {B bl T : Nat} {n : Nd} {out : List TkT} {k : Nat} (ha : atomM n.kind n.kids.length = false) (h : TellOK B bl T 23 n out k) : TellOK B bl T 98 n (lpT :: (out ++ [rpT])) k := by
  intro ts v c w o cap hn hS hc hl
  obtain ⟨V, hV, hnV, hSV, hfV, hBx, hx1, hx2, hx3, hx4⟩ := boxed hn hS
  have c0 : V.cell? ⟨w.heap.size, 0, none⟩ = some (.int .i64 n.kind) := hBx.cell 0 _ rfl
  have c1 : V.cell? ⟨w.heap.size, 1, none⟩ = some (.string (bs n.name)) := hBx.cell 1 _ rfl
  have c2 : V.cell? ⟨w.heap.size, 2, none⟩ = some (.int .i64 n.num) := hBx.cell 2 _ rfl
  have c3 : V.cell? ⟨w.heap.size, 3, none⟩ = some (.slice o n.kids.length cap) := hBx.cell 3 _ rfl
  have c4 : V.cell? ⟨w.heap.size, 4, none⟩ = some (.int .i64 n.pos) := hBx.cell 4 _ rfl
  have hlV := hBx.lt
  have HF : Hid (TFr T bl w V v v) := hfV
  have HA : Hid (Calls Tryz.prog 138 #[.agg #[.int .i64 n.kind, .string (bs n.name), .int .i64 n.num, .slice o n.kids.length cap, .int .i64 n.pos]] V fun e w' => e = .returned (.bool false) ∧ Below V.heap.size V w') := by have := isAtomG_c n o cap V; rw [ha] at this; exact this
  have hll : ts.length + (out.length + 2) ≤ 1000000000 := by simp only [List.length_cons, List.length_append, List.length_nil] at hl; omega
  have HX : Hid (∀ (X : World) (ts' : List TkT) (v' : Value), NdIn X B n o cap → TSt B bl T c X v' ts' → ts'.length = ts.length + 1 → Calls Tryz.prog 23 #[.pointer (some ⟨T, 0, none⟩), .agg #[.int .i64 n.kind, .string (bs n.name), .int .i64 n.num, .slice o n.kids.length cap, .int .i64 n.pos]] X fun e W' => e = .returned (.tuple #[]) ∧ ∃ v'', TSt B bl T (c + k) W' v'' (ts' ++ out) ∧ TFr T bl X W' v' v'') := fun X ts' v' h1 h2 h3 => h ts' v' c X o cap h1 h2 hc (by omega)
  have HP : Hid (∀ (c' : Nat) (ts' : List TkT) (v' : Value) (s : ByteArray) (X : World), TSt B bl T c' X v' ts' → ts'.length + 1 ≤ ts.length + (out.length + 2) → Calls Tryz.prog 85 #[.pointer (some ⟨T, 0, none⟩), .slice (some ⟨X.heap.size, 0, none⟩) 1 1] (X.alloc (.cells #[.int .i64 8, .string s, .int .i64 0, .int .i64 0, .int .i64 0, .int .i64 0, .bool false] 39)) fun e W' => e = .returned (.tuple #[]) ∧ ∃ v'', TSt B bl T c' W' v'' (ts' ++ [⟨8, s.data.toList, 0⟩]) ∧ TFr T bl X W' v' v'') := fun c' ts' v' s X hX hlen => put1_c B bl T c' ts' v' 8 s 0 X hX (by omega)
  have HMk : Hid (∀ (s : ByteArray) (X : World), Calls Tryz.prog 91 #[.string s] X fun e w' => e = .returned (.agg #[.int .i64 8, .string s, .int .i64 0, .int .i64 0, .int .i64 0, .int .i64 0, .bool false]) ∧ Below X.heap.size X w') := mark_c
  have HBx : Hid (Blk V w.heap.size #[.int .i64 n.kind, .string (bs n.name), .int .i64 n.num, .slice o n.kids.length cap, .int .i64 n.pos] 24) := hBx
  have HSV : Hid (TSt B bl T c V v ts) := hSV
  have HNV : Hid (NdIn V B n o cap) := hnV
  have Hx : Hid (w.heap.size ≠ T ∧ w.heap.size ≠ bl ∧ v.ownBlock ≠ some w.heap.size) := ⟨hx1, hx2, hx3⟩
  clear h hn hS hc hl hnV hSV hfV hBx ha hll hx1 hx2 hx3
  go_enter Tryz.func98, Tryz.ntmps98
  go_wp2_with (go_at_call 138; fail)
  refine HA.out.mono ?_
  rintro e w1 ⟨rfl, hb1⟩
  have S1 : Hid (TSt B bl T c w1 v ts) := HSV.out.below hb1
  have B1 : Hid (Blk w1 w.heap.size #[.int .i64 n.kind, .string (bs n.name), .int .i64 n.num, .slice o n.kids.length cap, .int .i64 n.pos] 24) := HBx.out.below hb1
  have N1 : Hid (NdIn w1 B n o cap) := HNV.out.below (hb1.mono (by have := HSV.out.lt; have := HSV.out.1; omega))
  have F1 : Hid (TFr T bl w w1 v v) := HF.out.trans (tfr_below hb1 v)
  clear hb1 HA HF HSV HBx HNV c0 c1 c2 c3 c4 hlV
  go_wp2_with (go_at_call 91; fail)
  refine (HMk.out _ _).mono ?_
  rintro e w2 ⟨rfl, hb2⟩
  have S2 : Hid (TSt B bl T c w2 v ts) := S1.out.below hb2
  have B2 : Hid (Blk w2 w.heap.size #[.int .i64 n.kind, .string (bs n.name), .int .i64 n.num, .slice o n.kids.length cap, .int .i64 n.pos] 24) := B1.out.below hb2
  have N2 : Hid (NdIn w2 B n o cap) := N1.out.below (hb2.mono (by have := S1.out.lt; have := S1.out.1; omega))
  have F2 : Hid (TFr T bl w w2 v v) := F1.out.trans (tfr_below hb2 v)
  have HP1 : Hid (Calls Tryz.prog 85 #[.pointer (some ⟨T, 0, none⟩), .slice (some ⟨w2.heap.size, 0, none⟩) 1 1] (w2.alloc (.cells #[.int .i64 8, .string ⟨#[40]⟩, .int .i64 0, .int .i64 0, .int .i64 0, .int .i64 0, .bool false] 39)) fun e W' => e = .returned (.tuple #[]) ∧ ∃ v'', TSt B bl T c W' v'' (ts ++ [lpT]) ∧ TFr T bl w2 W' v v'') := HP.out c ts v ⟨#[40]⟩ w2 S2.out (by omega)
  clear hb2 S1 B1 N1 F1
  go_wp2_with (go_at_call 85; fail)
  refine HP1.out.mono ?_
  rintro e w3 ⟨rfl, v3, s3, f3⟩
  have S3 : Hid (TSt B bl T c w3 v3 (ts ++ [lpT])) := s3
  have B3 : Hid (Blk w3 w.heap.size #[.int .i64 n.kind, .string (bs n.name), .int .i64 n.num, .slice o n.kids.length cap, .int .i64 n.pos] 24) := B2.out.tfr f3 Hx.out.1 Hx.out.2.1 Hx.out.2.2
  have N3 : Hid (NdIn w3 B n o cap) := N2.out.below (f3.below S2.out)
  have F3' : Hid (TFr T bl w w3 v v3) := F2.out.trans f3
  have R3 : Hid (v3.ownBlock ≠ some w.heap.size) := by
    rcases f3.row with e | ⟨gg, e, hgg⟩
    · intro h; rw [e] at h; exact Hx.out.2.2 h
    · intro h; rw [e] at h; cases h; have := B2.out.lt; omega
  have HC3 : Hid (Calls Tryz.prog 23 #[.pointer (some ⟨T, 0, none⟩), .agg #[.int .i64 n.kind, .string (bs n.name), .int .i64 n.num, .slice o n.kids.length cap, .int .i64 n.pos]] w3 fun e W' => e = .returned (.tuple #[]) ∧ ∃ v'', TSt B bl T (c + k) W' v'' ((ts ++ [lpT]) ++ out) ∧ TFr T bl w3 W' v3 v'') := HX.out w3 _ v3 N3.out S3.out (by simp)
  have d0 : w3.cell? ⟨w.heap.size, 0, none⟩ = some (.int .i64 n.kind) := B3.out.cell 0 _ rfl
  have d1 : w3.cell? ⟨w.heap.size, 1, none⟩ = some (.string (bs n.name)) := B3.out.cell 1 _ rfl
  have d2 : w3.cell? ⟨w.heap.size, 2, none⟩ = some (.int .i64 n.num) := B3.out.cell 2 _ rfl
  have d3 : w3.cell? ⟨w.heap.size, 3, none⟩ = some (.slice o n.kids.length cap) := B3.out.cell 3 _ rfl
  have d4 : w3.cell? ⟨w.heap.size, 4, none⟩ = some (.int .i64 n.pos) := B3.out.cell 4 _ rfl
  have hl3 := B3.out.lt
  clear s3 f3 HP1 S2 B2 N2 F2 HX
  go_wp2_with (go_at_call 23; fail)
  refine HC3.out.mono ?_
  rintro e w4 ⟨rfl, v4, s4, f4⟩
  have S4 : Hid (TSt B bl T (c + k) w4 v4 ((ts ++ [lpT]) ++ out)) := s4
  have F4 : Hid (TFr T bl w w4 v v4) := F3'.out.trans f4
  clear s4 f4 HC3 S3 B3 N3 F3' d0 d1 d2 d3 d4 hl3 R3
  go_wp2_with (go_at_call 91; fail)
  refine (HMk.out _ _).mono ?_
  rintro e w5 ⟨rfl, hb5⟩
  have S5 : Hid (TSt B bl T (c + k) w5 v4 ((ts ++ [lpT]) ++ out)) := S4.out.below hb5
  have F5 : Hid (TFr T bl w w5 v v4) := F4.out.trans (tfr_below hb5 v4)
  have HP2 : Hid (Calls Tryz.prog 85 #[.pointer (some ⟨T, 0, none⟩), .slice (some ⟨w5.heap.size, 0, none⟩) 1 1] (w5.alloc (.cells #[.int .i64 8, .string ⟨#[41]⟩, .int .i64 0, .int .i64 0, .int .i64 0, .int .i64 0, .bool false] 39)) fun e W' => e = .returned (.tuple #[]) ∧ ∃ v'', TSt B bl T (c + k) W' v'' (((ts ++ [lpT]) ++ out) ++ [rpT]) ∧ TFr T bl w5 W' v4 v'') := HP.out (c + k) _ v4 ⟨#[41]⟩ w5 S5.out (by simp; omega)
  clear hb5 S4 F4 HP
  go_wp2_with (go_at_call 85; fail)
  refine HP2.out.mono ?_
  rintro e w6 ⟨rfl, v6, s6, f6⟩
  have S6 : Hid (TSt B bl T (c + k) w6 v6 (ts ++ (lpT :: (out ++ [rpT])))) := by
    have e : ((ts ++ [lpT]) ++ out) ++ [rpT] = ts ++ (lpT :: (out ++ [rpT])) := by simp
    show TSt _ _ _ _ _ _ _
    rw [← e]; exact s6
  have F6 : Hid (TFr T bl w w6 v v6) := F5.out.trans f6
  clear s6 f6
  go_wp2
  go_end0
  exact ⟨rfl, v6, S6.out, F6.out⟩

end Go.Proofs.YtndpebkiiemfpaaGreatDoor
