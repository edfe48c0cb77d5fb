/-
  A token's lexeme, by contracts.
-/
import Derived.Test.YtppnhaacmhfenaaGreatDoorQuoted
namespace Go.Proofs.YtppnhaacmhfenaaGreatDoor
open Go.RowKit Go.Shelf Go.Maps
set_option linter.unusedVariables false

theorem Blk.new1b (w : World) (o : Obj) (vs : Array Value) (T : TypeId) : Blk ((w.alloc o).alloc (.cells vs T)) (w.heap.size + 1) vs T := by
  have := Blk.new (w.alloc o) vs T
  have hs : (w.alloc o).heap.size = w.heap.size + 1 := by simp
  rw [hs] at this
  exact this
/-- A token's lexeme. -/
def txM (kind : Int) (text : List UInt8) (num : Int) : List UInt8 :=
  if kind = 5 then Lib.itoa (max num 0)
  else if kind = 6 then quM 39 [] [UInt8.ofNat (min (max num 0) 255).toNat]
  else if kind = 7 then quM 34 [92, 38] text
  else if kind = 1 ∨ kind = 2 ∨ kind = 3 ∨ kind = 4 ∨ kind = 8 ∨ kind = 9 ∨ kind = 10 then text else []

set_option maxHeartbeats 4000000 in
set_option maxRecDepth 100000 in
theorem textInt_c (tx : List UInt8) (num : Int) (hn : num ≤ 9223372036854775807) (a l c : Int) (f : Bool) (w : World) (hG : GOK w) :
    Calls Tryz.prog 87 #[.agg #[.int .i64 5, .string (bs tx), .int .i64 num, .int .i64 a, .int .i64 l, .int .i64 c, .bool f]] w fun e W' => e = .returned (.string (bs (txM 5 tx num))) ∧ Below w.heap.size w W' := by
  have HI : Hid (∀ (n : Nat) (W : World), n ≤ 9223372036854775807 → Below w.heap.size w W → Calls Tryz.prog 153 #[.int .i64 (n : Int), .int .i64 10] W fun e W' => e = .returned (.string (bs (Lib.itoa (n : Int)))) ∧ Below W.heap.size W W') := fun n W hn hW => formatInt_c n hn W (hG.below hW)
  have hB : Hid (∀ o : Obj, Below w.heap.size w (w.alloc o)) := fun o => (Below.refl _ w).alloc (Nat.le_refl _) _
  clear hG
  obtain ⟨n, hm⟩ : ∃ n : Nat, max num 0 = (n : Int) := ⟨(max num 0).toNat, by omega⟩
  have HT : Hid (txM 5 tx num = Lib.itoa (n : Int)) := by show _ = _; unfold txM; rw [if_pos rfl, hm]
  have hn2 : n ≤ 9223372036854775807 := by omega
  go_enter Tryz.func87, Tryz.ntmps87
  go_wp2_with (go_at_call 153; fail)
  refine (HI.out n _ hn2 (hB.out _)).mono ?_
  rintro r w1 ⟨rfl, hb1⟩
  have HB1 : Hid (Below w.heap.size w w1) := (hB.out _).trans (hb1.mono (by simp))
  clear hb1 hm hn2
  go_wp2
  go_ret
  exact ⟨HT.out ▸ rfl, HB1.out⟩

set_option maxHeartbeats 4000000 in
set_option maxRecDepth 100000 in
theorem textStr_c (tx : List UInt8) (hx : tx.length ≤ 70000) (num a l c : Int) (f : Bool) (w : World) (hG : GOK w) :
    Calls Tryz.prog 87 #[.agg #[.int .i64 7, .string (bs tx), .int .i64 num, .int .i64 a, .int .i64 l, .int .i64 c, .bool f]] w fun e W' => e = .returned (.string (bs (txM 7 tx num))) ∧ Below w.heap.size w W' := by
  have HQ : Hid (∀ (W : World), Below w.heap.size w W → Calls Tryz.prog 154 #[.string (bs tx), .int .u8 34, .string (bs [92, 38])] W fun e W' => e = .returned (.string (bs (txM 7 tx num))) ∧ Below W.heap.size W W') := fun W hW => quoted_c (bs tx) 34 [92, 38] (by rw [bs_size]; exact hx) (by decide) W (hG.below hW)
  have hB : Hid (∀ o : Obj, Below w.heap.size w (w.alloc o)) := fun o => (Below.refl _ w).alloc (Nat.le_refl _) _
  clear hG hx
  go_enter Tryz.func87, Tryz.ntmps87
  go_wp2_with (go_at_call 154; fail)
  refine (HQ.out _ (hB.out _)).mono ?_
  rintro r w1 ⟨rfl, hb1⟩
  go_wp2
  go_ret
  exact ⟨rfl, (hB.out _).trans (hb1.mono (by simp))⟩

set_option maxHeartbeats 4000000 in
set_option maxRecDepth 100000 in
theorem textNone_c (k : Int) (hk : k < 1 ∨ 10 < k) (tx : List UInt8) (num a l c : Int) (f : Bool) (w : World) :
    Calls Tryz.prog 87 #[.agg #[.int .i64 k, .string (bs tx), .int .i64 num, .int .i64 a, .int .i64 l, .int .i64 c, .bool f]] w fun e W' => e = .returned (.string (bs (txM k tx num))) ∧ Below w.heap.size w W' := by
  have hB : Hid (∀ o : Obj, Below w.heap.size w (w.alloc o)) := fun o => (Below.refl _ w).alloc (Nat.le_refl _) _
  have HT : Hid (txM k tx num = []) := by show _ = _; unfold txM; rw [if_neg (by omega), if_neg (by omega), if_neg (by omega), if_neg (by omega)]
  have e1 : (k == 1) = false := beq_eq_false_iff_ne.2 (by omega)
  have e2 : (k == 2) = false := beq_eq_false_iff_ne.2 (by omega)
  have e3 : (k == 3) = false := beq_eq_false_iff_ne.2 (by omega)
  have e4 : (k == 4) = false := beq_eq_false_iff_ne.2 (by omega)
  have e5 : (k == 5) = false := beq_eq_false_iff_ne.2 (by omega)
  have e6 : (k == 6) = false := beq_eq_false_iff_ne.2 (by omega)
  have e7 : (k == 7) = false := beq_eq_false_iff_ne.2 (by omega)
  have e8 : (k == 8) = false := beq_eq_false_iff_ne.2 (by omega)
  have e9 : (k == 9) = false := beq_eq_false_iff_ne.2 (by omega)
  have e10 : (k == 10) = false := beq_eq_false_iff_ne.2 (by omega)
  clear hk
  go_enter Tryz.func87, Tryz.ntmps87
  go_wp2
  go_ret
  exact ⟨by rw [HT.out]; rfl, hB.out _⟩

set_option maxHeartbeats 4000000 in
set_option maxRecDepth 100000 in
theorem textChar_c (tx : List UInt8) (num : Int) (a l c : Int) (f : Bool) (w : World) (hG : GOK w) :
    Calls Tryz.prog 87 #[.agg #[.int .i64 6, .string (bs tx), .int .i64 num, .int .i64 a, .int .i64 l, .int .i64 c, .bool f]] w fun e W' => e = .returned (.string (bs (txM 6 tx num))) ∧ Below w.heap.size w W' := by
  have HQ : Hid (∀ (n : Nat) (W : World), n ≤ 255 → Below w.heap.size w W → Calls Tryz.prog 154 #[.string (bs [UInt8.ofNat n]), .int .u8 39, .string (bs [])] W fun e W' => e = .returned (.string (bs (quM 39 [] [UInt8.ofNat n]))) ∧ Below W.heap.size W W') := fun n W hn hW => quoted_c (bs [UInt8.ofNat n]) 39 [] (by rw [bs_size]; simp) (by decide) W (hG.below hW)
  have hB : Hid (∀ o : Obj, Below w.heap.size w (w.alloc o)) := fun o => (Below.refl _ w).alloc (Nat.le_refl _) _
  clear hG
  obtain ⟨n, hm⟩ : ∃ n : Nat, min (max num 0) 255 = (n : Int) := ⟨(min (max num 0) 255).toNat, by omega⟩
  have HT : Hid (txM 6 tx num = quM 39 [] [UInt8.ofNat n]) := by show _ = _; unfold txM; rw [if_neg (by omega), if_pos rfl, hm]; rfl
  have hn2 : n ≤ 255 := by omega
  have hn3 : (n : Int) ≤ 255 := by omega
  have hcv : ∀ o : Obj, (convert 72 9 (.slice (some ⟨w.heap.size + 1, 0, none⟩) 1 1)).run Tryz.prog ((w.alloc o).alloc (.cells #[.int .u8 (n : Int)] 5)) = .ok (.string (bs [UInt8.ofNat n])) ((w.alloc o).alloc (.cells #[.int .u8 (n : Int)] 5)) := by
    intro o
    refine run_convert_bytes_back _ 72 9 5 ⟨w.heap.size + 1, 0, none⟩ 1 [UInt8.ofNat n] Tryz.underlying72 Tryz.underlying5 Tryz.underlying9 ?_
    intro j hj
    have hj0 : j = 0 := by simpa using hj
    subst hj0
    have := (Blk.new1b w o #[.int .u8 (n : Int)] 5).cell 0 _ rfl
    have e : ((UInt8.ofNat n).toNat : Int) = (n : Int) := by rw [UInt8.toNat_ofNat']; omega
    show _ = some (Value.int .u8 ((UInt8.ofNat n).toNat : Int))
    rw [e]
    exact this
  have hBB : Hid (∀ o o' : Obj, Below w.heap.size w ((w.alloc o).alloc o')) := fun o o' => ((Below.refl _ w).alloc (Nat.le_refl _) _).alloc (by simp) _
  go_enter Tryz.func87, Tryz.ntmps87
  go_wp2_with (go_at_call 154; fail)
  refine (HQ.out n _ hn2 (hBB.out _ _)).mono ?_
  rintro r w1 ⟨rfl, hb1⟩
  have HB1 : Hid (Below w.heap.size w w1) := (hBB.out _ _).trans (hb1.mono (by simp; omega))
  clear hb1 hm hn2 hn3 hcv
  go_wp2
  go_ret
  exact ⟨HT.out ▸ rfl, HB1.out⟩

end Go.Proofs.YtppnhaacmhfenaaGreatDoor
