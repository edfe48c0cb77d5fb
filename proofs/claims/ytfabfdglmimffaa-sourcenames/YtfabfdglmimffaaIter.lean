/-
  The two iterators of package source, by contracts: over a text's lines, and over a line's columns.
-/
import Derived.RangeFuncNested
import Derived.RangeFuncBound
import Derived.RangeFuncCalls
import Derived.RangeFuncLeaves
import Derived.Shelf.Abstract
import Derived.Shelf.RegionOpen
import Derived.WalkKit
import Derived.OwnWalkIn
import Derived.TacticsInMore
import Derived.LoopNIn
import Derived.LoopIn
import Derived.Test.YtfabfdglmimffaaProg
import Derived.Test.YtfabfdglmimffaaMath
namespace Go.Proofs.Ytfabfdglmimffaa
open Go.RowKit Go.Shelf

attribute [local go_sem] Oper.semAt_some

set_option maxHeartbeats 1000000 in
theorem lines_in (F : Fence) (n : Nat) (hF : ∀ k, F.fn k) (hro : F.round = none) (s : ByteArray) (w : World) :
    CallsIn F n Try.prog 19 #[.string s] w fun e w' => e = .returned (.func (.func 24) #[] #[.pointer (some ⟨w.heap.size, 0, none⟩)]) ∧ w' = w.alloc (.cells #[.string s] 9) := by
  refine callsIn_of_wp Try.func19 rfl (hF _) ?_ hro
  simp only [Try.ntmps19, List.size_toArray, List.length_cons, List.length_nil, Nat.reduceAdd, Nat.reduceSub, Array.replicate_succ, Array.replicate_zero, List.push_toArray, List.append_toArray, List.nil_append, List.cons_append]
  gi_wp2
  go_ret
  exact ⟨rfl, rfl⟩

set_option maxHeartbeats 1000000 in
theorem columns_in (F : Fence) (n : Nat) (hF : ∀ k, F.fn k) (hro : F.round = none) (s : ByteArray) (w : World) :
    CallsIn F n Try.prog 20 #[.string s] w fun e w' => e = .returned (.func (.func 26) #[] #[.pointer (some ⟨w.heap.size, 0, none⟩)]) ∧ w' = w.alloc (.cells #[.string s] 9) := by
  refine callsIn_of_wp Try.func20 rfl (hF _) ?_ hro
  simp only [Try.ntmps20, List.size_toArray, List.length_cons, List.length_nil, Nat.reduceAdd, Nat.reduceSub, Array.replicate_succ, Array.replicate_zero, List.push_toArray, List.append_toArray, List.nil_append, List.cons_append]
  gi_wp2
  go_ret
  exact ⟨rfl, rfl⟩

theorem indexByteString_run (s : ByteArray) (w : World) : (callFunc 29 #[.string s, .int .u8 10]).run Try.prog w = .ok (.value (.int .i64 (Lib.indexByte s.data.toList 10))) w := by
  rw [run_callFunc_extern Try.func29 (by kernel_rfl) (by kernel_rfl) (by kernel_rfl) (e := Extern.BytealgIndexByte.indexByte) (by kernel_rfl), run_indexByte_string, Lib.firstIdx_eq]
  rfl

set_option maxHeartbeats 1000000 in
theorem indexByteLite_in (F : Fence) (n : Nat) (hF : ∀ k, F.fn k) (hro : F.round = none) (_h1 : 1 ≤ n) (s : ByteArray) (w : World) :
    CallsIn F n Try.prog 28 #[.string s, .int .u8 10] w fun e w' => e = .returned (.int .i64 (Lib.indexByte s.data.toList 10)) ∧ w' = w := by
  have hx := indexByteString_run s
  refine callsIn_of_wp Try.func28 rfl (hF _) ?_ hro
  simp only [Try.ntmps28, List.size_toArray, List.length_cons, List.length_nil, Nat.reduceAdd, Nat.reduceSub, Array.replicate_succ, Array.replicate_zero, List.push_toArray, List.append_toArray, List.nil_append, List.cons_append]
  gi_wp2
  go_ret
  exact ⟨rfl, rfl⟩

set_option maxHeartbeats 1000000 in
theorem indexByte_in (F : Fence) (n : Nat) (hF : ∀ k, F.fn k) (hro : F.round = none) (_h1 : 1 ≤ n) (hn : 2 ≤ n) (s : ByteArray) (w : World) :
    CallsIn F n Try.prog 25 #[.string s, .int .u8 10] w fun e w' => e = .returned (.int .i64 (Lib.indexByte s.data.toList 10)) ∧ w' = w := by
  refine callsIn_of_wp Try.func25 rfl (hF _) ?_ hro
  simp only [Try.ntmps25, List.size_toArray, List.length_cons, List.length_nil, Nat.reduceAdd, Nat.reduceSub, Array.replicate_succ, Array.replicate_zero, List.push_toArray, List.append_toArray, List.nil_append, List.cons_append]
  gi_wp2_with (gi_at_call 28; refine (indexByteLite_in F (n - 1) hF hro (by omega) s _).mono ?_; rintro e w' ⟨rfl, rfl⟩)
  go_ret
  exact ⟨rfl, rfl⟩

theorem indexByte_at (F : Fence) (n : Nat) (hF : ∀ k, F.fn k) (hro : F.round = none) (hn : 2 ≤ n) (s : ByteArray) (r : Int) (hr : Lib.indexByte s.data.toList 10 = r) (w : World) :
    CallsIn F n Try.prog 25 #[.string s, .int .u8 10] w fun e w' => e = .returned (.int .i64 r) ∧ w' = w := by
  subst hr
  exact indexByte_in F n hF hro (by omega) hn s w

set_option maxHeartbeats 1000000 in
theorem behind_in (F : Fence) (n : Nat) (hF : ∀ k, F.fn k) (hro : F.round = none) (b : UInt8) (c : Int) (h1 : 1 ≤ c) (h2 : c ≤ 4000000000000000) (w : World) :
    CallsIn F n Try.prog 27 #[.int .u8 (b.toNat : Int), .int .i64 c] w fun e w' => e = .returned (.int .i64 (M.bh b c)) ∧ w' = w := by
  refine callsIn_of_wp Try.func27 rfl (hF _) ?_ hro
  simp only [Try.ntmps27, List.size_toArray, List.length_cons, List.length_nil, Nat.reduceAdd, Nat.reduceSub, Array.replicate_succ, Array.replicate_zero, List.push_toArray, List.append_toArray, List.nil_append, List.cons_append]
  by_cases hb : b = 9
  · subst hb
    gi_wp2
    go_ret
    exact ⟨by simp [M.bh], rfl⟩
  · have hb' : (((b.toNat : Int)) == 9) = false := by
      rw [beq_eq_false_iff_ne]
      intro e
      exact hb (UInt8.toNat_inj.1 (by simpa using (show b.toNat = 9 by omega)))
    gi_wp2
    go_ret
    exact ⟨by simp [M.bh, hb], rfl⟩

/-- What a round that goes on keeps: the iterator's own box. -/
def Keeps (B : Nat) (W W' : World) : Prop := ∀ v, W.cell? ⟨B, 0, none⟩ = some v → W'.cell? ⟨B, 0, none⟩ = some v
theorem Keeps.refl (B : Nat) (W : World) : Keeps B W W := fun _ h => h
theorem Keeps.trans {B : Nat} {X Y Z : World} (h : Keeps B X Y) (k : Keeps B Y Z) : Keeps B X Z := fun v e => k v (h v e)
theorem Keeps.put {B : Nat} {w : World} (W : World) (l : Nat) (o o' : Obj) (_ : w.heap.size ≤ l) (h : W.heap[l]? = some o) (hc : o.isCells = false) (_ : o.isWalk = false) : Keeps B W (W.putObj l o') :=
  fun _ e => cell_kept e (grownBy_putObj' W l o') (fun r e => by cases e; exact ⟨o, h, hc⟩)

set_option maxRecDepth 100000 in
set_option maxHeartbeats 2000000 in
theorem lines1_in (F : Fence) (n : Nat) (hF : ∀ k, F.fn k) (hro : F.round = none) (h1 : 1 ≤ n) (hn : 3 ≤ n) (l Bs : Nat) (s : ByteArray) (hs : s.size ≤ 140737488351232) (J Jx : List (Nat × ByteArray) → World → Prop)
    (hY : ∀ pre x W, J pre W → pre.length < (M.LN s 0).length → YieldAt F (n - 1) Try.prog l #[.int .i64 (x.1 : Int), .string x.2] W fun e W' =>
      (e = .returned (.bool true) ∧ J (pre ++ [x]) W' ∧ Keeps Bs W W') ∨ (e = .returned (.bool false) ∧ Jx (pre ++ [x]) W'))
    (W : World) (hBs : W.cell? ⟨Bs, 0, none⟩ = some (.string s)) (h0 : J [] W) :
    CallsIn F n Try.prog 24 #[.func (.yield l) #[] #[], .pointer (some ⟨Bs, 0, none⟩)] W fun e W' => (∃ v, e = .returned v) ∧
      ((∃ ys, ys = M.LN s 0 ∧ J ys W') ∨ (∃ pre, pre <+: M.LN s 0 ∧ Jx pre W')) := by
  refine callsIn_of_wp Try.func24 rfl (hF _) ?_ hro
  simp only [Try.ntmps24, List.size_toArray, List.length_cons, List.length_nil, Nat.reduceAdd, Nat.reduceSub, Array.replicate_succ, Array.replicate_zero, List.push_toArray, List.append_toArray, List.nil_append, List.cons_append]
  gi_wp2
  gi_loopw [3] (fun i wr => ∃ (k : Nat) (pre : List (Nat × ByteArray)), k ≤ s.size ∧ i = .int .i64 k ∧ Hid (M.LN s 0 = pre ++ M.LN s k) ∧ J pre wr ∧ wr.cell? ⟨Bs, 0, none⟩ = some (.string s))
    (fun i _ => s.size + 1 - (intOf i).toNat)
  case atStart => exact ⟨0, [], Nat.zero_le _, rfl, (by simp : M.LN s 0 = [] ++ M.LN s 0), h0, hBs⟩
  case round =>
    obtain ⟨k, pre, hk, rfl, hL, hJs, hbx⟩ := hrel
    have hge := Lib.indexByte_ge (s.extract k s.size).data.toList 10
    by_cases hr : Lib.indexByte (s.extract k s.size).data.toList 10 = -1
    · have hN := M.LN_none s k hr
      have hlen : pre.length < (M.LN s 0).length := by rw [hL.out, hN]; simp
      have hfin : Hid (pre ++ [(k, s.extract k s.size)] = M.LN s 0) := by show _ = _; rw [hL.out, hN]
      have HR : Hid (Lib.indexByte (s.extract k s.size).data.toList 10 = -1) := hr
      obtain ⟨fn, tmps, assign, body, hy, hR⟩ := hY pre (k, s.extract k s.size) wr hJs hlen
      dsimp only at hy
      clear hr hge hN hL hlen
      gi_wp2_with (gi_at_call 25; refine (indexByte_at F (n - 1) hF hro (by omega) (s.extract k s.size) (-1) HR.out _).mono ?_; rintro e w' ⟨rfl, rfl⟩)
      refine hR.mono ?_
      rintro e W3 (⟨rfl, hJ3, hk3⟩ | ⟨rfl, hJx3⟩)
      · gi_wp2
        refine bodyPost_ret (results_none rfl _ _ _) rfl ?_
        exact ⟨⟨_, rfl⟩, .inl ⟨_, hfin.out, hJ3⟩⟩
      · gi_wp2
        refine bodyPost_ret (results_none rfl _ _ _) rfl ?_
        exact ⟨⟨_, rfl⟩, .inr ⟨_, ⟨[], by rw [List.append_nil]; exact hfin.out⟩, hJx3⟩⟩
    · obtain ⟨m, hm⟩ : ∃ m : Nat, Lib.indexByte (s.extract k s.size).data.toList 10 = (m : Int) := ⟨(Lib.indexByte (s.extract k s.size).data.toList 10).toNat, by omega⟩
      obtain ⟨hle, hN⟩ := M.LN_some s k m hm
      have hlen : pre.length < (M.LN s 0).length := by rw [hL.out, hN]; simp
      have hfin : Hid (M.LN s 0 = (pre ++ [(k, s.extract k (k + m))]) ++ M.LN s (k + m + 1)) := by show _ = _; rw [hL.out, hN]; simp
      have HR : Hid (Lib.indexByte (s.extract k s.size).data.toList 10 = (m : Int)) := hm
      obtain ⟨fn, tmps, assign, body, hy, hR⟩ := hY pre (k, s.extract k (k + m)) wr hJs hlen
      dsimp only at hy
      have hsl : ∀ w : World, (Instr.slice 9 (.string s) (some (.int .i64 (k : Int))) (some (.int .i64 ((k : Int) + (m : Int)))) none).run Try.prog w = .ok (.string (s.extract k (k + m))) w := fun w => by
        rw [run_slice_string w 9 s .i64 .i64 k ((k : Int) + (m : Int)) Try.underlying9 (by omega) (by omega) (by omega)]
        rw [show ((k : Int) + (m : Int)).toNat = k + m from by omega, Int.toNat_natCast]
      clear hr hm hge hN hL hlen
      gi_wp2_with (gi_at_call 25; refine (indexByte_at F (n - 1) hF hro (by omega) (s.extract k s.size) (m : Int) HR.out _).mono ?_; rintro e w' ⟨rfl, rfl⟩)
      refine hR.mono ?_
      rintro e W3 (⟨rfl, hJ3, hk3⟩ | ⟨rfl, hJx3⟩)
      · gi_wp2
        go_roundw
        case rel => exact ⟨k + m + 1, _, hle, by go_num, hfin, hJ3, hk3 _ hbx⟩
        case measure => simp [intOf]; omega
      · gi_wp2
        refine bodyPost_ret (results_none rfl _ _ _) rfl ?_
        exact ⟨⟨_, rfl⟩, .inr ⟨_, ⟨_, hfin.out.symm⟩, hJx3⟩⟩

set_option maxRecDepth 100000 in
set_option maxHeartbeats 2000000 in
theorem columns1_in (F : Fence) (n : Nat) (hF : ∀ k, F.fn k) (hro : F.round = none) (h1 : 1 ≤ n) (_hn : 3 ≤ n) (l Bs : Nat) (s : ByteArray) (hs : s.size ≤ 140737488351232) (J Jx : List (Nat × Int) → World → Prop)
    (hY : ∀ pre x W, J pre W → pre.length < s.size + 1 → YieldAt F (n - 1) Try.prog l #[.int .i64 (x.1 : Int), .int .i64 x.2] W fun e W' =>
      (e = .returned (.bool true) ∧ J (pre ++ [x]) W' ∧ Keeps Bs W W') ∨ (e = .returned (.bool false) ∧ Jx (pre ++ [x]) W'))
    (W : World) (hBs : W.cell? ⟨Bs, 0, none⟩ = some (.string s)) (h0 : J [] W) :
    CallsIn F n Try.prog 26 #[.func (.yield l) #[] #[], .pointer (some ⟨Bs, 0, none⟩)] W fun e W' => (∃ v, e = .returned v) ∧
      ((∃ ys, ys = M.CL s ∧ J ys W') ∨ (∃ pre, (∃ k, k ≤ s.size ∧ pre = M.upto (M.colF s) (k + 1)) ∧ Jx pre W')) := by
  refine callsIn_of_wp Try.func26 rfl (hF _) ?_ hro
  simp only [Try.ntmps26, List.size_toArray, List.length_cons, List.length_nil, Nat.reduceAdd, Nat.reduceSub, Array.replicate_succ, Array.replicate_zero, List.push_toArray, List.append_toArray, List.nil_append, List.cons_append]
  gi_wp2
  gi_loopw [3, 7] (fun c i wr => ∃ k : Nat, k ≤ s.size ∧ i = .int .i64 k ∧ c = .int .i64 (M.colAt (s.data.toList.take k)) ∧ J (M.upto (M.colF s) k) wr ∧ wr.cell? ⟨Bs, 0, none⟩ = some (.string s))
    (fun _ i _ => s.size - (intOf i).toNat)
  case atStart => exact ⟨0, Nat.zero_le _, rfl, rfl, h0, hBs⟩
  case round =>
    obtain ⟨k, hk, rfl, rfl, hJs, hbx⟩ := hrel
    have hbd := M.colF_bd s k hk
    obtain ⟨fn, tmps, assign, body, hy, hR⟩ := hY _ (M.colF s k) wr hJs (by rw [M.upto_length]; omega)
    have hsn := M.upto_succ (M.colF s) k
    rw [← hsn] at hR
    dsimp only [M.colF] at hy
    have hx : ∃ x, M.colAt (s.data.toList.take k) = x := ⟨_, rfl⟩
    by_cases hlt : k < s.size
    · have hstep : Hid (M.colAt (s.data.toList.take (k + 1)) = M.bh s[k] (M.colAt (s.data.toList.take k))) := M.colF_step s k hlt
      clear hsn
      gi_wp2
      refine hR.mono ?_
      rintro e W3 (⟨rfl, hJ3, hk3⟩ | ⟨rfl, hJx3⟩)
      · have hbx3 := hk3 _ hbx
        gi_wp2_with (gi_at_call 27; refine (behind_in F (n - 1) hF hro s[k] (M.colAt (s.data.toList.take k)) (by omega) (by omega) _).mono ?_; rintro e w' ⟨rfl, rfl⟩)
        go_roundw
        case rel => exact ⟨k + 1, by omega, by go_num, by rw [hstep.out], hJ3, hbx3⟩
        case measure => simp [intOf]; omega
      · gi_wp2
        refine bodyPost_ret (results_none rfl _ _ _) rfl ?_
        exact ⟨⟨_, rfl⟩, .inr ⟨_, ⟨k, hk, rfl⟩, hJx3⟩⟩
    · obtain rfl : k = s.size := by omega
      clear hsn
      gi_wp2
      refine hR.mono ?_
      rintro e W3 (⟨rfl, hJ3, hk3⟩ | ⟨rfl, hJx3⟩)
      · gi_wp2
        go_end0
        exact ⟨⟨_, rfl⟩, .inl ⟨_, rfl, hJ3⟩⟩
      · gi_wp2
        go_end0
        exact ⟨⟨_, rfl⟩, .inr ⟨_, ⟨s.size, Nat.le_refl _, rfl⟩, hJx3⟩⟩

theorem lines_stops (F : Fence) (n : Nat) (hF : ∀ k, F.fn k) (hro : F.round = none) (hn : 3 ≤ n) (Bs : Nat) (s : ByteArray) (hs : s.size ≤ 140737488351232) (w : World) (hBs : Bs < w.heap.size)
    (hc : w.cell? ⟨Bs, 0, none⟩ = some (.string s)) :
    SeqStopsK F n Try.prog 24 #[.pointer (some ⟨Bs, 0, none⟩)] (fun x : Nat × ByteArray => #[Value.int .i64 (x.1 : Int), Value.string x.2]) (Keeps Bs) (fun ys => ys = M.LN s 0) (fun pre => pre <+: M.LN s 0) (M.LN s 0).length w :=
  fun l J Jx W hW _ _ hY h0 => lines1_in F n hF hro (by omega) hn l Bs s hs J Jx hY W ((hW.cell (p := ⟨Bs, 0, none⟩) hBs).trans hc) h0

theorem columns_stops (F : Fence) (n : Nat) (hF : ∀ k, F.fn k) (hro : F.round = none) (hn : 3 ≤ n) (Bs : Nat) (s : ByteArray) (hs : s.size ≤ 140737488351232) (w : World) (hBs : Bs < w.heap.size)
    (hc : w.cell? ⟨Bs, 0, none⟩ = some (.string s)) :
    SeqStopsK F n Try.prog 26 #[.pointer (some ⟨Bs, 0, none⟩)] (fun x : Nat × Int => #[Value.int .i64 (x.1 : Int), Value.int .i64 x.2]) (Keeps Bs) (fun ys => ys = M.CL s) (fun pre => ∃ k, k ≤ s.size ∧ pre = M.upto (M.colF s) (k + 1)) (s.size + 1) w :=
  fun l J Jx W hW _ _ hY h0 => columns1_in F n hF hro (by omega) hn l Bs s hs J Jx hY W ((hW.cell (p := ⟨Bs, 0, none⟩) hBs).trans hc) h0

end Go.Proofs.Ytfabfdglmimffaa
