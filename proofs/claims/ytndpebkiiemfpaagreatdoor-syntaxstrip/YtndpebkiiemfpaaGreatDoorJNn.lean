/-
  slices.AppendSeq and slices.Collect over texts, by contracts.
  Names: the names of a tree's variables, rising, each once.
-/
import Derived.Maps.AppendAt
import Derived.RangeFuncNested
import Derived.RangeFuncBound
import Derived.RangeFuncCalls
import Derived.RangeFuncLeaves
import Derived.Shelf.Abstract
import Derived.Shelf.RegionOpen
import Derived.Shelf.SlIter.Stops
import Derived.WalkKit
import Derived.OwnWalkIn
import Derived.TacticsInMore
import Derived.LoopNIn
import Derived.LoopIn
import Derived.Test.YtndpebkiiemfpaaGreatDoorJSp
import Derived.Test.YtndpebkiiemfpaaGreatDoorShelfS
import Derived.Shelf.SlIter.Keys
import Derived.Sort.OwnSorted
import Derived.Sort.KeysCollected
namespace Go.Proofs.YtndpebkiiemfpaaGreatDoor
open Go.RowKit Go.Shelf Go.Maps Go.Sort
set_option linter.unusedVariables false

attribute [local go_sem] Oper.semAt_some

theorem info9 : (Tryz.prog.info? 9).map (fun i => (i.zero, i.size, i.bytes)) = some (some (.string ⟨#[]⟩), 1, 16) := by kernel_rfl
theorem owns_mono4 {W : World} {b b' : Nat} {e : TypeId} {z : Nat} {v : Value} {k : Nat} {xs : List Value} (h : W.ownsRow b e z v k xs) (hb : b' ≤ b) : W.ownsRow b' e z v k xs := by
  rcases h with ⟨hl, h | ⟨g, cap, cur, h1, h2, h3⟩⟩
  · exact ⟨hl, .inl h⟩
  · exact ⟨hl, .inr ⟨g, cap, cur, h1, Nat.le_trans hb h2, h3⟩⟩

set_option maxRecDepth 100000 in
set_option maxHeartbeats 2000000 in
theorem appendSeq_in (F : Fence) (n : Nat) (hF : ∀ k, F.fn k) (hro : F.round = none) (h1 : 1 ≤ n) (hn : 3 ≤ n) (B : Nat) (sv : Value) (k0 : Nat) (xs0 : List Value) (g : Nat) (lb : Array Value) (eg : ∀ args w, (callFunc g args).run Tryz.prog w = .ok (.enter g args) w)
    (S Sp : List (List UInt8) → Prop) (N : Nat) (hN : k0 + N ≤ 1000000) (w : World) (hB : B ≤ w.heap.size) (hrow0 : w.ownsRow B 9 1 sv k0 xs0) (hseq : SeqStops F (n - 1) Tryz.prog g lb encStr S Sp N w) :
    CallsIn F n Tryz.prog 121 #[sv, .func (.func g) #[] lb] w fun e W' => ∃ (v : Value) (ss : List (List UInt8)), e = .returned v ∧ S ss ∧ W'.ownsRow B 9 1 v (k0 + ss.length) (xs0 ++ ss.map encStr) ∧ Below B w W' := by
  obtain ⟨i0, hi, hz0, hz1, hz2⟩ := info_parts info9
  obtain ⟨so, sl, sc, rfl⟩ : ∃ so sl sc, sv = .slice so sl sc := by
    rcases hrow0.2 with ⟨rfl, _⟩ | ⟨gb, cap, cur, rfl, _⟩
    · exact ⟨_, _, _, rfl⟩
    · exact ⟨_, _, _, rfl⟩
  refine callsIn_of_wp_marks Tryz.func121 rfl (hF _) ?_ hro
  simp only [Tryz.ntmps121, List.size_toArray, List.length_cons, List.length_nil, Nat.reduceAdd, Nat.reduceSub, Array.replicate_succ, Array.replicate_zero, List.push_toArray, List.append_toArray, List.nil_append, List.cons_append]
  gi_wp2
  obtain ⟨W0, hW0⟩ : ∃ W0, w.alloc (.cells #[.slice so sl sc] 44) = W0 := ⟨_, rfl⟩
  have b0 : Boxed W0 w.heap.size 44 (.slice so sl sc) := by rw [← hW0]; exact Boxed.new w _ _
  have hB0 : Below B w W0 := by rw [← hW0]; exact (Below.refl _ _).alloc hB _
  have hB1 : Below w.heap.size w W0 := by rw [← hW0]; exact (Below.refl _ _).alloc (Nat.le_refl _) _
  have hr0 : W0.ownsRow B 9 1 (.slice so sl sc) k0 xs0 := by rw [← hW0]; exact hrow0.alloc _
  rw [hW0]
  have Hsz : Hid (W0.heap.size = w.heap.size + 1) := by show _ = _; rw [← hW0]; simp
  clear hW0
  refine wpIn_rangeFunc_ownG hro h1 (gf := g) (lb := lb) rfl (hF _) eg (w0 := w) (encs := fun x => #[encStr x]) (Kp := KeepsWalks) (S := S) (Sp := Sp) (N := N) hseq walksK_t (fun W l o o' hl => walksK_b (w := W0) W l o o' hl) hB1 (fun _ => rfl)
    (fun pre W => (∃ v, Boxed W w.heap.size 44 v ∧ W.ownsRow B 9 1 v (k0 + pre.length) (xs0 ++ pre.map encStr) ∧ True) ∧ Below B w W)
    (fun _ _ _ => False)
    (OwnFrom.and (Own.from (holdsRow_own B w.heap.size 44 9 1 (fun pre : List (List UInt8) => k0 + pre.length) (fun pre => xs0 ++ pre.map encStr) (fun pre v => True)) _) (ownFrom_below hB (by have := Hsz.out; omega)))
    (fun _ _ _ _ _ hs _ _ => hs)
    ⟨⟨_, b0, by simpa using hr0, trivial⟩, hB0⟩
    ?a1 ?assign ?body ?done ?stop
  case assign =>
    intro l x W K hK
    gi_wp2
    exact hK
  case body =>
    rintro l pre x W ⟨⟨v, hv, hrow, _⟩, hBW⟩ hlt
    have hc := hv.cell
    gi_wp2_with (gi_at_builtin; refine wpListIn_append_own _ rfl _ _ 44 rfl B 9 i0 (.string ⟨#[]⟩) 1 16 Tryz.underlying44 hi hz0 hz1 hz2 rfl (by decide) _ _ _ rfl (hrow.alloc _) ⟨W.heap.size, 0, none⟩ 1 1 [encStr x] rfl rfl (cell_one_new _ _ _) (by simp [Value.oneCell', encStr]) (by unfold maxLen; omega) (by omega) (by have := hBW.size; simp; omega) ?_; intro v' w1 hown' hgrow _; obtain ⟨g', cap', rfl⟩ := ownsRow_succ hown'; obtain ⟨hv1, hv2, hr2, hk2, hb2⟩ := hv.appended (n₀ := B) (by decide) hrow (Nat.le_trans hB hBW.size) hB hown' hgrow; have hc1 := hv1.cell; have hf1 := hv1.frozen)
    refine ⟨hk2.from _, hk2.walks, ⟨_, hv2, ?_, trivial⟩, hBW.trans hb2⟩
    have e1 : k0 + (pre ++ [x]).length = k0 + pre.length + 1 := by simp; omega
    have e2 : xs0 ++ (pre ++ [x]).map encStr = xs0 ++ pre.map encStr ++ [encStr x] := by simp
    rw [e1, e2]
    exact hr2
  case done =>
    rintro D ys W hD hS ⟨⟨v, hv, hrow, _⟩, hBW⟩ hK
    have hc := hv.cell
    gi_wp2
    refine ⟨by simp, .inl ⟨_, _, rfl, run_takeDeferred hK, ?_⟩⟩
    exact ⟨_, results_tmp rfl _ _ _, v, ys, rfl, hS, ownsRow_putObj hrow _ hK rfl, hBW.trans (belowK_b (w := w) hB W D _ _ (by have := Hsz.out; omega) hK rfl rfl)⟩
  case stop =>
    rintro D c pre W _ _ h _
    exact h.elim
end Go.Proofs.YtndpebkiiemfpaaGreatDoor

namespace Go.Proofs.YtndpebkiiemfpaaGreatDoor
open Go.RowKit Go.Shelf Go.Maps Go.Sort
set_option linter.unusedVariables false

def Tryz.keysS_ren : Go.Shelf.Ren := ⟨fun | 7 => 41 | 10 => 67 | n => n, fun | 0 => 0 | 3 => 86 | 4 => 4 | 23 => 67 | 26 => 9 | 27 => 83 | 28 => 84 | 33 => 114 | n => n, fun n => n⟩
theorem Tryz.keysS : Go.Proofs.SlLaysZ.n7 Tryz.prog Tryz.keysS_ren := {
  mixed := by kernel_rfl
  f7 := ⟨Tryz.f41.name, by kernel_rfl, Tryz.func41.trans (congrArg some (by kernel_rfl))⟩
  f10 := ⟨Tryz.f67.name, by kernel_rfl, Tryz.func67.trans (congrArg some (by kernel_rfl))⟩
  t0 := Tryz.underlying0
  a0 := Tryz.isAgg0
  z0 := Tryz.sizeOf0
  v0 := Tryz.zeroValue0
  t4 := Tryz.underlying4
  a4 := Tryz.isAgg4
  z4 := Tryz.sizeOf4
  v4 := Tryz.zeroValue4
  t23 := Tryz.underlying67
  a23 := Tryz.isAgg67
  z23 := Tryz.sizeOf67
  v23 := Tryz.zeroValue67
  t26 := Tryz.underlying9
  a26 := Tryz.isAgg9
  z26 := Tryz.sizeOf9
  v26 := Tryz.zeroValue9
  t27 := Tryz.underlying83
  a27 := Tryz.isAgg83
  z27 := Tryz.sizeOf83
  v27 := Tryz.zeroValue83
  t28 := Tryz.underlying84
  a28 := Tryz.isAgg84
  z28 := Tryz.sizeOf84
  v28 := Tryz.zeroValue84
  t33 := Tryz.underlying114
  a33 := Tryz.isAgg114
  z33 := Tryz.sizeOf114
  v33 := Tryz.zeroValue114 }


theorem keysS_in (F : Fence) (n : Nat) (hF : ∀ k, F.fn k) (hro : F.round = none) (b : Nat) (w : World) :
    CallsIn F n Tryz.prog 41 #[.map (some b)] w fun e w' => e = .returned (.func (.func 67) #[] #[.pointer (some ⟨w.heap.size, 0, none⟩)]) ∧ w' = w.alloc (.cells #[.map (some b)] 67) :=
  AnyZ.keys_in Tryz.keysS F n (hF _) hro (some b) w
theorem keysS_stops (F : Fence) (n : Nat) (hF : ∀ k, F.fn k) (hro : F.round = none) (hn : 1 ≤ n) (L : List (List UInt8)) (hnd : L.Nodup) (b c : Nat) (w : World) (h : SetIs w b c (fun x => decide (x ∈ L))) :
    SeqStops F n Tryz.prog 67 #[.pointer (some ⟨w.heap.size, 0, none⟩)] encStr (fun ss => ss.Perm L) (fun _ => True) c (w.alloc (.cells #[.map (some b)] 67)) := by
  obtain ⟨D, hown, hD, hall⟩ := h
  have hp : L.Perm (strKeys D) := by
    refine Collected.perm (left := fun _ => false) ⟨hnd, fun x => ?_⟩ hown (string_keyed Tryz.underlying9) Tryz.underlying9 (fun _ => rfl)
    rw [hall x]
    simp
  have hs := hown.size_le
  have hk := AnyZ.keys_stops (ρ := Tryz.keysS_ren) { Tryz.keysS with } F n (hF _) hro hn w.heap.size b c D (w.alloc (.cells #[.map (some b)] 67)) (by simp) (by simp) (hown.alloc _)
  intro l J Jx W hW hJ hJx hY h0
  refine (hk l J Jx W hW hJ hJx (fun pre x W1 hj hl => hY pre x W1 hj (Nat.lt_of_lt_of_le hl hs)) h0).mono ?_
  rintro e W' ⟨hv, h | h⟩
  · obtain ⟨xs, hS, hj⟩ := h
    exact ⟨hv, .inl ⟨xs, hS.1.trans hp.symm, hj⟩⟩
  · obtain ⟨pre, _, hj⟩ := h
    exact ⟨hv, .inr ⟨pre, trivial, hj⟩⟩
set_option maxRecDepth 100000 in
set_option maxHeartbeats 1000000 in
theorem collect_in (F : Fence) (n : Nat) (hF : ∀ k, F.fn k) (hro : F.round = none) (hn : 4 ≤ n) (g : Nat) (lb : Array Value) (eg : ∀ args w, (callFunc g args).run Tryz.prog w = .ok (.enter g args) w)
    (S Sp : List (List UInt8) → Prop) (N : Nat) (hN : N ≤ 1000000) (w : World) (hseq : SeqStops F (n - 1 - 1) Tryz.prog g lb encStr S Sp N w) :
    CallsIn F n Tryz.prog 65 #[.func (.func g) #[] lb] w fun e W' => ∃ (v : Value) (ss : List (List UInt8)), e = .returned v ∧ S ss ∧ W'.ownsRow w.heap.size 9 1 v ss.length (ss.map encStr) ∧ Below w.heap.size w W' := by
  have hfs : ∀ k, F.fn k := hF
  refine callsIn_of_wp Tryz.func65 rfl (hF _) ?_ hro
  simp only [Tryz.ntmps65, List.size_toArray, List.length_cons, List.length_nil, Nat.reduceAdd, Nat.reduceSub, Array.replicate_succ, Array.replicate_zero, List.push_toArray, List.append_toArray, List.nil_append, List.cons_append]
  have h1 : 1 ≤ n := by omega
  gi_wp2_with (gi_at_call 121; refine (appendSeq_in F (n - 1) hF hro (by omega) (by omega) w.heap.size (.slice none 0 0) 0 [] g lb eg S Sp N (by omega) w (Nat.le_refl _) (World.ownsRow_nil _ _ _ _) hseq).mono ?_; rintro e w' ⟨v, ss, rfl, hS, hrow, hb⟩)
  go_ret
  exact ⟨v, ss, rfl, hS, by simpa using hrow, hb⟩

theorem own_below4 {W W' : World} {b : Nat} {e : TypeId} {z : Nat} {v : Value} {k : Nat} {xs : List Value} (h : W.ownsRow b e z v k xs) (hb : Below W.heap.size W W') : W'.ownsRow b e z v k xs := by
  rcases h with ⟨hl, h | ⟨g, cap, cur, h1, h2, h3, h4⟩⟩
  · exact ⟨hl, .inl h⟩
  · exact ⟨hl, .inr ⟨g, cap, cur, h1, h2, (hb.block g (Array.getElem?_eq_some_iff.1 h3).1).trans h3, h4⟩⟩
set_option maxRecDepth 100000 in
set_option maxHeartbeats 4000000 in
theorem sort4_c (B : Nat) (ss : List (List UInt8)) (v : Value) (w : World) (hr : w.ownsRow B 9 1 v ss.length (ss.map encStr)) (hl : ss.length ≤ 1000000) (hB : B ≤ w.heap.size) : Calls Tryz.prog 66 #[v] w fun e w' => e = .returned (.tuple #[]) ∧ w'.ownsRow B 9 1 v ss.length ((ss.mergeSort leB).map encStr) ∧ Below B w w' := by
  rcases hr.2 with ⟨rfl, hz⟩ | ⟨gb, cap, cur, rfl, hbase, hgb, r1, r2, r3, r4⟩
  · have he : ss = [] := List.length_eq_zero_iff.1 hz
    subst he
    refine (sortZ_c w).mono ?_
    rintro e w' ⟨rfl, rfl⟩
    exact ⟨rfl, by simpa using hr, Below.refl _ _⟩
  · have hH : Holds encStr w gb 0 ss.toArray := holds_of_block hgb (by simpa using r4)
    have hgl : gb < w.heap.size := (Array.getElem?_eq_some_iff.1 hgb).1
    refine (Tryz.slices_Sort gb 0 cap ss w hH hgl (by omega)).mono ?_
    rintro e w7 ⟨rfl, n, os, rfl⟩
    refine ⟨rfl, ?_, (Below.refl B w).grown (grownBy_sorted _) hB (fun j hj => by cases hj; exact hbase)⟩
    exact ownsRow_sorted (w := w) (base := B) (g := gb) (cap := cap) (n := n) (e := 9) (os := os) (cur := cur) (ss := ss) (ts := ss.mergeSort leB) (by simp) hbase hgb r1 r2 r3
set_option maxRecDepth 100000 in
set_option maxHeartbeats 4000000 in
theorem sorted4_c (L : List (List UInt8)) (hL : L.length ≤ 1000000) (c : Nat) (hc : c ≤ 1000000) (lb : Array Value) (w : World) (hseq : SeqStops Fence.wide 3 Tryz.prog 67 lb encStr (fun ss => ss.Perm L) (fun _ => True) c w) :
    Calls Tryz.prog 40 #[.func (.func 67) #[] lb] w fun e W' => ∃ v, e = .returned v ∧ W'.ownsRow w.heap.size 9 1 v L.length ((L.mergeSort leB).map encStr) ∧ Below w.heap.size w W' := by
  have HC : Hid (Calls Tryz.prog 65 #[.func (.func 67) #[] lb] w fun e W' => ∃ (v : Value) (ss : List (List UInt8)), e = .returned v ∧ ss.Perm L ∧ W'.ownsRow w.heap.size 9 1 v ss.length (ss.map encStr) ∧ Below w.heap.size w W') := callsIn_wide.1 (collect_in Fence.wide 5 (fun _ => trivial) rfl (by omega) 67 _ (enters_of Tryz.func67 (by kernel_rfl) rfl) _ _ c hc w hseq)
  clear hseq hc
  go_enter Tryz.func40, Tryz.ntmps40
  go_wp2_with (go_at_call 65; fail)
  refine HC.out.mono ?_
  rintro e w1 ⟨v, ss, rfl, hp, hr, hb⟩
  have hlen : ss.length = L.length := hp.length_eq
  have HS : Hid (Calls Tryz.prog 66 #[v] w1 fun e w' => e = .returned (.tuple #[]) ∧ w'.ownsRow w.heap.size 9 1 v L.length ((L.mergeSort leB).map encStr) ∧ Below w.heap.size w1 w') := by
    have := sort4_c w.heap.size ss v w1 hr (by omega) hb.size
    rw [hlen, mergeSort_of_perm hp] at this
    exact this
  have HB : Hid (Below w.heap.size w w1) := hb
  clear hp hr hb hlen HC
  go_wp2_with (go_at_call 66; fail)
  refine HS.out.mono ?_
  rintro e w2 ⟨rfl, hr2, hb2⟩
  have HE : Hid (w2.ownsRow w.heap.size 9 1 v L.length ((L.mergeSort leB).map encStr) ∧ Below w.heap.size w w2) := ⟨hr2, HB.out.trans hb2⟩
  clear hr2 hb2 HS
  go_wp2
  go_ret
  exact ⟨_, rfl, HE.out⟩
/-- Each once. -/
def dd : List (List UInt8) → List (List UInt8)
  | [] => []
  | x :: l => if x ∈ dd l then dd l else x :: dd l
theorem dd_mem : ∀ (l : List (List UInt8)) (x : List UInt8), x ∈ dd l ↔ x ∈ l
  | [], x => Iff.rfl
  | y :: l, x => by
    have ih := dd_mem l
    unfold dd
    split
    · rename_i h
      rw [ih]
      constructor
      · intro hx; simp [hx]
      · intro hx
        rcases List.mem_cons.1 hx with rfl | hx
        · exact (ih _).1 h
        · exact hx
    · simp only [List.mem_cons, ih]
theorem dd_nodup : ∀ l : List (List UInt8), (dd l).Nodup
  | [] => List.nodup_nil
  | y :: l => by
    have ih := dd_nodup l
    unfold dd
    split
    · exact ih
    · rename_i h
      exact List.nodup_cons.2 ⟨h, ih⟩
theorem dd_len : ∀ l : List (List UInt8), (dd l).length ≤ l.length
  | [] => Nat.le_refl _
  | y :: l => by
    have ih := dd_len l
    unfold dd
    split
    · simp; omega
    · simp; omega
mutual
theorem vsNlen : ∀ n : Nd, (vsN n).length ≤ szA n
  | .mk k nm nu kids ps => by
    have h := vsLlen kids
    simp only [vsN, szA, List.length_append]
    split <;> simp <;> omega
theorem vsLlen : ∀ l : List Nd, (vsL l).length ≤ szL l
  | [] => Nat.le_refl _
  | x :: l => by
    have h1 := vsNlen x
    have h2 := vsLlen l
    simp only [vsL, szL, List.length_append]; omega
end
/-- What Names answers. -/
def nmL4 (n : Nd) : List (List UInt8) := (dd (vsN n)).mergeSort leB
set_option maxRecDepth 100000 in
set_option maxHeartbeats 4000000 in
theorem nms4_c (n : Nd) (o : Option Addr) (cap : Nat) (w : World) (hn : NdIn w w.heap.size n o cap) (hd : deepLe 256 n) (hz : szA n ≤ 900000) :
    Calls Tryz.prog 16 #[.agg #[.int .i64 n.kind, .string (bs n.name), .int .i64 n.num, .slice o n.kids.length cap, .int .i64 n.pos]] w fun e W' => ∃ v, e = .returned v ∧ W'.ownsRow w.heap.size 9 1 v (nmL4 n).length ((nmL4 n).map encStr) ∧ Below w.heap.size w W' := by
  have hmm : ∀ W : World, (Instr.makeMap 67 none).run Tryz.prog W = .ok (.map (some W.heap.size)) (W.alloc (.map #[] 0)) := fun W => rfl
  have hb0 : Below w.heap.size w (w.alloc (.cells #[.int .i64 n.kind, .string (bs n.name), .int .i64 n.num, .slice o n.kids.length cap, .int .i64 n.pos] 24)) := (Below.refl _ w).alloc (Nat.le_refl _) _
  have k1 : Blk (w.alloc (.cells #[.int .i64 n.kind, .string (bs n.name), .int .i64 n.num, .slice o n.kids.length cap, .int .i64 n.pos] 24)) w.heap.size #[.int .i64 n.kind, .string (bs n.name), .int .i64 n.num, .slice o n.kids.length cap, .int .i64 n.pos] 24 := Blk.new _ _ _
  obtain ⟨V, hV⟩ : ∃ V, w.alloc (.cells #[.int .i64 n.kind, .string (bs n.name), .int .i64 n.num, .slice o n.kids.length cap, .int .i64 n.pos] 24) = V := ⟨_, rfl⟩
  have HV : Hid (w.alloc (.cells #[.int .i64 n.kind, .string (bs n.name), .int .i64 n.num, .slice o n.kids.length cap, .int .i64 n.pos] 24) = V) := hV
  rw [hV] at hb0 k1
  have n1 : NdAt V V.heap.size n w.heap.size 0 := ndAt_cells ((hn.below hb0).mono hb0.size) (fun j u hu => by
    have := k1.cell j u (by simpa [ndL] using hu)
    simpa using this)
  have HT : Hid (Calls Tryz.prog 36 #[.pointer (some ⟨w.heap.size, 0, none⟩)] V fun e W' => e = .returned (.bool false) ∧ Below V.heap.size V W') := tooDeep_c n w.heap.size 0 V.heap.size V n1 k1.lt (Nat.le_refl _) hd (by omega)
  have HS : Hid (Below w.heap.size w V ∧ NdAt V V.heap.size n w.heap.size 0 ∧ w.heap.size < V.heap.size) := ⟨hb0, n1, k1.lt⟩
  have HN : Hid (deepLe 256 n ∧ szA n ≤ 900000) := ⟨hd, hz⟩
  clear hn hd hz hb0 k1 hV n1
  go_enter Tryz.func16, Tryz.ntmps16
  go_wp2_with (go_at_call 36; fail)
  rw [HV.out]
  refine HT.out.mono ?_
  rintro e w1 ⟨rfl, hb1⟩
  have hw1 : Below w.heap.size w w1 := HS.out.1.trans (hb1.mono HS.out.1.size)
  obtain ⟨U, hU⟩ : ∃ U, w1.alloc (.map #[] 0) = U := ⟨_, rfl⟩
  have HU : Hid (w1.alloc (.map #[] 0) = U) := hU
  have hbU : Below w1.heap.size w1 U := by rw [← hU]; exact (Below.refl _ _).alloc (Nat.le_refl _) _
  have hset : SetIs U w1.heap.size 0 (fun _ => false) := by rw [← hU]; exact setIs_new w1
  have hnd : NdAt U w1.heap.size n w.heap.size 0 := NdAt.mono hb1.size n _ _ (NdAt.below (hb1.trans (hbU.mono hb1.size)) n _ _ HS.out.2.2 HS.out.2.1)
  have HG := gatOK 256 n w.heap.size 0 w1.heap.size w1.heap.size 0 _ U hnd (Nat.lt_of_lt_of_le HS.out.2.2 hb1.size) (Nat.le_refl _) HN.out.1 (by have := HN.out.2; omega) hset
  have HG2 : Hid (Calls Tryz.prog 39 #[.pointer (some ⟨w.heap.size, 0, none⟩), .map (some w1.heap.size)] U fun e W' => e = .returned (.tuple #[]) ∧ ∃ c', c' ≤ 900000 ∧ SetIs W' w1.heap.size c' (fun x => decide (x ∈ dd (vsN n))) ∧ Below w.heap.size w W') := HG.mono (fun e W' ⟨h1, c', h2, h3, h4⟩ => ⟨h1, c', by have := HN.out.2; omega, by
    have e : (fun x => decide (x ∈ dd (vsN n))) = (fun x => decide (x ∈ vsN n) || (fun _ => false) x) := by
      funext x
      by_cases h5 : x ∈ vsN n <;> simp [dd_mem, h5]
    rw [e]; exact h3, (hw1.trans (hbU.mono hw1.size)).trans (h4.below hw1.size (Nat.le_trans hw1.size hbU.size))⟩)
  clear hw1 hU hbU hset hnd HG hb1 HT HV HS
  go_wp2_with (go_at_call 39; fail)
  rw [HU.out]
  refine HG2.out.mono ?_
  rintro e w3 ⟨rfl, c', hc', hs3, hb3⟩
  have HS3 : Hid (SetIs w3 w1.heap.size c' (fun x => decide (x ∈ dd (vsN n))) ∧ Below w.heap.size w w3 ∧ c' ≤ 900000) := ⟨hs3, hb3, hc'⟩
  clear hs3 hb3 hc' HG2
  go_wp2_with (go_at_call 41; fail)
  refine (callsIn_wide.1 (keysS_in Fence.wide 5 (fun _ => trivial) rfl w1.heap.size w3)).mono ?_
  rintro e w4 ⟨rfl, hw4⟩
  have HQ : Hid (SeqStops Fence.wide 3 Tryz.prog 67 #[.pointer (some ⟨w3.heap.size, 0, none⟩)] encStr (fun ss => ss.Perm (dd (vsN n))) (fun _ => True) c' w4) := by rw [hw4]; exact keysS_stops Fence.wide 3 (fun _ => trivial) rfl (by omega) (dd (vsN n)) (dd_nodup _) w1.heap.size c' w3 HS3.out.1
  have HB4 : Hid (Below w.heap.size w w4) := by rw [hw4]; exact HS3.out.2.1.alloc HS3.out.2.1.size _
  have HR : Hid (Calls Tryz.prog 40 #[.func (.func 67) #[] #[.pointer (some ⟨w3.heap.size, 0, none⟩)]] w4 fun e W' => ∃ v, e = .returned v ∧ W'.ownsRow w4.heap.size 9 1 v (dd (vsN n)).length (((dd (vsN n)).mergeSort leB).map encStr) ∧ Below w4.heap.size w4 W') := sorted4_c _ (by have h1 := dd_len (vsN n); have h2 := vsNlen n; have := HN.out.2; omega) c' (by have := HS3.out.2.2; omega) _ w4 HQ.out
  clear hw4 HQ HS3
  go_wp2_with (go_at_call 40; fail)
  refine HR.out.mono ?_
  rintro e w5 ⟨v, rfl, hr5, hb5⟩
  have HE : Hid (w5.ownsRow w.heap.size 9 1 v (nmL4 n).length ((nmL4 n).map encStr) ∧ Below w.heap.size w w5) := ⟨by
    have : (nmL4 n).length = (dd (vsN n)).length := by unfold nmL4; rw [List.length_mergeSort]
    rw [this]
    exact owns_mono4 hr5 HB4.out.size, HB4.out.trans (hb5.mono HB4.out.size)⟩
  clear hr5 hb5 HR
  go_wp2
  go_ret
  exact ⟨_, rfl, HE.out⟩
end Go.Proofs.YtndpebkiiemfpaaGreatDoor
