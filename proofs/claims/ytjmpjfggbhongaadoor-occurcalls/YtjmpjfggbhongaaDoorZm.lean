/-
  OccurCalls (stage 16): the law, walked.
-/
import Derived.Test.YtjmpjfggbhongaaDoorZk
import Derived.Test.YtjmpjfggbhongaaDoorZl
import Derived.Test.YtjmpjfggbhongaaDoorZh
import Derived.Test.YtjmpjfggbhongaaDoorP11
import Derived.Test.YtjmpjfggbhongaaDoorR01
import Derived.Test.YtjmpjfggbhongaaDoorUr
import Derived.Laws.StructEq
namespace Go.Proofs.YtjmpjfggbhongaaDoor
open Go.RowKit Go.Shelf Go.Maps Go.Sort
set_option linter.unusedVariables false
theorem fieldsOcc : Tryd.prog.underlying 42 = some (.struct (Tryd.prog.fieldsOf 42)) := by kernel_rfl
theorem stoodOcc : Tryd.prog.stoodInHeld 42 = false := by kernel_rfl
set_option maxRecDepth 100000 in
theorem neOcc (y : ByteArray) (r : Int) (W : World) : (binOp .neq 42 (.agg #[.string y, .int .i64 r]) (.agg #[.string y, .int .i64 r])).run Tryd.prog W = .ok (.bool false) W := by
  rw [run_neq_struct, run_equalIn_struct W 9999 42 _ _ fieldsOcc stoodOcc]
  simp [Program.fieldsOf, Tryd.underlying42, Op.eqFields, go_sem]
set_option maxRecDepth 100000 in
theorem preC16 {w w1 : World} {d : Nat} {t : Tr (d + 1)} {v : Value} {name : ByteArray} (hv : ExVal2 w d t v) (hw : WfT (d + 1) t) (hb : Below w.heap.size w w1) (hG : GT16 w) (h1 : depLe (d + 1) t 120) (h2 : (cntM (d + 1) t : Int) ≤ 300) (hn : name.size ≤ 1000) :
    ∃ (oc cn : Nat) (L : List (ByteArray × Nat)) (PO : World → Value → Prop), L.length ≤ 3000000 ∧ (∀ X X' u, PO X u → Below X.heap.size X X' → PO X' u) ∧ (∀ X, Hid (Below w1.heap.size w1 X) → Calls Tryd.prog 12 #[v] X fun e w' => ∃ j0 j1 j2 tt3 uu3 vv3 tt4 uu4 vv4 tt5 uu5 vv5 tt6 uu6 vv6, e = .returned (.agg #[.int .i64 j0, .string j1, .int .i64 j2, .slice tt3 uu3 vv3, .slice tt4 uu4 vv4, .slice tt5 uu5 vv5, .slice tt6 uu6 vv6]) ∧ PO w' (.agg #[.int .i64 j0, .string j1, .int .i64 j2, .slice tt3 uu3 vv3, .slice tt4 uu4 vv4, .slice tt5 uu5 vv5, .slice tt6 uu6 vv6]) ∧ Below X.heap.size X w') ∧ (∀ X, Hid (Below w1.heap.size w1 X) → Calls Tryd.prog 14 #[v, .string name] X fun e w' => e = .returned (.tuple #[.int .i64 (oc : Nat), .int .i64 0]) ∧ Below X.heap.size X w') ∧ (∀ X, Hid (Below w1.heap.size w1 X) → Calls Tryd.prog 16 #[v, .string name] X fun e w' => e = .returned (.tuple #[.int .i64 (cn : Nat), .int .i64 0]) ∧ Below X.heap.size X w') ∧ (∀ X, Hid (Below w1.heap.size w1 X) → Calls Tryd.prog 18 #[v] X fun e w' => ∃ o c, e = .returned (.tuple #[.slice o L.length c, .int .i64 0]) ∧ OcR X.heap.size w' o c L ∧ Below X.heap.size X w') ∧ (∀ X u, Hid (Below w1.heap.size w1 X) → PO X u → Calls Tryd.prog 13 #[u, .string name] X fun e w' => e = .returned (.tuple #[.int .i64 (oc : Nat), .int .i64 0]) ∧ Below X.heap.size X w') ∧ (∀ X u, Hid (Below w1.heap.size w1 X) → PO X u → Calls Tryd.prog 15 #[u, .string name] X fun e w' => e = .returned (.tuple #[.int .i64 (cn : Nat), .int .i64 0]) ∧ Below X.heap.size X w') ∧ (∀ X u, Hid (Below w1.heap.size w1 X) → PO X u → Calls Tryd.prog 17 #[u] X fun e w' => ∃ o c, e = .returned (.tuple #[.slice o L.length c, .int .i64 0]) ∧ OcR X.heap.size w' o c L ∧ Below X.heap.size X w') ∧ (∀ X u, Hid (Below w1.heap.size w1 X) → PO X u → Calls Tryd.prog 19 #[u, v] X fun e w' => e = .returned (.bool true) ∧ Below X.heap.size X w') := by
  have hc0 : cntM 120 (down 119 (d + 1) t) = cntM (d + 1) t := down_cnt 119 (d + 1) t h1
  have hc : cntM 120 (down 119 (d + 1) t) ≤ 300 := by omega
  clear hc0
  have hw2 : WfT 120 (down 119 (d + 1) t) := down_wf 119 (d + 1) t hw
  have hV : ∀ X, Hid (Below w1.heap.size w1 X) → ExVal X X.heap.size 119 (down 119 (d + 1) t) v := fun X hX => ((down_val2 h1 hv).grow (hb.trans (hX.out.mono hb.size))).val
  have hGX : ∀ X, Hid (Below w1.heap.size w1 X) → GT16 X := fun X hX => hG.below hG.size (hb.trans (hX.out.mono hb.size))
  have a1 : costM 120 (down 119 (d + 1) t) + sizeM 120 (down 119 (d + 1) t) ≤ cntM 120 (down 119 (d + 1) t) := cost_le_cnt 120 (down 119 (d + 1) t)
  have c2 : costM 120 (down 119 (d + 1) t) + sizeM 120 (down 119 (d + 1) t) ≤ 300 := by omega
  have c3 : sizeM (119 + 1) (down 119 (d + 1) t) ≤ 1048576 := by show sizeM 120 (down 119 (d + 1) t) ≤ _; omega
  have c4 : 8 + wM (119 + 1) (down 119 (d + 1) t) ≤ 3000000 := by show 8 + 4 * (costM 120 (down 119 (d + 1) t) + sizeM 120 (down 119 (d + 1) t)) ≤ 3000000; omega
  have c5 : wM (119 + 1) (down 119 (d + 1) t) ≤ 3000000 := by omega
  have hNm : NmOK (119 + 1) (down 119 (d + 1) t) := nm_of _ _ hw2
  have hns : name.size ≤ maxLen := by unfold maxLen; omega
  have hL : (allOc (119 + 1) (down 119 (d + 1) t)).length ≤ 3000000 := Nat.le_trans (allOc_len _ _) c5
  clear a1 c2 hw hw2 hc
  refine ⟨ofM (119 + 1) (down 119 (d + 1) t) name.data.toList, cntN (119 + 1) (down 119 (d + 1) t) name.data.toList, allOc (119 + 1) (down 119 (d + 1) t), fun X u => ExVal X X.heap.size 119 (down 119 (d + 1) t) u, hL, fun X X' u hu hX => hu.grow hX, fun X hX => ?_, fun X hX => ?_, fun X hX => ?_, fun X hX => ?_, fun X u hX hu => ?_, fun X u hX hu => ?_, fun X u hX hu => ?_, fun X u hX hu => ?_⟩
  · refine (copyEx_all (119 + 1) (down 119 (d + 1) t) v X.heap.size X (hV X hX) (Nat.le_refl _) c5).mono ?_
    rintro e w' ⟨j0, j1, j2, tt3, uu3, vv3, tt4, uu4, vv4, tt5, uu5, vv5, tt6, uu6, vv6, rfl, hE, hb'⟩
    refine ⟨j0, j1, j2, tt3, uu3, vv3, tt4, uu4, vv4, tt5, uu5, vv5, tt6, uu6, vv6, rfl, ?_, hb'⟩
    exact ExVd.imp (d := 119 + 1) (fun g off v hg e => by
      rw [ms_cell] at e
      split at e
      · cases e
      · exact e) hE
  · exact rOf16_c 119 _ v X.heap.size name X (hV X hX) (Nat.le_refl _) c3 (by omega) c5
  · exact rCount16_c 119 _ v X.heap.size name X (hV X hX) (Nat.le_refl _) c3 (by omega) c5
  · exact rAll16_c 119 _ v X.heap.size X (hV X hX) (Nat.le_refl _) c3 (by omega) c5
  · exact Of_c16 119 _ u name X.heap.size X hu (Nat.le_refl _) c3 (by omega) hNm hns (hGX X hX) c4
  · exact Count_c16 119 _ u name X.heap.size X hu (Nat.le_refl _) c3 (by omega) hNm hns (hGX X hX) c4
  · exact All_c16 119 _ u X.heap.size X hu (Nat.le_refl _) c3 (by omega) hNm (hGX X hX) c5
  · exact sameEx_all (119 + 1) _ u v X.heap.size X.heap.size X hu (hV X hX) (Nat.le_refl _) (Nat.le_refl _) c5
theorem ocL_get : ∀ (L : List (ByteArray × Nat)) (k : Nat) (hk : k < L.length), (ocL L)[k * 2]? = some (.string L[k].1) ∧ (ocL L)[k * 2 + 1]? = some (.int .i64 (L[k].2 : Nat))
  | p :: L, 0, _ => ⟨rfl, rfl⟩
  | p :: L, k + 1, hk => by
    have h := ocL_get L k (by simpa using hk)
    rw [show (k + 1) * 2 = k * 2 + 1 + 1 by omega]
    exact h
set_option maxRecDepth 100000 in
set_option maxHeartbeats 16000000 in
theorem calls16_c (da : Nat) (ta : Tr (da + 1)) (va : Value) (name : ByteArray) (w : World) (hva : ExVal2 w da ta va) (hwa : WfT (da + 1) ta) (hns : name.size ≤ maxLen) (hG : GT16 w) :
    Calls Tryd.prog 4 #[va, .string name] w fun r w' => r = .returned (.bool true) ∧ Below w.heap.size w w' := by
  obtain ⟨ao3, ac3, ao4, ac4, ao5, ac5, ao6, ac6, eva, -⟩ := id hva
  obtain ⟨an3, han3⟩ : ∃ n, (TrN.params ta).length = n := ⟨_, rfl⟩
  obtain ⟨an4, han4⟩ : ∃ n, (TrN.binds ta).length = n := ⟨_, rfl⟩
  obtain ⟨an5, han5⟩ : ∃ n, (TrN.args ta).length = n := ⟨_, rfl⟩
  obtain ⟨an6, han6⟩ : ∃ n, (TrN.alts ta).length = n := ⟨_, rfl⟩
  obtain ⟨ak, hak⟩ : ∃ n, TrN.kind ta = n := ⟨_, rfl⟩
  obtain ⟨anm, has⟩ : ∃ n, TrN.name ta = n := ⟨_, rfl⟩
  obtain ⟨am, ham⟩ : ∃ n, TrN.num ta = n := ⟨_, rfl⟩
  rw [han3, han4, han5, han6, hak, has, ham] at eva
  subst eva
  clear han3 han4 han5 han6 hak has ham
  obtain ⟨V, hVw⟩ : ∃ V, w.alloc (.cells #[.int .i64 ak, .string anm, .int .i64 am, .slice ao3 an3 ac3, .slice ao4 an4 ac4, .slice ao5 an5 ac5, .slice ao6 an6 ac6] 29) = V := ⟨_, rfl⟩
  have b1 : Below w.heap.size w V := by rw [← hVw]; exact below1 w _
  have ka : Blk V w.heap.size #[.int .i64 ak, .string anm, .int .i64 am, .slice ao3 an3 ac3, .slice ao4 an4 ac4, .slice ao5 an5 ac5, .slice ao6 an6 ac6] 29 := by rw [← hVw]; exact Blk.new w _ _
  obtain ⟨ab, hab⟩ : ∃ n, w.heap.size = n := ⟨_, rfl⟩
  have HVw : Hid (w.alloc (.cells #[.int .i64 ak, .string anm, .int .i64 am, .slice ao3 an3 ac3, .slice ao4 an4 ac4, .slice ao5 an5 ac5, .slice ao6 an6 ac6] 29) = V ∧ w.heap.size = ab) := ⟨hVw, hab⟩
  rw [hab] at ka
  have HB0 : Hid (Below w.heap.size w V) := b1
  have HK : Hid (Blk V ab #[.int .i64 ak, .string anm, .int .i64 am, .slice ao3 an3 ac3, .slice ao4 an4 ac4, .slice ao5 an5 ac5, .slice ao6 an6 ac6] 29) := ka
  have HX : Hid (ExVal2 w da ta (.agg #[.int .i64 ak, .string anm, .int .i64 am, .slice ao3 an3 ac3, .slice ao4 an4 ac4, .slice ao5 an5 ac5, .slice ao6 an6 ac6]) ∧ WfT (da + 1) ta ∧ name.size ≤ maxLen ∧ GT16 w) := ⟨hva, hwa, hns, hG⟩
  have hnsz : (name.size : Int) ≤ 9223372036854775807 := by unfold maxLen at hns; omega
  clear hva hwa hns hG ka b1 hVw hab
  go_enter Tryd.func4, Tryd.ntmps4
  go_wp2_with (go_at_call 6; fail)
  rw [HVw.out.1, HVw.out.2]
  have hAl0 : ab < V.heap.size := HK.out.lt
  refine (lives16_c V (HX.out.2.2.2.below HX.out.2.2.2.size HB0.out)).mono ?_
  rintro e w1 ⟨rfl, hb1⟩
  have H1 : Hid (Below w.heap.size w w1) := HB0.out.trans (hb1.mono HB0.out.size)
  have HKP : Hid (∀ X, Hid (Below w1.heap.size w1 X) → Hid (Below w1.heap.size w1 X) ∧ X.cell? ⟨ab, 0, none⟩ = some (.int .i64 ak) ∧ X.cell? ⟨ab, 1, none⟩ = some (.string anm) ∧ X.cell? ⟨ab, 2, none⟩ = some (.int .i64 am) ∧ X.cell? ⟨ab, 3, none⟩ = some (.slice ao3 an3 ac3) ∧ X.cell? ⟨ab, 4, none⟩ = some (.slice ao4 an4 ac4) ∧ X.cell? ⟨ab, 5, none⟩ = some (.slice ao5 an5 ac5) ∧ X.cell? ⟨ab, 6, none⟩ = some (.slice ao6 an6 ac6)) := fun X h => by
    have hb := hb1.trans (h.out.mono hb1.size)
    have k1 := HK.out.below hb
    exact ⟨h, k1.cell 0 _ rfl, k1.cell 1 _ rfl, k1.cell 2 _ rfl, k1.cell 3 _ rfl, k1.cell 4 _ rfl, k1.cell 5 _ rfl, k1.cell 6 _ rfl⟩
  have HSA : Hid (∀ X, Hid (Below w1.heap.size w1 X) → Calls Tryd.prog 11 #[.agg #[.int .i64 ak, .string anm, .int .i64 am, .slice ao3 an3 ac3, .slice ao4 an4 ac4, .slice ao5 an5 ac5, .slice ao6 an6 ac6], .int .i64 300, .int .i64 120] X fun r W' => ∃ b : Bool, r = .returned (.bool b) ∧ (b = true → depLe (da + 1) ta 120 ∧ (cntM (da + 1) ta : Int) ≤ 300) ∧ Below X.heap.size X W') := fun X h => smallExpr_c 300 (by omega) 120 (by omega) da ta _ X (HX.out.1.grow (H1.out.trans (h.out.mono H1.out.size))).val HX.out.2.1
  have hAl : ab < w1.heap.size := Nat.lt_of_lt_of_le hAl0 hb1.size
  clear hAl0
  have HPre : Hid (depLe (da + 1) ta 120 ∧ (cntM (da + 1) ta : Int) ≤ 300 → name.size ≤ 1000 → Hid (∃ (oc cn : Nat) (L : List (ByteArray × Nat)) (PO : World → Value → Prop), L.length ≤ 3000000 ∧ (∀ X X' u, PO X u → Below X.heap.size X X' → PO X' u) ∧ (∀ X, Hid (Below w1.heap.size w1 X) → Calls Tryd.prog 12 #[.agg #[.int .i64 ak, .string anm, .int .i64 am, .slice ao3 an3 ac3, .slice ao4 an4 ac4, .slice ao5 an5 ac5, .slice ao6 an6 ac6]] X fun e w' => ∃ j0 j1 j2 tt3 uu3 vv3 tt4 uu4 vv4 tt5 uu5 vv5 tt6 uu6 vv6, e = .returned (.agg #[.int .i64 j0, .string j1, .int .i64 j2, .slice tt3 uu3 vv3, .slice tt4 uu4 vv4, .slice tt5 uu5 vv5, .slice tt6 uu6 vv6]) ∧ PO w' (.agg #[.int .i64 j0, .string j1, .int .i64 j2, .slice tt3 uu3 vv3, .slice tt4 uu4 vv4, .slice tt5 uu5 vv5, .slice tt6 uu6 vv6]) ∧ Below X.heap.size X w') ∧ (∀ X, Hid (Below w1.heap.size w1 X) → Calls Tryd.prog 14 #[.agg #[.int .i64 ak, .string anm, .int .i64 am, .slice ao3 an3 ac3, .slice ao4 an4 ac4, .slice ao5 an5 ac5, .slice ao6 an6 ac6], .string name] X fun e w' => e = .returned (.tuple #[.int .i64 (oc : Nat), .int .i64 0]) ∧ Below X.heap.size X w') ∧ (∀ X, Hid (Below w1.heap.size w1 X) → Calls Tryd.prog 16 #[.agg #[.int .i64 ak, .string anm, .int .i64 am, .slice ao3 an3 ac3, .slice ao4 an4 ac4, .slice ao5 an5 ac5, .slice ao6 an6 ac6], .string name] X fun e w' => e = .returned (.tuple #[.int .i64 (cn : Nat), .int .i64 0]) ∧ Below X.heap.size X w') ∧ (∀ X, Hid (Below w1.heap.size w1 X) → Calls Tryd.prog 18 #[.agg #[.int .i64 ak, .string anm, .int .i64 am, .slice ao3 an3 ac3, .slice ao4 an4 ac4, .slice ao5 an5 ac5, .slice ao6 an6 ac6]] X fun e w' => ∃ o c, e = .returned (.tuple #[.slice o L.length c, .int .i64 0]) ∧ OcR X.heap.size w' o c L ∧ Below X.heap.size X w') ∧ (∀ X u, Hid (Below w1.heap.size w1 X) → PO X u → Calls Tryd.prog 13 #[u, .string name] X fun e w' => e = .returned (.tuple #[.int .i64 (oc : Nat), .int .i64 0]) ∧ Below X.heap.size X w') ∧ (∀ X u, Hid (Below w1.heap.size w1 X) → PO X u → Calls Tryd.prog 15 #[u, .string name] X fun e w' => e = .returned (.tuple #[.int .i64 (cn : Nat), .int .i64 0]) ∧ Below X.heap.size X w') ∧ (∀ X u, Hid (Below w1.heap.size w1 X) → PO X u → Calls Tryd.prog 17 #[u] X fun e w' => ∃ o c, e = .returned (.tuple #[.slice o L.length c, .int .i64 0]) ∧ OcR X.heap.size w' o c L ∧ Below X.heap.size X w') ∧ (∀ X u, Hid (Below w1.heap.size w1 X) → PO X u → Calls Tryd.prog 19 #[u, .agg #[.int .i64 ak, .string anm, .int .i64 am, .slice ao3 an3 ac3, .slice ao4 an4 ac4, .slice ao5 an5 ac5, .slice ao6 an6 ac6]] X fun e w' => e = .returned (.bool true) ∧ Below X.heap.size X w'))) := fun h1 hn => preC16 HX.out.1 HX.out.2.1 H1.out HX.out.2.2.2 h1.1 h1.2 hn
  have hS : Hid (Below w1.heap.size w1 w1) := Below.refl _ _
  clear HK HVw hb1 HB0
  obtain ⟨-, q0, q1, q2, q3, q4, q5, q6⟩ := HKP.out _ hS
  have qa : Hid (ab < w1.heap.size) := hAl
  have qa' := qa.out
  go_wp2_with (go_at_call 11; fail)
  refine (HSA.out _ hS).mono ?_
  rintro e x1 ⟨b1, rfl, hb1, hb⟩
  have HB1 : Hid (b1 = true → depLe (da + 1) ta 120 ∧ (cntM (da + 1) ta : Int) ≤ 300) := hb1
  have hS1 : Hid (Below w1.heap.size w1 x1) := up2n hS hb
  clear hb1 hb hS HSA q0 q1 q2 q3 q4 q5 q6 qa'
  cases b1 with
  | false =>
    go_wp2
    go_ret
    exact ⟨rfl, H1.out.trans (hS1.out.mono H1.out.size)⟩
  | true =>
    have HA1 : Hid (depLe (da + 1) ta 120 ∧ (cntM (da + 1) ta : Int) ≤ 300) := HB1.out rfl
    clear HB1
    by_cases hnm : (1000 : Int) < (name.size : Int)
    · have hnd : decide ((1000 : Int) < (name.size : Int)) = true := decide_eq_true hnm
      go_wp2
      go_ret
      exact ⟨rfl, H1.out.trans (hS1.out.mono H1.out.size)⟩
    · have hnd : decide ((1000 : Int) < (name.size : Int)) = false := decide_eq_false hnm
      have HNM : Hid (name.size ≤ 1000) := by show _ ≤ _; omega
      have hPx := (HPre.out HA1.out HNM.out).out
      clear HPre HA1 HNM
      obtain ⟨oc, cn, L, PO, p1, p2, p3, p4, p5, p6, p7, p8, p9, p10⟩ := hPx
      have HL3 : Hid (L.length ≤ 3000000) := p1
      have HPO : Hid (∀ X X' u, PO X u → Below X.heap.size X X' → PO X' u) := p2
      have HF3 : Hid (∀ X, Hid (Below w1.heap.size w1 X) → Calls Tryd.prog 12 #[.agg #[.int .i64 ak, .string anm, .int .i64 am, .slice ao3 an3 ac3, .slice ao4 an4 ac4, .slice ao5 an5 ac5, .slice ao6 an6 ac6]] X fun e w' => ∃ j0 j1 j2 tt3 uu3 vv3 tt4 uu4 vv4 tt5 uu5 vv5 tt6 uu6 vv6, e = .returned (.agg #[.int .i64 j0, .string j1, .int .i64 j2, .slice tt3 uu3 vv3, .slice tt4 uu4 vv4, .slice tt5 uu5 vv5, .slice tt6 uu6 vv6]) ∧ PO w' (.agg #[.int .i64 j0, .string j1, .int .i64 j2, .slice tt3 uu3 vv3, .slice tt4 uu4 vv4, .slice tt5 uu5 vv5, .slice tt6 uu6 vv6]) ∧ Below X.heap.size X w') := p3
      have HF4 : Hid (∀ X, Hid (Below w1.heap.size w1 X) → Calls Tryd.prog 14 #[.agg #[.int .i64 ak, .string anm, .int .i64 am, .slice ao3 an3 ac3, .slice ao4 an4 ac4, .slice ao5 an5 ac5, .slice ao6 an6 ac6], .string name] X fun e w' => e = .returned (.tuple #[.int .i64 (oc : Nat), .int .i64 0]) ∧ Below X.heap.size X w') := p4
      have HF5 : Hid (∀ X, Hid (Below w1.heap.size w1 X) → Calls Tryd.prog 16 #[.agg #[.int .i64 ak, .string anm, .int .i64 am, .slice ao3 an3 ac3, .slice ao4 an4 ac4, .slice ao5 an5 ac5, .slice ao6 an6 ac6], .string name] X fun e w' => e = .returned (.tuple #[.int .i64 (cn : Nat), .int .i64 0]) ∧ Below X.heap.size X w') := p5
      have HF6 : Hid (∀ X, Hid (Below w1.heap.size w1 X) → Calls Tryd.prog 18 #[.agg #[.int .i64 ak, .string anm, .int .i64 am, .slice ao3 an3 ac3, .slice ao4 an4 ac4, .slice ao5 an5 ac5, .slice ao6 an6 ac6]] X fun e w' => ∃ o c, e = .returned (.tuple #[.slice o L.length c, .int .i64 0]) ∧ OcR X.heap.size w' o c L ∧ Below X.heap.size X w') := p6
      have HF7 : Hid (∀ X u, Hid (Below w1.heap.size w1 X) → PO X u → Calls Tryd.prog 13 #[u, .string name] X fun e w' => e = .returned (.tuple #[.int .i64 (oc : Nat), .int .i64 0]) ∧ Below X.heap.size X w') := p7
      have HF8 : Hid (∀ X u, Hid (Below w1.heap.size w1 X) → PO X u → Calls Tryd.prog 15 #[u, .string name] X fun e w' => e = .returned (.tuple #[.int .i64 (cn : Nat), .int .i64 0]) ∧ Below X.heap.size X w') := p8
      have HF9 : Hid (∀ X u, Hid (Below w1.heap.size w1 X) → PO X u → Calls Tryd.prog 17 #[u] X fun e w' => ∃ o c, e = .returned (.tuple #[.slice o L.length c, .int .i64 0]) ∧ OcR X.heap.size w' o c L ∧ Below X.heap.size X w') := p9
      have HF10 : Hid (∀ X u, Hid (Below w1.heap.size w1 X) → PO X u → Calls Tryd.prog 19 #[u, .agg #[.int .i64 ak, .string anm, .int .i64 am, .slice ao3 an3 ac3, .slice ao4 an4 ac4, .slice ao5 an5 ac5, .slice ao6 an6 ac6]] X fun e w' => e = .returned (.bool true) ∧ Below X.heap.size X w') := p10
      clear p1 p2 p3 p4 p5 p6 p7 p8 p9 p10 HX
      obtain ⟨-, q0, q1, q2, q3, q4, q5, q6⟩ := HKP.out _ hS1
      have qa' := Nat.lt_of_lt_of_le qa.out hS1.out.size
      go_wp2_with (go_at_call 12; fail)
      clear q0 q1 q2 q3 q4 q5 q6 qa' hnd hnm
      refine (HF3.out _ hS1).mono ?_
      rintro e x2 ⟨j0, j1, j2, tt3, uu3, vv3, tt4, uu4, vv4, tt5, uu5, vv5, tt6, uu6, vv6, rfl, hpo, hb⟩
      have hS2 : Hid (Below w1.heap.size w1 x2) := up2n hS1 hb
      obtain ⟨Y, hY⟩ : ∃ Y, x2.alloc (.cells #[.int .i64 j0, .string j1, .int .i64 j2, .slice tt3 uu3 vv3, .slice tt4 uu4 vv4, .slice tt5 uu5 vv5, .slice tt6 uu6 vv6] 29) = Y := ⟨_, rfl⟩
      have HY : Hid (x2.alloc (.cells #[.int .i64 j0, .string j1, .int .i64 j2, .slice tt3 uu3 vv3, .slice tt4 uu4 vv4, .slice tt5 uu5 vv5, .slice tt6 uu6 vv6] 29) = Y) := hY
      have kY : Blk Y x2.heap.size #[.int .i64 j0, .string j1, .int .i64 j2, .slice tt3 uu3 vv3, .slice tt4 uu4 vv4, .slice tt5 uu5 vv5, .slice tt6 uu6 vv6] 29 := by rw [← hY]; exact Blk.new _ _ _
      have bY : Below x2.heap.size x2 Y := by rw [← hY]; exact below1 _ _
      have HPv : Hid (PO Y (.agg #[.int .i64 j0, .string j1, .int .i64 j2, .slice tt3 uu3 vv3, .slice tt4 uu4 vv4, .slice tt5 uu5 vv5, .slice tt6 uu6 vv6])) := HPO.out _ _ _ hpo bY
      have hSY : Hid (Below w1.heap.size w1 Y) := up2n hS2 bY
      obtain ⟨ob, hob⟩ : ∃ ob, x2.heap.size = ob := ⟨_, rfl⟩
      have HOb : Hid (x2.heap.size = ob) := hob
      rw [hob] at kY
      have HQ : Hid (∀ X, Below Y.heap.size Y X → (X.cell? ⟨ab, 0, none⟩ = some (.int .i64 ak) ∧ X.cell? ⟨ab, 1, none⟩ = some (.string anm) ∧ X.cell? ⟨ab, 2, none⟩ = some (.int .i64 am) ∧ X.cell? ⟨ab, 3, none⟩ = some (.slice ao3 an3 ac3) ∧ X.cell? ⟨ab, 4, none⟩ = some (.slice ao4 an4 ac4) ∧ X.cell? ⟨ab, 5, none⟩ = some (.slice ao5 an5 ac5) ∧ X.cell? ⟨ab, 6, none⟩ = some (.slice ao6 an6 ac6) ∧ ab < X.heap.size) ∧ (X.cell? ⟨ob, 0, none⟩ = some (.int .i64 j0) ∧ X.cell? ⟨ob, 1, none⟩ = some (.string j1) ∧ X.cell? ⟨ob, 2, none⟩ = some (.int .i64 j2) ∧ X.cell? ⟨ob, 3, none⟩ = some (.slice tt3 uu3 vv3) ∧ X.cell? ⟨ob, 4, none⟩ = some (.slice tt4 uu4 vv4) ∧ X.cell? ⟨ob, 5, none⟩ = some (.slice tt5 uu5 vv5) ∧ X.cell? ⟨ob, 6, none⟩ = some (.slice tt6 uu6 vv6) ∧ ob < X.heap.size) ∧ Hid (Below w1.heap.size w1 X) ∧ PO X (.agg #[.int .i64 j0, .string j1, .int .i64 j2, .slice tt3 uu3 vv3, .slice tt4 uu4 vv4, .slice tt5 uu5 vv5, .slice tt6 uu6 vv6])) := fun X h => by
        have h1 : Hid (Below w1.heap.size w1 X) := up2n hSY h
        obtain ⟨-, q0, q1, q2, q3, q4, q5, q6⟩ := HKP.out _ h1
        have k := kY.below h
        exact ⟨⟨q0, q1, q2, q3, q4, q5, q6, Nat.lt_of_lt_of_le qa.out h1.out.size⟩, ⟨k.cell 0 _ rfl, k.cell 1 _ rfl, k.cell 2 _ rfl, k.cell 3 _ rfl, k.cell 4 _ rfl, k.cell 5 _ rfl, k.cell 6 _ rfl, k.lt⟩, h1, HPO.out _ _ _ HPv.out h⟩
      clear hpo hb hS1 HF3 kY bY hob hY
      go_upto_region 6 with fail
      rw [HY.out, HOb.out]
      clear HY HOb hS2
      have hW0 : Hid (Below Y.heap.size Y Y) := Below.refl _ _
      obtain ⟨⟨q0, q1, q2, q3, q4, q5, q6, qa'⟩, ⟨r0, r1, r2, r3, r4, r5, r6, rl⟩, hw9, hp9⟩ := HQ.out _ hW0.out
      have HCl : Hid (Calls Tryd.prog 13 #[.agg #[.int .i64 j0, .string j1, .int .i64 j2, .slice tt3 uu3 vv3, .slice tt4 uu4 vv4, .slice tt5 uu5 vv5, .slice tt6 uu6 vv6], .string name] Y fun e w' => e = .returned (.tuple #[.int .i64 (oc : Nat), .int .i64 0]) ∧ Below Y.heap.size Y w') := HF7.out _ _ hw9 hp9
      clear hw9 hp9 q0 q1 q2 q3 q4 q5 q6 qa'
      go_wp2_with (go_at_call 13; fail)
      clear r0 r1 r2 r3 r4 r5 r6 rl
      refine HCl.out.mono ?_
      rintro e y1 ⟨rfl, hb⟩
      have hW1 : Hid (Below Y.heap.size Y y1) := hW0.out.trans (hb.mono hW0.out.size)
      clear hb HCl hW0 HF7
      obtain ⟨⟨q0, q1, q2, q3, q4, q5, q6, qa'⟩, ⟨r0, r1, r2, r3, r4, r5, r6, rl⟩, hw9, hp9⟩ := HQ.out _ hW1.out
      have HCl : Hid (Calls Tryd.prog 14 #[.agg #[.int .i64 ak, .string anm, .int .i64 am, .slice ao3 an3 ac3, .slice ao4 an4 ac4, .slice ao5 an5 ac5, .slice ao6 an6 ac6], .string name] y1 fun e w' => e = .returned (.tuple #[.int .i64 (oc : Nat), .int .i64 0]) ∧ Below y1.heap.size y1 w') := HF4.out _ hw9
      clear hw9 hp9 r0 r1 r2 r3 r4 r5 r6 rl
      go_wp2_with (go_at_call 14; fail)
      clear q0 q1 q2 q3 q4 q5 q6 qa'
      refine HCl.out.mono ?_
      rintro e y2 ⟨rfl, hb⟩
      have hW2 : Hid (Below Y.heap.size Y y2) := hW1.out.trans (hb.mono hW1.out.size)
      clear hb HCl hW1 HF4
      obtain ⟨⟨q0, q1, q2, q3, q4, q5, q6, qa'⟩, ⟨r0, r1, r2, r3, r4, r5, r6, rl⟩, hw9, hp9⟩ := HQ.out _ hW2.out
      have HCl : Hid (Calls Tryd.prog 15 #[.agg #[.int .i64 j0, .string j1, .int .i64 j2, .slice tt3 uu3 vv3, .slice tt4 uu4 vv4, .slice tt5 uu5 vv5, .slice tt6 uu6 vv6], .string name] y2 fun e w' => e = .returned (.tuple #[.int .i64 (cn : Nat), .int .i64 0]) ∧ Below y2.heap.size y2 w') := HF8.out _ _ hw9 hp9
      clear hw9 hp9 q0 q1 q2 q3 q4 q5 q6 qa'
      go_wp2_with (go_at_call 15; fail)
      clear r0 r1 r2 r3 r4 r5 r6 rl
      refine HCl.out.mono ?_
      rintro e y3 ⟨rfl, hb⟩
      have hW3 : Hid (Below Y.heap.size Y y3) := hW2.out.trans (hb.mono hW2.out.size)
      clear hb HCl hW2 HF8
      obtain ⟨⟨q0, q1, q2, q3, q4, q5, q6, qa'⟩, ⟨r0, r1, r2, r3, r4, r5, r6, rl⟩, hw9, hp9⟩ := HQ.out _ hW3.out
      have HCl : Hid (Calls Tryd.prog 16 #[.agg #[.int .i64 ak, .string anm, .int .i64 am, .slice ao3 an3 ac3, .slice ao4 an4 ac4, .slice ao5 an5 ac5, .slice ao6 an6 ac6], .string name] y3 fun e w' => e = .returned (.tuple #[.int .i64 (cn : Nat), .int .i64 0]) ∧ Below y3.heap.size y3 w') := HF5.out _ hw9
      clear hw9 hp9 r0 r1 r2 r3 r4 r5 r6 rl
      go_wp2_with (go_at_call 16; fail)
      clear q0 q1 q2 q3 q4 q5 q6 qa'
      refine HCl.out.mono ?_
      rintro e y4 ⟨rfl, hb⟩
      have hW4 : Hid (Below Y.heap.size Y y4) := hW3.out.trans (hb.mono hW3.out.size)
      clear hb HCl hW3 HF5
      obtain ⟨⟨q0, q1, q2, q3, q4, q5, q6, qa'⟩, ⟨r0, r1, r2, r3, r4, r5, r6, rl⟩, hw9, hp9⟩ := HQ.out _ hW4.out
      have HCl : Hid (Calls Tryd.prog 17 #[.agg #[.int .i64 j0, .string j1, .int .i64 j2, .slice tt3 uu3 vv3, .slice tt4 uu4 vv4, .slice tt5 uu5 vv5, .slice tt6 uu6 vv6]] y4 fun e w' => ∃ o c, e = .returned (.tuple #[.slice o L.length c, .int .i64 0]) ∧ OcR y4.heap.size w' o c L ∧ Below y4.heap.size y4 w') := HF9.out _ _ hw9 hp9
      clear hw9 hp9 q0 q1 q2 q3 q4 q5 q6 qa'
      go_wp2_with (go_at_call 17; fail)
      clear r0 r1 r2 r3 r4 r5 r6 rl
      refine HCl.out.mono ?_
      rintro e y5 ⟨ol, cl, rfl, hr, hb⟩
      have HRl : Hid (OcR y4.heap.size y5 ol cl L) := hr
      have hW5 : Hid (Below Y.heap.size Y y5) := hW4.out.trans (hb.mono hW4.out.size)
      clear hr hb HCl hW4
      obtain ⟨⟨q0, q1, q2, q3, q4, q5, q6, qa'⟩, ⟨r0, r1, r2, r3, r4, r5, r6, rl⟩, hw9, hp9⟩ := HQ.out _ hW5.out
      have HCl : Hid (Calls Tryd.prog 18 #[.agg #[.int .i64 ak, .string anm, .int .i64 am, .slice ao3 an3 ac3, .slice ao4 an4 ac4, .slice ao5 an5 ac5, .slice ao6 an6 ac6]] y5 fun e w' => ∃ o c, e = .returned (.tuple #[.slice o L.length c, .int .i64 0]) ∧ OcR y5.heap.size w' o c L ∧ Below y5.heap.size y5 w') := HF6.out _ hw9
      clear hw9 hp9 r0 r1 r2 r3 r4 r5 r6 rl
      go_wp2_with (go_at_call 18; fail)
      clear q0 q1 q2 q3 q4 q5 q6 qa'
      refine HCl.out.mono ?_
      rintro e y6 ⟨ok, ck, rfl, hr, hb⟩
      have HRk : Hid (OcR y5.heap.size y6 ok ck L) := hr
      have HRl' : Hid (OcR y4.heap.size y6 ol cl L) := HRl.out.below hb
      clear HRl
      have hW6 : Hid (Below Y.heap.size Y y6) := hW5.out.trans (hb.mono hW5.out.size)
      clear hr hb HCl hW5
      have HLk : Hid (∀ k (hk : k < L.length), ∃ g g', ol = some ⟨g, 0, none⟩ ∧ ok = some ⟨g', 0, none⟩ ∧ ∀ X, Below y6.heap.size y6 X → X.cell? ⟨g, k * 2, none⟩ = some (.string L[k].1) ∧ X.cell? ⟨g, k * 2 + 1, none⟩ = some (.int .i64 (L[k].2 : Nat)) ∧ X.cell? ⟨g', k * 2, none⟩ = some (.string L[k].1) ∧ X.cell? ⟨g', k * 2 + 1, none⟩ = some (.int .i64 (L[k].2 : Nat)) ∧ g < X.heap.size ∧ g' < X.heap.size) := by
        intro k hk
        obtain ⟨g, e1, l1, -, d1, d2⟩ := owns_cell2 HRl'.out hk
        obtain ⟨g', e2, l2, -, d3, d4⟩ := owns_cell2 HRk.out hk
        obtain ⟨m1, m2⟩ := ocL_get L k hk
        rw [m1] at d1 d3
        rw [m2] at d2 d4
        exact ⟨g, g', e1, e2, fun X hX => ⟨(hX.cell (p := ⟨g, k * 2, none⟩) l1).trans d1, (hX.cell (p := ⟨g, k * 2 + 1, none⟩) l1).trans d2, (hX.cell (p := ⟨g', k * 2, none⟩) l2).trans d3, (hX.cell (p := ⟨g', k * 2 + 1, none⟩) l2).trans d4, Nat.lt_of_lt_of_le l1 hX.size, Nat.lt_of_lt_of_le l2 hX.size⟩⟩
      clear HRk HRl'
      obtain ⟨n, hn⟩ : ∃ n, L.length = n := ⟨_, rfl⟩
      have HN : Hid (L.length = n) := hn
      have hnI : (n : Int) ≤ 3000000 := by have := HL3.out; omega
      have hB0 : Hid (Below y6.heap.size y6 y6) := Below.refl _ _
      rw [hn]
      clear hn
      go_wp2
      go_loopw [18] (fun i wr => ∃ k : Nat, k ≤ n ∧ i = .int .i64 k ∧ Hid (Below y6.heap.size y6 wr)) (fun i _ => n - (intOf i).toNat)
      case atStart => exact ⟨0, Nat.zero_le _, rfl, hB0⟩
      case round =>
        obtain ⟨k, hk, rfl, hB⟩ := hrel
        clear hB0
        by_cases hkn : k < n
        · have hkl : k < L.length := by rw [HN.out]; exact hkn
          obtain ⟨g, g', rfl, rfl, hX⟩ := HLk.out k hkl
          obtain ⟨y, hy⟩ : ∃ y, L[k].1 = y := ⟨_, rfl⟩
          obtain ⟨r, hr⟩ : ∃ r : Int, ((L[k].2 : Nat) : Int) = r := ⟨_, rfl⟩
          rw [hy, hr] at hX
          have HKp : Hid (∀ X, Hid (Below y6.heap.size y6 X) → Hid (Below y6.heap.size y6 X) ∧ X.cell? ⟨g, k * 2, none⟩ = some (.string y) ∧ X.cell? ⟨g, k * 2 + 1, none⟩ = some (.int .i64 r) ∧ X.cell? ⟨g', k * 2, none⟩ = some (.string y) ∧ X.cell? ⟨g', k * 2 + 1, none⟩ = some (.int .i64 r)) := fun X h => ⟨h, (hX X h.out).1, (hX X h.out).2.1, (hX X h.out).2.2.1, (hX X h.out).2.2.2.1⟩
          have hne : ∀ W : World, (binOp .neq 42 (.agg #[.string y, .int .i64 r]) (.agg #[.string y, .int .i64 r])).run Tryd.prog W = .ok (.bool false) W := fun W => neOcc y r W
          obtain ⟨-, -, -, -, lg, lg'⟩ := hX wr hB.out
          clear hX hy hr hkl
          have hS9 : Hid (Below y6.heap.size y6 wr.drew) := hB.out.drew
          go_upto_region 17 with fail
          refine wp_region_held_drew (S := fun X : World => Hid (Below y6.heap.size y6 X) ∧ X.cell? ⟨g, k * 2, none⟩ = some (.string y) ∧ X.cell? ⟨g, k * 2 + 1, none⟩ = some (.int .i64 r) ∧ X.cell? ⟨g', k * 2, none⟩ = some (.string y) ∧ X.cell? ⟨g', k * 2 + 1, none⟩ = some (.int .i64 r)) (by kernel_rfl) (HKp.out _ hS9) (fun hHeld => ?_)
          generalize wr.drew = x0 at hS9 hHeld ⊢
          refine wpAnyH_take (i := 0) (v := .slice (some ⟨g, 0, none⟩) n cl) rfl (by kernel_rfl) (by kernel_rfl) (by kernel_rfl) (fun _ _ _ h => h) (Or.inl ⟨by kernel_rfl, fun X hX => ?_⟩) (by assumption) ?_
          · clear hX; go_simp
          try simp only [Act.put, List.setIfInBounds_toArray]
          refine wpAnyH_take (i := 1) (v := .int .i64 k) rfl (by kernel_rfl) (by kernel_rfl) (by kernel_rfl) (fun _ _ _ h => h) (Or.inl ⟨by kernel_rfl, fun X hX => ?_⟩) (by assumption) ?_
          · clear hX; go_simp
          try simp only [Act.put]
          refine wpAnyH_take (i := 2) (v := .pointer (some ⟨g, k * 2, none⟩)) rfl (by kernel_rfl) (by kernel_rfl) (by kernel_rfl) (fun _ _ _ h => h) (Or.inl ⟨by kernel_rfl, fun X hX => ?_⟩) (by assumption) ?_
          · clear hX; go_simp
          try simp only [Act.put]
          refine wpAnyH_take (i := 3) (v := .agg #[.string y, .int .i64 r]) rfl (by kernel_rfl) (by kernel_rfl) (by kernel_rfl) (fun _ _ _ h => h) (Or.inl ⟨by kernel_rfl, fun X hX => ?_⟩) (by assumption) ?_
          · obtain ⟨-, q0, q1, -, -⟩ := hX; go_simp
          try simp only [Act.put]
          refine wpAnyH_take (i := 4) (v := .slice (some ⟨g', 0, none⟩) n ck) rfl (by kernel_rfl) (by kernel_rfl) (by kernel_rfl) (fun _ _ _ h => h) (Or.inl ⟨by kernel_rfl, fun X hX => ?_⟩) (by assumption) ?_
          · clear hX; go_simp
          try simp only [Act.put]
          refine wpAnyH_take (i := 5) (v := .int .i64 k) rfl (by kernel_rfl) (by kernel_rfl) (by kernel_rfl) (fun _ _ _ h => h) (Or.inl ⟨by kernel_rfl, fun X hX => ?_⟩) (by assumption) ?_
          · clear hX; go_simp
          try simp only [Act.put]
          refine wpAnyH_take (i := 6) (v := .pointer (some ⟨g', k * 2, none⟩)) rfl (by kernel_rfl) (by kernel_rfl) (by kernel_rfl) (fun _ _ _ h => h) (Or.inl ⟨by kernel_rfl, fun X hX => ?_⟩) (by assumption) ?_
          · clear hX; go_simp
          try simp only [Act.put]
          refine wpAnyH_take (i := 7) (v := .agg #[.string y, .int .i64 r]) rfl (by kernel_rfl) (by kernel_rfl) (by kernel_rfl) (fun _ _ _ h => h) (Or.inl ⟨by kernel_rfl, fun X hX => ?_⟩) (by assumption) ?_
          · obtain ⟨-, -, -, q2, q3⟩ := hX; go_simp
          try simp only [Act.put]
          refine wpAnyH_take (i := 8) (v := .bool false) rfl (by kernel_rfl) (by kernel_rfl) (by kernel_rfl) (fun _ _ _ h => h) (Or.inl ⟨by kernel_rfl, fun X hX => ?_⟩) (by assumption) ?_
          · clear hX; go_simp
          try simp only [Act.put, List.getElem_toArray, List.getElem_cons_succ, List.getElem_cons_zero, List.setIfInBounds_toArray, List.set_cons_zero, List.set_cons_succ]
          refine wpAnyH_done (by kernel_rfl) ?_ _
          clear hHeld HKp hne lg lg'
          go_wp2
          go_roundw
          case rel => exact ⟨k + 1, hkn, by go_num, hS9⟩
          case measure => simp [intOf]; omega
        · have hke : n = k := by omega
          subst hke
          have hWr : Hid (Below Y.heap.size Y wr) := hW6.out.trans (hB.out.mono hW6.out.size)
          obtain ⟨⟨q0, q1, q2, q3, q4, q5, q6, qa'⟩, ⟨r0, r1, r2, r3, r4, r5, r6, rl⟩, hw9, hp9⟩ := HQ.out _ hWr.out
          have HCl : Hid (Calls Tryd.prog 19 #[.agg #[.int .i64 j0, .string j1, .int .i64 j2, .slice tt3 uu3 vv3, .slice tt4 uu4 vv4, .slice tt5 uu5 vv5, .slice tt6 uu6 vv6], .agg #[.int .i64 ak, .string anm, .int .i64 am, .slice ao3 an3 ac3, .slice ao4 an4 ac4, .slice ao5 an5 ac5, .slice ao6 an6 ac6]] wr fun e w' => e = .returned (.bool true) ∧ Below wr.heap.size wr w') := HF10.out _ _ hw9 hp9
          have hWw : Hid (Below w1.heap.size w1 wr) := hw9
          clear hw9 hp9 HLk
          go_wp2_with (go_at_call 19; fail)
          clear q0 q1 q2 q3 q4 q5 q6 qa' r0 r1 r2 r3 r4 r5 r6 rl
          refine HCl.out.mono ?_
          rintro e z9 ⟨rfl, hb⟩
          have hZ : Hid (Below w1.heap.size w1 z9) := up2n hWw hb
          clear hb HCl
          go_wp2
          go_ret
          exact ⟨rfl, H1.out.trans (hZ.out.mono H1.out.size)⟩
end Go.Proofs.YtjmpjfggbhongaaDoor
