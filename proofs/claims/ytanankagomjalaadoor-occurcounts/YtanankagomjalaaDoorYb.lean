/-
  OccurCounts (stage 16): the law, walked.
-/
import Derived.Test.YtanankagomjalaaDoorYa
import Derived.Test.YtanankagomjalaaDoorR01
import Derived.Test.YtanankagomjalaaDoorOcB
import Derived.Test.YtanankagomjalaaDoorUr
import Derived.Deep.RegionHeld3
namespace Go.Proofs.YtanankagomjalaaDoor
open Go.RowKit Go.Shelf Go.Maps Go.Sort
set_option linter.unusedVariables false
def Pre16 (w1 : World) (d : Nat) (t : Tr (d + 1)) (v : Value) (name : ByteArray) : Prop := (∀ X, Hid (Below w1.heap.size w1 X) → Calls Tryd.prog 22 #[v] X fun r w' => FrP (fsL 120 (down 119 (d + 1) t)) X r w') ∧
  (∀ X, Hid (Below w1.heap.size w1 X) → ∀ g vs, Blk X g bi7V 79 → VarsAt X vs ((fsL 120 (down 119 (d + 1) t)).map (fun x => ⟨x.toArray⟩)) → Calls Tryd.prog 20 #[.agg #[.slice (some ⟨g, 0, none⟩) 5 5, .slice none 0 0], v, vs] X fun r w' => CkP 120 (down 119 (d + 1) t) X r w') ∧
  (name.size ≤ 1000 → (∀ X, Hid (Below w1.heap.size w1 X) → Calls Tryd.prog 13 #[v, .string name] X fun r w' => r = .returned (.tuple #[.int .i64 (ofM 120 (down 119 (d + 1) t) name.data.toList : Nat), .int .i64 0]) ∧ Below X.heap.size X w') ∧
    (∀ X, Hid (Below w1.heap.size w1 X) → Calls Tryd.prog 15 #[v, .string name] X fun r w' => r = .returned (.tuple #[.int .i64 (cntN 120 (down 119 (d + 1) t) name.data.toList : Nat), .int .i64 0]) ∧ Below X.heap.size X w') ∧
    Goes (ofM 120 (down 119 (d + 1) t) name.data.toList) (cntN 120 (down 119 (d + 1) t) name.data.toList) (decide (name.data.toList ∈ fsL 120 (down 119 (d + 1) t))) ∧ (fsL 120 (down 119 (d + 1) t)).length ≤ 300)
set_option maxRecDepth 100000 in
theorem pre16 {w w1 : World} {d : Nat} {t : Tr (d + 1)} {v : Value} {name : ByteArray} (hv : ExVal2 w d t v) (hw : WfT (d + 1) t) (hb : Below w.heap.size w w1) (hG : GT16 w) (h1 : depLe (d + 1) t 120) (h2 : (cntM (d + 1) t : Int) ≤ 300) : Pre16 w1 d t v name := by
  have hc0 : cntM 120 (down 119 (d + 1) t) = cntM (d + 1) t := down_cnt 119 (d + 1) t h1
  have hc : cntM 120 (down 119 (d + 1) t) ≤ 300 := by omega
  clear hc0
  have hw2 : WfT 120 (down 119 (d + 1) t) := down_wf 119 (d + 1) t hw
  have hV : ∀ X, Hid (Below w1.heap.size w1 X) → ExVal2 X 119 (down 119 (d + 1) t) v := fun X hX => (down_val2 h1 hv).grow (hb.trans (hX.out.mono hb.size))
  have hGX : ∀ X, Hid (Below w1.heap.size w1 X) → GT16 X := fun X hX => hG.below hG.size (hb.trans (hX.out.mono hb.size))
  have a1 : costM 120 (down 119 (d + 1) t) + sizeM 120 (down 119 (d + 1) t) ≤ cntM 120 (down 119 (d + 1) t) := cost_le_cnt 120 (down 119 (d + 1) t)
  have a2 : (frL 120 (down 119 (d + 1) t)).length ≤ 300 := by have := frL_len 120 (down 119 (d + 1) t); omega
  have a3 : (fsL 120 (down 119 (d + 1) t)).length ≤ 300 := by have := fsL_len 120 (down 119 (d + 1) t); omega
  have c1 : cntM (119 + 1) (down 119 (d + 1) t) ≤ 300 := hc
  have c2 : costM 120 (down 119 (d + 1) t) + sizeM 120 (down 119 (d + 1) t) ≤ 300 := by omega
  have c3 : costM (119 + 1) (down 119 (d + 1) t) + sizeM (119 + 1) (down 119 (d + 1) t) ≤ 300 := c2
  have c4 : 8 + wM (119 + 1) (down 119 (d + 1) t) ≤ 3000000 := by show 8 + 4 * (costM 120 (down 119 (d + 1) t) + sizeM 120 (down 119 (d + 1) t)) ≤ 3000000; omega
  clear a1 c2
  refine ⟨fun X hX => freeS_c 119 _ v X (hV X hX).val hw2 (by omega) (by omega), fun X hX g vs hg hvs => ?_, fun hn => ⟨fun X hX => ?_, fun X hX => ?_, ?_, a3⟩⟩
  · refine checkExpr0_c 119 _ v g vs _ X (hV X hX) (fit_of _ _ hw2 (by omega)) (nm_of _ _ hw2) (by omega) (by rw [List.length_map]; omega) (by omega) hg hvs (fun x hx => ?_) (by rw [List.length_map]; omega)
    obtain ⟨y, hy, rfl⟩ := List.mem_map.1 hx
    have h3 := allOwn_sz _ _ hw2 y (free_own _ _ [] y (fsL_mem.1 hy))
    show y.toArray.size ≤ _
    rw [List.size_toArray]
    unfold LB at h3
    unfold maxLen; omega
  · exact Of_c16 119 _ v name X.heap.size X (hV X hX).val (Nat.le_refl _) (by omega) (by omega) (nm_of _ _ hw2) (by unfold maxLen; omega) (hGX X hX) c4
  · exact Count_c16 119 _ v name X.heap.size X (hV X hX).val (Nat.le_refl _) (by omega) (by omega) (nm_of _ _ hw2) (by unfold maxLen; omega) (hGX X hX) c4
  · have hg := goes_of 120 (down 119 (d + 1) t) name.data.toList
    have e : freeM 120 (down 119 (d + 1) t) [] name.data.toList = decide (name.data.toList ∈ fsL 120 (down 119 (d + 1) t)) := by
      by_cases h : freeM 120 (down 119 (d + 1) t) [] name.data.toList = true
      · rw [h, decide_eq_true (fsL_mem.2 h)]
      · rw [decide_eq_false (fun h9 => h (fsL_mem.1 h9))]; simpa using h
    rw [e] at hg
    exact hg
set_option maxRecDepth 100000 in
set_option maxHeartbeats 16000000 in
theorem counts16_c (da : Nat) (ta : Tr (da + 1)) (va : Value) (name : ByteArray) (w : World) (hva : ExVal2 w da ta va) (hwa : WfT (da + 1) ta) (hns : name.size ≤ maxLen) (hG : GT16 w) :
    Calls Tryd.prog 5 #[va, .string name] w fun r w' => r = .returned (.bool true) ∧ Below w.heap.size w w' := by
  obtain ⟨ao3, ac3, ao4, ac4, ao5, ac5, ao6, ac6, eva, -⟩ := id hva
  obtain ⟨an3, han3⟩ : ∃ n, (TrN.params ta).length = n := ⟨_, rfl⟩
  obtain ⟨an4, han4⟩ : ∃ n, (TrN.binds ta).length = n := ⟨_, rfl⟩
  obtain ⟨an5, han5⟩ : ∃ n, (TrN.args ta).length = n := ⟨_, rfl⟩
  obtain ⟨an6, han6⟩ : ∃ n, (TrN.alts ta).length = n := ⟨_, rfl⟩
  obtain ⟨ak, hak⟩ : ∃ n, TrN.kind ta = n := ⟨_, rfl⟩
  obtain ⟨anm, has⟩ : ∃ n, TrN.name ta = n := ⟨_, rfl⟩
  obtain ⟨am, ham⟩ : ∃ n, TrN.num ta = n := ⟨_, rfl⟩
  rw [han3, han4, han5, han6, hak, has, ham] at eva
  subst eva
  clear han3 han4 han5 han6 hak has ham
  obtain ⟨V, hVw⟩ : ∃ V, w.alloc (.cells #[.int .i64 ak, .string anm, .int .i64 am, .slice ao3 an3 ac3, .slice ao4 an4 ac4, .slice ao5 an5 ac5, .slice ao6 an6 ac6] 29) = V := ⟨_, rfl⟩
  have b1 : Below w.heap.size w V := by rw [← hVw]; exact below1 w _
  have ka : Blk V w.heap.size #[.int .i64 ak, .string anm, .int .i64 am, .slice ao3 an3 ac3, .slice ao4 an4 ac4, .slice ao5 an5 ac5, .slice ao6 an6 ac6] 29 := by rw [← hVw]; exact Blk.new w _ _
  obtain ⟨ab, hab⟩ : ∃ n, w.heap.size = n := ⟨_, rfl⟩
  have HVw : Hid (w.alloc (.cells #[.int .i64 ak, .string anm, .int .i64 am, .slice ao3 an3 ac3, .slice ao4 an4 ac4, .slice ao5 an5 ac5, .slice ao6 an6 ac6] 29) = V ∧ w.heap.size = ab) := ⟨hVw, hab⟩
  rw [hab] at ka
  have HB0 : Hid (Below w.heap.size w V) := b1
  have HK : Hid (Blk V ab #[.int .i64 ak, .string anm, .int .i64 am, .slice ao3 an3 ac3, .slice ao4 an4 ac4, .slice ao5 an5 ac5, .slice ao6 an6 ac6] 29) := ka
  have HX : Hid (ExVal2 w da ta (.agg #[.int .i64 ak, .string anm, .int .i64 am, .slice ao3 an3 ac3, .slice ao4 an4 ac4, .slice ao5 an5 ac5, .slice ao6 an6 ac6]) ∧ WfT (da + 1) ta ∧ name.size ≤ maxLen ∧ GT16 w) := ⟨hva, hwa, hns, hG⟩
  have hnsz : (name.size : Int) ≤ 9223372036854775807 := by unfold maxLen at hns; omega
  clear hva hwa hns hG ka b1 hVw hab
  go_enter Tryd.func5, Tryd.ntmps5
  go_wp2_with (go_at_call 6; fail)
  rw [HVw.out.1, HVw.out.2]
  refine (lives16_c V (HX.out.2.2.2.below HX.out.2.2.2.size HB0.out)).mono ?_
  rintro e w1 ⟨rfl, hb1⟩
  have H1 : Hid (Below w.heap.size w w1) := HB0.out.trans (hb1.mono HB0.out.size)
  have HKP : Hid (∀ X, Hid (Below w1.heap.size w1 X) → Hid (Below w1.heap.size w1 X) ∧ X.cell? ⟨ab, 0, none⟩ = some (.int .i64 ak) ∧ X.cell? ⟨ab, 1, none⟩ = some (.string anm) ∧ X.cell? ⟨ab, 2, none⟩ = some (.int .i64 am) ∧ X.cell? ⟨ab, 3, none⟩ = some (.slice ao3 an3 ac3) ∧ X.cell? ⟨ab, 4, none⟩ = some (.slice ao4 an4 ac4) ∧ X.cell? ⟨ab, 5, none⟩ = some (.slice ao5 an5 ac5) ∧ X.cell? ⟨ab, 6, none⟩ = some (.slice ao6 an6 ac6)) := fun X h => by
    have hb := hb1.trans (h.out.mono hb1.size)
    have k1 := HK.out.below hb
    exact ⟨h, k1.cell 0 _ rfl, k1.cell 1 _ rfl, k1.cell 2 _ rfl, k1.cell 3 _ rfl, k1.cell 4 _ rfl, k1.cell 5 _ rfl, k1.cell 6 _ rfl⟩
  have HSA : Hid (∀ X, Hid (Below w1.heap.size w1 X) → Calls Tryd.prog 11 #[.agg #[.int .i64 ak, .string anm, .int .i64 am, .slice ao3 an3 ac3, .slice ao4 an4 ac4, .slice ao5 an5 ac5, .slice ao6 an6 ac6], .int .i64 300, .int .i64 120] X fun r W' => ∃ b : Bool, r = .returned (.bool b) ∧ (b = true → depLe (da + 1) ta 120 ∧ (cntM (da + 1) ta : Int) ≤ 300) ∧ Below X.heap.size X W') := fun X h => smallExpr_c 300 (by omega) 120 (by omega) da ta _ X (HX.out.1.grow (H1.out.trans (h.out.mono H1.out.size))).val HX.out.2.1
  have HPre : Hid (depLe (da + 1) ta 120 ∧ (cntM (da + 1) ta : Int) ≤ 300 → Hid (Pre16 w1 da ta (.agg #[.int .i64 ak, .string anm, .int .i64 am, .slice ao3 an3 ac3, .slice ao4 an4 ac4, .slice ao5 an5 ac5, .slice ao6 an6 ac6]) name)) := fun h1 => pre16 HX.out.1 HX.out.2.1 H1.out HX.out.2.2.2 h1.1 h1.2
  have hS : Hid (Below w1.heap.size w1 w1.drew) := (Below.refl _ _).drew
  clear HK HVw hb1 HB0
  go_upto_region 3 with fail
  refine wp_region_held_drew (S := fun X : World => Hid (Below w1.heap.size w1 X) ∧ X.cell? ⟨ab, 0, none⟩ = some (.int .i64 ak) ∧ X.cell? ⟨ab, 1, none⟩ = some (.string anm) ∧ X.cell? ⟨ab, 2, none⟩ = some (.int .i64 am) ∧ X.cell? ⟨ab, 3, none⟩ = some (.slice ao3 an3 ac3) ∧ X.cell? ⟨ab, 4, none⟩ = some (.slice ao4 an4 ac4) ∧ X.cell? ⟨ab, 5, none⟩ = some (.slice ao5 an5 ac5) ∧ X.cell? ⟨ab, 6, none⟩ = some (.slice ao6 an6 ac6)) (by kernel_rfl) (HKP.out _ hS) (fun hHeld => ?_)
  generalize w1.drew = x0 at hS hHeld ⊢
  refine wpAnyH_take (i := 0) (v := .agg #[.int .i64 ak, .string anm, .int .i64 am, .slice ao3 an3 ac3, .slice ao4 an4 ac4, .slice ao5 an5 ac5, .slice ao6 an6 ac6]) rfl (by kernel_rfl) (by kernel_rfl) (by kernel_rfl) (fun _ _ _ h => h) (Or.inl ⟨by kernel_rfl, fun X hX => ?_⟩) (by assumption) ?_
  · obtain ⟨-, q0, q1, q2, q3, q4, q5, q6⟩ := hX; go_simp
  try simp only [Act.put, List.setIfInBounds_toArray]
  refine wpAnyH_ready (rs := [1]) (by kernel_rfl) (by simp) ?_
  refine AllReadyH.cons (o := _) rfl (fun K hK => ?_) AllReadyH.nil
  go_simp
  go_at_call 11
  refine (HSA.out _ hS).mono ?_
  rintro e x1 ⟨b1, rfl, hb1, hb⟩
  have hS' : Hid (Below w1.heap.size w1 x1) := up2n hS hb
  refine hK.out _ _ (HKP.out _ hS') (fun hHeld' => ?_)
  clear hK K hb hS hHeld 
  have hS := hS'; clear hS'; have hHeld := hHeld'; clear hHeld'
  try simp only [Act.put, List.setIfInBounds_toArray, List.set_cons_zero, List.set_cons_succ]
  have HB1 : Hid (b1 = true → depLe (da + 1) ta 120 ∧ (cntM (da + 1) ta : Int) ≤ 300) := hb1
  clear hb1
  cases b1 with
  | false =>
    refine wpAnyH_take (i := 2) (v := .bool true) rfl (by kernel_rfl) (by kernel_rfl) (by kernel_rfl) (fun _ _ _ h => h) (Or.inl ⟨by kernel_rfl, fun X hX => ?_⟩) (by assumption) ?_
    · clear hX; go_simp
    try simp only [Act.put, List.setIfInBounds_toArray]
    refine wpAnyH_take (i := 3) (v := .bool true) rfl (by kernel_rfl) (by kernel_rfl) (by kernel_rfl) (fun _ _ _ h => h) (Or.inl ⟨by kernel_rfl, fun X hX => ?_⟩) (by assumption) ?_
    · clear hX; go_simp
    try simp only [Act.put]
    refine wpAnyH_take (i := 4) (v := undef) rfl (by kernel_rfl) (by kernel_rfl) (by kernel_rfl) (fun _ _ _ h => h) (Or.inr ⟨by kernel_rfl, rfl⟩) (by assumption) ?_
    simp only [Act.put, List.getElem_toArray, List.getElem_cons_succ, List.getElem_cons_zero, List.setIfInBounds_toArray, List.set_cons_zero, List.set_cons_succ]
    refine wpAnyH_take (i := 5) (v := undef) rfl (by kernel_rfl) (by kernel_rfl) (by kernel_rfl) (fun _ _ _ h => h) (Or.inr ⟨by kernel_rfl, rfl⟩) (by assumption) ?_
    simp only [Act.put, List.getElem_toArray, List.getElem_cons_succ, List.getElem_cons_zero, List.setIfInBounds_toArray, List.set_cons_zero, List.set_cons_succ]
    refine wpAnyH_take (i := 6) (v := undef) rfl (by kernel_rfl) (by kernel_rfl) (by kernel_rfl) (fun _ _ _ h => h) (Or.inr ⟨by kernel_rfl, rfl⟩) (by assumption) ?_
    simp only [Act.put, List.getElem_toArray, List.getElem_cons_succ, List.getElem_cons_zero, List.setIfInBounds_toArray, List.set_cons_zero, List.set_cons_succ]
    refine wpAnyH_take (i := 7) (v := .bool true) rfl (by kernel_rfl) (by kernel_rfl) (by kernel_rfl) (fun _ _ _ h => h) (Or.inl ⟨by kernel_rfl, fun X hX => ?_⟩) (by assumption) ?_
    · clear hX; go_simp
    simp only [Act.put, List.getElem_toArray, List.getElem_cons_succ, List.getElem_cons_zero, List.setIfInBounds_toArray, List.set_cons_zero, List.set_cons_succ]
    refine wpAnyH_take (i := 8) (v := .bool true) rfl (by kernel_rfl) (by kernel_rfl) (by kernel_rfl) (fun _ _ _ h => h) (Or.inl ⟨by kernel_rfl, fun X hX => ?_⟩) (by assumption) ?_
    · clear hX; go_simp
    simp only [Act.put, List.getElem_toArray, List.getElem_cons_succ, List.getElem_cons_zero, List.setIfInBounds_toArray, List.set_cons_zero, List.set_cons_succ]
    refine wpAnyH_take (i := 9) (v := undef) rfl (by kernel_rfl) (by kernel_rfl) (by kernel_rfl) (fun _ _ _ h => h) (Or.inr ⟨by kernel_rfl, rfl⟩) (by assumption) ?_
    simp only [Act.put, List.getElem_toArray, List.getElem_cons_succ, List.getElem_cons_zero, List.setIfInBounds_toArray, List.set_cons_zero, List.set_cons_succ]
    refine wpAnyH_take (i := 10) (v := undef) rfl (by kernel_rfl) (by kernel_rfl) (by kernel_rfl) (fun _ _ _ h => h) (Or.inr ⟨by kernel_rfl, rfl⟩) (by assumption) ?_
    simp only [Act.put, List.getElem_toArray, List.getElem_cons_succ, List.getElem_cons_zero, List.setIfInBounds_toArray, List.set_cons_zero, List.set_cons_succ]
    refine wpAnyH_take (i := 11) (v := undef) rfl (by kernel_rfl) (by kernel_rfl) (by kernel_rfl) (fun _ _ _ h => h) (Or.inr ⟨by kernel_rfl, rfl⟩) (by assumption) ?_
    simp only [Act.put, List.getElem_toArray, List.getElem_cons_succ, List.getElem_cons_zero, List.setIfInBounds_toArray, List.set_cons_zero, List.set_cons_succ]
    refine wpAnyH_take (i := 12) (v := undef) rfl (by kernel_rfl) (by kernel_rfl) (by kernel_rfl) (fun _ _ _ h => h) (Or.inr ⟨by kernel_rfl, rfl⟩) (by assumption) ?_
    simp only [Act.put, List.getElem_toArray, List.getElem_cons_succ, List.getElem_cons_zero, List.setIfInBounds_toArray, List.set_cons_zero, List.set_cons_succ]
    refine wpAnyH_take (i := 13) (v := undef) rfl (by kernel_rfl) (by kernel_rfl) (by kernel_rfl) (fun _ _ _ h => h) (Or.inr ⟨by kernel_rfl, rfl⟩) (by assumption) ?_
    simp only [Act.put, List.getElem_toArray, List.getElem_cons_succ, List.getElem_cons_zero, List.setIfInBounds_toArray, List.set_cons_zero, List.set_cons_succ]
    refine wpAnyH_take (i := 14) (v := undef) rfl (by kernel_rfl) (by kernel_rfl) (by kernel_rfl) (fun _ _ _ h => h) (Or.inr ⟨by kernel_rfl, rfl⟩) (by assumption) ?_
    simp only [Act.put, List.getElem_toArray, List.getElem_cons_succ, List.getElem_cons_zero, List.setIfInBounds_toArray, List.set_cons_zero, List.set_cons_succ]
    refine wpAnyH_take (i := 15) (v := undef) rfl (by kernel_rfl) (by kernel_rfl) (by kernel_rfl) (fun _ _ _ h => h) (Or.inr ⟨by kernel_rfl, rfl⟩) (by assumption) ?_
    simp only [Act.put, List.getElem_toArray, List.getElem_cons_succ, List.getElem_cons_zero, List.setIfInBounds_toArray, List.set_cons_zero, List.set_cons_succ]
    refine wpAnyH_take (i := 16) (v := .bool true) rfl (by kernel_rfl) (by kernel_rfl) (by kernel_rfl) (fun _ _ _ h => h) (Or.inl ⟨by kernel_rfl, fun X hX => ?_⟩) (by assumption) ?_
    · clear hX; go_simp
    simp only [Act.put, List.getElem_toArray, List.getElem_cons_succ, List.getElem_cons_zero, List.setIfInBounds_toArray, List.set_cons_zero, List.set_cons_succ]
    refine wpAnyH_done (by kernel_rfl) ?_ _
    clear hHeld
    go_wp2
    go_ret
    exact ⟨rfl, H1.out.trans (hS.out.mono H1.out.size)⟩
  | true =>
    have HA1 : Hid (depLe (da + 1) ta 120 ∧ (cntM (da + 1) ta : Int) ≤ 300) := HB1.out rfl
    clear HB1
    refine wpAnyH_take (i := 2) (v := .bool false) rfl (by kernel_rfl) (by kernel_rfl) (by kernel_rfl) (fun _ _ _ h => h) (Or.inl ⟨by kernel_rfl, fun X hX => ?_⟩) (by assumption) ?_
    · clear hX; go_simp
    try simp only [Act.put, List.setIfInBounds_toArray]
    refine wpAnyH_take (i := 3) (v := .bool false) rfl (by kernel_rfl) (by kernel_rfl) (by kernel_rfl) (fun _ _ _ h => h) (Or.inl ⟨by kernel_rfl, fun X hX => ?_⟩) (by assumption) ?_
    · clear hX; go_simp
    try simp only [Act.put]
    refine wpAnyH_take (i := 4) (v := .string name) rfl (by kernel_rfl) (by kernel_rfl) (by kernel_rfl) (fun _ _ _ h => h) (Or.inl ⟨by kernel_rfl, fun X hX => ?_⟩) (by assumption) ?_
    · clear hX; go_simp
    try simp only [Act.put]
    refine wpAnyH_take (i := 5) (v := .int .i64 (name.size : Int)) rfl (by kernel_rfl) (by kernel_rfl) (by kernel_rfl) (fun _ _ _ h => h) (Or.inl ⟨by kernel_rfl, fun X hX => ?_⟩) (by assumption) ?_
    · clear hX; go_simp
    try simp only [Act.put]
    by_cases hnm : (1000 : Int) < (name.size : Int)
    · have hnd : decide ((1000 : Int) < (name.size : Int)) = true := decide_eq_true hnm
      refine wpAnyH_take (i := 6) (v := .bool true) rfl (by kernel_rfl) (by kernel_rfl) (by kernel_rfl) (fun _ _ _ h => h) (Or.inl ⟨by kernel_rfl, fun X hX => ?_⟩) (by assumption) ?_
      · clear hX; go_simp
      try simp only [Act.put]
      refine wpAnyH_take (i := 7) (v := .bool true) rfl (by kernel_rfl) (by kernel_rfl) (by kernel_rfl) (fun _ _ _ h => h) (Or.inl ⟨by kernel_rfl, fun X hX => ?_⟩) (by assumption) ?_
      · clear hX; go_simp
      try simp only [Act.put]
      refine wpAnyH_take (i := 8) (v := .bool true) rfl (by kernel_rfl) (by kernel_rfl) (by kernel_rfl) (fun _ _ _ h => h) (Or.inl ⟨by kernel_rfl, fun X hX => ?_⟩) (by assumption) ?_
      · clear hX; go_simp
      try simp only [Act.put]
      refine wpAnyH_take (i := 9) (v := undef) rfl (by kernel_rfl) (by kernel_rfl) (by kernel_rfl) (fun _ _ _ h => h) (Or.inr ⟨by kernel_rfl, rfl⟩) (by assumption) ?_
      simp only [Act.put, List.getElem_toArray, List.getElem_cons_succ, List.getElem_cons_zero, List.setIfInBounds_toArray, List.set_cons_zero, List.set_cons_succ]
      refine wpAnyH_take (i := 10) (v := undef) rfl (by kernel_rfl) (by kernel_rfl) (by kernel_rfl) (fun _ _ _ h => h) (Or.inr ⟨by kernel_rfl, rfl⟩) (by assumption) ?_
      simp only [Act.put, List.getElem_toArray, List.getElem_cons_succ, List.getElem_cons_zero, List.setIfInBounds_toArray, List.set_cons_zero, List.set_cons_succ]
      refine wpAnyH_take (i := 11) (v := undef) rfl (by kernel_rfl) (by kernel_rfl) (by kernel_rfl) (fun _ _ _ h => h) (Or.inr ⟨by kernel_rfl, rfl⟩) (by assumption) ?_
      simp only [Act.put, List.getElem_toArray, List.getElem_cons_succ, List.getElem_cons_zero, List.setIfInBounds_toArray, List.set_cons_zero, List.set_cons_succ]
      refine wpAnyH_take (i := 12) (v := undef) rfl (by kernel_rfl) (by kernel_rfl) (by kernel_rfl) (fun _ _ _ h => h) (Or.inr ⟨by kernel_rfl, rfl⟩) (by assumption) ?_
      simp only [Act.put, List.getElem_toArray, List.getElem_cons_succ, List.getElem_cons_zero, List.setIfInBounds_toArray, List.set_cons_zero, List.set_cons_succ]
      refine wpAnyH_take (i := 13) (v := undef) rfl (by kernel_rfl) (by kernel_rfl) (by kernel_rfl) (fun _ _ _ h => h) (Or.inr ⟨by kernel_rfl, rfl⟩) (by assumption) ?_
      simp only [Act.put, List.getElem_toArray, List.getElem_cons_succ, List.getElem_cons_zero, List.setIfInBounds_toArray, List.set_cons_zero, List.set_cons_succ]
      refine wpAnyH_take (i := 14) (v := undef) rfl (by kernel_rfl) (by kernel_rfl) (by kernel_rfl) (fun _ _ _ h => h) (Or.inr ⟨by kernel_rfl, rfl⟩) (by assumption) ?_
      simp only [Act.put, List.getElem_toArray, List.getElem_cons_succ, List.getElem_cons_zero, List.setIfInBounds_toArray, List.set_cons_zero, List.set_cons_succ]
      refine wpAnyH_take (i := 15) (v := undef) rfl (by kernel_rfl) (by kernel_rfl) (by kernel_rfl) (fun _ _ _ h => h) (Or.inr ⟨by kernel_rfl, rfl⟩) (by assumption) ?_
      simp only [Act.put, List.getElem_toArray, List.getElem_cons_succ, List.getElem_cons_zero, List.setIfInBounds_toArray, List.set_cons_zero, List.set_cons_succ]
      refine wpAnyH_take (i := 16) (v := .bool true) rfl (by kernel_rfl) (by kernel_rfl) (by kernel_rfl) (fun _ _ _ h => h) (Or.inl ⟨by kernel_rfl, fun X hX => ?_⟩) (by assumption) ?_
      · clear hX; go_simp
      simp only [Act.put, List.getElem_toArray, List.getElem_cons_succ, List.getElem_cons_zero, List.setIfInBounds_toArray, List.set_cons_zero, List.set_cons_succ]
      refine wpAnyH_done (by kernel_rfl) ?_ _
      clear hHeld
      go_wp2
      go_ret
      exact ⟨rfl, H1.out.trans (hS.out.mono H1.out.size)⟩
    · have hnd : decide ((1000 : Int) < (name.size : Int)) = false := decide_eq_false hnm
      refine wpAnyH_take (i := 6) (v := .bool false) rfl (by kernel_rfl) (by kernel_rfl) (by kernel_rfl) (fun _ _ _ h => h) (Or.inl ⟨by kernel_rfl, fun X hX => ?_⟩) (by assumption) ?_
      · clear hX; go_simp
      try simp only [Act.put]
      refine wpAnyH_take (i := 7) (v := .bool false) rfl (by kernel_rfl) (by kernel_rfl) (by kernel_rfl) (fun _ _ _ h => h) (Or.inl ⟨by kernel_rfl, fun X hX => ?_⟩) (by assumption) ?_
      · clear hX; go_simp
      try simp only [Act.put]
      refine wpAnyH_take (i := 8) (v := .bool false) rfl (by kernel_rfl) (by kernel_rfl) (by kernel_rfl) (fun _ _ _ h => h) (Or.inl ⟨by kernel_rfl, fun X hX => ?_⟩) (by assumption) ?_
      · clear hX; go_simp
      try simp only [Act.put]
      have HNM : Hid (name.size ≤ 1000) := by show _ ≤ _; omega
      clear hnd hnm
      have HPa := HPre.out HA1.out
      refine wpAnyH_take (i := 11) (v := .agg #[.int .i64 ak, .string anm, .int .i64 am, .slice ao3 an3 ac3, .slice ao4 an4 ac4, .slice ao5 an5 ac5, .slice ao6 an6 ac6]) rfl (by kernel_rfl) (by kernel_rfl) (by kernel_rfl) (fun _ _ _ h => h) (Or.inl ⟨by kernel_rfl, fun X hX => ?_⟩) (by assumption) ?_
      · obtain ⟨-, q0, q1, q2, q3, q4, q5, q6⟩ := hX; go_simp
      try simp only [Act.put]
      refine wpAnyH_take (i := 12) (v := .agg #[.int .i64 ak, .string anm, .int .i64 am, .slice ao3 an3 ac3, .slice ao4 an4 ac4, .slice ao5 an5 ac5, .slice ao6 an6 ac6]) rfl (by kernel_rfl) (by kernel_rfl) (by kernel_rfl) (fun _ _ _ h => h) (Or.inl ⟨by kernel_rfl, fun X hX => ?_⟩) (by assumption) ?_
      · obtain ⟨-, q0, q1, q2, q3, q4, q5, q6⟩ := hX; go_simp
      try simp only [Act.put]
      refine wpAnyH_ready (rs := [9]) (by kernel_rfl) (by simp) ?_
      refine AllReadyH.cons (o := _) rfl (fun K hK => ?_) AllReadyH.nil
      go_simp
      go_at_call 21
      refine (builtin16_c _).mono ?_
      rintro e x2 ⟨rfl, kg, hb⟩
      have hS' : Hid (Below w1.heap.size w1 x2) := up2n hS hb
      refine hK.out _ _ (HKP.out _ hS') (fun hHeld' => ?_)
      clear hK K hb hS hHeld 
      have hS := hS'; clear hS'; have hHeld := hHeld'; clear hHeld'
      try simp only [Act.put, List.setIfInBounds_toArray, List.set_cons_zero, List.set_cons_succ]
      obtain ⟨pg, hpg⟩ : ∃ n, x1.heap.size = n := ⟨_, rfl⟩
      rw [hpg] at kg
      (try rw [hpg])
      clear hpg
      refine wpAnyH_take (i := 10) (v := .agg #[.slice (some ⟨pg, 0, none⟩) 5 5, .slice none 0 0]) rfl (by kernel_rfl) (by kernel_rfl) (by kernel_rfl) (fun _ _ _ h => h) (Or.inl ⟨by kernel_rfl, fun X hX => ?_⟩) (by assumption) ?_
      · clear hX; go_simp
      try simp only [Act.put, List.setIfInBounds_toArray]
      refine wpAnyH_ready (rs := [13]) (by kernel_rfl) (by simp) ?_
      refine AllReadyH.cons (o := _) rfl (fun K hK => ?_) AllReadyH.nil
      go_simp
      go_at_call 22
      refine (HPa.out.1 _ hS).mono ?_
      rintro e x3 ⟨fv, rfl, hfr, hb⟩
      have hS' : Hid (Below w1.heap.size w1 x3) := up2n hS hb
      replace kg := kg.below hb
      refine hK.out _ _ (HKP.out _ hS') (fun hHeld' => ?_)
      clear hK K hb hS hHeld 
      have hS := hS'; clear hS'; have hHeld := hHeld'; clear hHeld'
      try simp only [Act.put, List.setIfInBounds_toArray, List.set_cons_zero, List.set_cons_succ]
      obtain ⟨fo, fn, fc, rfl⟩ : ∃ o n c, fv = .slice o n c := by obtain ⟨o, c, e, -⟩ := TxV.ofRow hfr; exact ⟨_, _, _, e⟩
      refine wpAnyH_ready (rs := [14]) (by kernel_rfl) (by simp) ?_
      refine AllReadyH.cons (o := _) rfl (fun K hK => ?_) AllReadyH.nil
      go_simp
      go_at_call 20
      refine (HPa.out.2.1 _ hS _ _ kg (VarsAt.ofRow hfr)).mono ?_
      rintro e x4 ⟨z, rfl, hz, hb⟩
      have hS' : Hid (Below w1.heap.size w1 x4) := up2n hS hb
      refine hK.out _ _ (HKP.out _ hS') (fun hHeld' => ?_)
      clear hK K hb hS hHeld kg hfr
      have hS := hS'; clear hS'; have hHeld := hHeld'; clear hHeld'
      try simp only [Act.put, List.setIfInBounds_toArray, List.set_cons_zero, List.set_cons_succ]
      clear hz
      by_cases hz2 : z = 2
      · have hzd : decide (z = 2) = true := decide_eq_true hz2
        have hzd2 : (z == 2) = true := beq_iff_eq.2 hz2
        refine wpAnyH_take (i := 15) (v := .bool true) rfl (by kernel_rfl) (by kernel_rfl) (by kernel_rfl) (fun _ _ _ h => h) (Or.inl ⟨by kernel_rfl, fun X hX => ?_⟩) (by assumption) ?_
        · clear hX; go_simp
        try simp only [Act.put, List.setIfInBounds_toArray]
        refine wpAnyH_take (i := 16) (v := .bool true) rfl (by kernel_rfl) (by kernel_rfl) (by kernel_rfl) (fun _ _ _ h => h) (Or.inl ⟨by kernel_rfl, fun X hX => ?_⟩) (by assumption) ?_
        · clear hX; go_simp
        simp only [Act.put, List.getElem_toArray, List.getElem_cons_succ, List.getElem_cons_zero, List.setIfInBounds_toArray, List.set_cons_zero, List.set_cons_succ]
        refine wpAnyH_done (by kernel_rfl) ?_ _
        clear hHeld
        go_wp2
        go_ret
        exact ⟨rfl, H1.out.trans (hS.out.mono H1.out.size)⟩
      · have hzd : decide (z = 2) = false := decide_eq_false hz2
        have hzd2 : (z == 2) = false := beq_eq_false_iff_ne.2 hz2
        refine wpAnyH_take (i := 15) (v := .bool false) rfl (by kernel_rfl) (by kernel_rfl) (by kernel_rfl) (fun _ _ _ h => h) (Or.inl ⟨by kernel_rfl, fun X hX => ?_⟩) (by assumption) ?_
        · clear hX; go_simp
        try simp only [Act.put, List.setIfInBounds_toArray]
        refine wpAnyH_take (i := 16) (v := .bool false) rfl (by kernel_rfl) (by kernel_rfl) (by kernel_rfl) (fun _ _ _ h => h) (Or.inl ⟨by kernel_rfl, fun X hX => ?_⟩) (by assumption) ?_
        · clear hX; go_simp
        simp only [Act.put, List.getElem_toArray, List.getElem_cons_succ, List.getElem_cons_zero, List.setIfInBounds_toArray, List.set_cons_zero, List.set_cons_succ]
        clear hzd hzd2 hz2
        refine wpAnyH_done (by kernel_rfl) ?_ _
        clear hHeld
        have HQ := HPa.out.2.2 HNM.out
        have HPA : Hid (∀ X, Hid (Below w1.heap.size w1 X) → Calls Tryd.prog 22 #[.agg #[.int .i64 ak, .string anm, .int .i64 am, .slice ao3 an3 ac3, .slice ao4 an4 ac4, .slice ao5 an5 ac5, .slice ao6 an6 ac6]] X fun r w' => FrP (fsL 120 (down 119 (da + 1) ta)) X r w') := HPa.out.1
        have HOf : Hid (∀ X, Hid (Below w1.heap.size w1 X) → Calls Tryd.prog 13 #[.agg #[.int .i64 ak, .string anm, .int .i64 am, .slice ao3 an3 ac3, .slice ao4 an4 ac4, .slice ao5 an5 ac5, .slice ao6 an6 ac6], .string name] X fun r w' => r = .returned (.tuple #[.int .i64 (ofM 120 (down 119 (da + 1) ta) name.data.toList : Nat), .int .i64 0]) ∧ Below X.heap.size X w') := HQ.1
        have HCn : Hid (∀ X, Hid (Below w1.heap.size w1 X) → Calls Tryd.prog 15 #[.agg #[.int .i64 ak, .string anm, .int .i64 am, .slice ao3 an3 ac3, .slice ao4 an4 ac4, .slice ao5 an5 ac5, .slice ao6 an6 ac6], .string name] X fun r w' => r = .returned (.tuple #[.int .i64 (cntN 120 (down 119 (da + 1) ta) name.data.toList : Nat), .int .i64 0]) ∧ Below X.heap.size X w') := HQ.2.1
        have HGo : Hid (Goes (ofM 120 (down 119 (da + 1) ta) name.data.toList) (cntN 120 (down 119 (da + 1) ta) name.data.toList) (decide (name.data.toList ∈ fsL 120 (down 119 (da + 1) ta)))) := HQ.2.2.1
        have HFl : Hid ((fsL 120 (down 119 (da + 1) ta)).length ≤ 300) := HQ.2.2.2
        clear HQ HPa HPre HSA HA1 HX
        generalize fsL 120 (down 119 (da + 1) ta) = F at HFl HPA HGo
        generalize ofM 120 (down 119 (da + 1) ta) name.data.toList = oc at HOf HGo
        generalize cntN 120 (down 119 (da + 1) ta) name.data.toList = cn at HCn HGo
        obtain ⟨-, q0, q1, q2, q3, q4, q5, q6⟩ := HKP.out _ hS
        go_wp2_with (go_at_call 13; fail)
        clear q0 q1 q2 q3 q4 q5 q6
        refine (HOf.out _ hS).mono ?_
        rintro e y1 ⟨rfl, hb⟩
        have hS1 : Hid (Below w1.heap.size w1 y1) := up2n hS hb
        clear hb hS HOf
        obtain ⟨-, q0, q1, q2, q3, q4, q5, q6⟩ := HKP.out _ hS1
        go_wp2_with (go_at_call 15; fail)
        clear q0 q1 q2 q3 q4 q5 q6
        refine (HCn.out _ hS1).mono ?_
        rintro e y2 ⟨rfl, hb⟩
        have hS2 : Hid (Below w1.heap.size w1 y2) := up2n hS1 hb
        clear hb hS1 HCn
        obtain ⟨-, q0, q1, q2, q3, q4, q5, q6⟩ := HKP.out _ hS2
        go_wp2_with (go_at_call 22; fail)
        clear q0 q1 q2 q3 q4 q5 q6
        refine (HPA.out _ hS2).mono ?_
        rintro e y3 ⟨fv2, rfl, hfr2, hb⟩
        have HTF : Hid (TxV y3 fv2 F) := TxV.ofRow hfr2
        have hS3 : Hid (Below w1.heap.size w1 y3) := up2n hS2 hb
        obtain ⟨fo2, fc2, rfl, -⟩ := id HTF.out
        clear hfr2 hb hS2 HPA
        obtain ⟨n, hn⟩ : ∃ n, F.length = n := ⟨_, rfl⟩
        have HN : Hid (F.length = n) := hn
        have hli : (n : Int) ≤ 300 := by have := HFl.out; omega
        have h0 : Hid (Below y3.heap.size y3 y3) := Below.refl _ _
        rw [hn]
        clear hn
        go_wp2
        go_loopg [9, 11] n (fun g s9 s11 wr => ∃ (i : Nat) (th : Bool), s9 = .bool th ∧ s11 = .int .i64 i ∧ i ≤ n ∧ n - i ≤ g ∧ Hid (th = decide (name.data.toList ∈ F.take i)) ∧ Hid (Below y3.heap.size y3 wr))
        case atStart => exact ⟨0, false, rfl, rfl, Nat.zero_le _, by omega, (show false = _ by simp), h0⟩
        case round =>
          clear h0
          obtain ⟨i, th, rfl, rfl, hi, hg, HTh, HO⟩ := hrel
          by_cases hin : i < n
          · have hiz : (i : Int) < (n : Int) := by omega
            obtain ⟨x, hxp, hxe, gx, ox, rfl, hgx, hcx⟩ : ∃ (x : List UInt8) (hp : i < F.length), F[i] = x ∧ ∃ g off, fo2 = some ⟨g, off, none⟩ ∧ g < y3.heap.size ∧ y3.cell? ⟨g, off + i, none⟩ = some (.string ⟨x.toArray⟩) := by
              have hp : i < F.length := by rw [HN.out]; assumption
              obtain ⟨o, c, e, h⟩ := HTF.out
              cases e
              rcases h with h | ⟨g, off, e, hg, h⟩
              · rw [h] at hp; cases hp
              · exact ⟨F[i], hp, rfl, g, off, e, hg, h i hp⟩
            have hwx : wr.cell? ⟨gx, ox + i, none⟩ = some (.string ⟨x.toArray⟩) := (HO.out.cell (p := ⟨gx, ox + i, none⟩) hgx).trans hcx
            have hzx : gx < wr.heap.size := Nat.lt_of_lt_of_le hgx HO.out.size
            have HPx : Hid (∃ hp : i < F.length, F[i] = x) := ⟨hxp, hxe⟩
            clear hgx hcx hxp hxe
            have HStep : Hid ((th || (x == name.data.toList)) = decide (name.data.toList ∈ F.take (i + 1))) := by
              obtain ⟨hp, e⟩ := HPx.out
              have h9 : (th || (x == name.data.toList)) = decide (name.data.toList ∈ F.take (i + 1)) := by
                rw [List.take_succ_eq_append_getElem hp, e, HTh.out]
                by_cases h1 : name.data.toList ∈ F.take i
                · simp [h1]
                · by_cases h2 : x = name.data.toList
                  · simp [h2]
                  · simp [h1, beq_eq_false_iff_ne.2 h2, Ne.symm h2]
              exact h9
            cases th with
            | true =>
              go_wp2
              go_roundg (n - (i + 1))
              case measure => omega
              case rel => exact ⟨i + 1, true, rfl, by go_num, by omega, by omega, (by have h := HStep.out; rw [Bool.true_or] at h; exact h), HO⟩
            | false =>
              by_cases hxn : x = name.data.toList
              · have hd1 : (x == name.toList) = true := beq_iff_eq.2 (hxn.trans (ByteArray.toList_eq name).symm)
                have HXN : Hid (x = name.data.toList) := hxn
                have hd2 : decide ((⟨x.toArray⟩ : ByteArray) = name) = true := decide_eq_true (by rw [hxn])
                clear hxn
                go_wp2
                clear hd1 hd2
                go_roundg (n - (i + 1))
                case measure => omega
                case rel => exact ⟨i + 1, true, rfl, by go_num, by omega, by omega, (by have h := HStep.out; rw [Bool.false_or, beq_iff_eq.2 HXN.out] at h; exact h), HO⟩
              · have hd1 : (x == name.toList) = false := beq_eq_false_iff_ne.2 (fun e => hxn (e.trans (ByteArray.toList_eq name)))
                have HXN : Hid (¬ x = name.data.toList) := hxn
                have hd2 : decide ((⟨x.toArray⟩ : ByteArray) = name) = false := decide_eq_false (fun e => hxn (by rw [← e]))
                clear hxn
                go_wp2
                clear hd1 hd2
                go_roundg (n - (i + 1))
                case measure => omega
                case rel => exact ⟨i + 1, false, rfl, by go_num, by omega, by omega, (by have h := HStep.out; rw [Bool.false_or, beq_eq_false_iff_ne.2 HXN.out] at h; exact h), HO⟩
          · have hie : i = n := by omega
            subst hie
            have hth : decide (name.data.toList ∈ F) = th := by rw [HTh.out, ← HN.out, List.take_length]
            have HEnd : Hid (Below w.heap.size w wr) := H1.out.trans ((hS3.out.trans (HO.out.mono hS3.out.size)).mono H1.out.size)
            have hgo := HGo.out
            rw [hth] at hgo
            clear HTh HO HTF hth HGo HKP hS3
            rcases hgo with ⟨rfl, rfl, rfl⟩ | ⟨rfl | rfl, rfl, rfl⟩ | ⟨h3 | h3, hcn, rfl⟩
            · go_wp2
              go_ret
              exact ⟨rfl, HEnd.out⟩
            · go_wp2
              go_ret
              exact ⟨rfl, HEnd.out⟩
            · go_wp2
              go_ret
              exact ⟨rfl, HEnd.out⟩
            · subst h3
              have hcI : (2 : Int) ≤ (cn : Int) := by omega
              have hcd : decide ((2 : Int) ≤ (cn : Int)) = true := decide_eq_true hcI
              go_wp2
              go_ret
              exact ⟨by first | rfl | (show Ending.returned (.bool (decide (2 ≤ cn))) = _; rw [decide_eq_true hcn]), HEnd.out⟩
            · subst h3
              have hcI : (2 : Int) ≤ (cn : Int) := by omega
              have hcd : decide ((2 : Int) ≤ (cn : Int)) = true := decide_eq_true hcI
              go_wp2
              go_ret
              exact ⟨by first | rfl | (show Ending.returned (.bool (decide (2 ≤ cn))) = _; rw [decide_eq_true hcn]), HEnd.out⟩
end Go.Proofs.YtanankagomjalaaDoor
