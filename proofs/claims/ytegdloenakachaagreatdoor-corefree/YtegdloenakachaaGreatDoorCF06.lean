/-
  The law CoreFree, walked.
-/
import Derived.Test.YtegdloenakachaaGreatDoorCF05
import Derived.Test.YtegdloenakachaaGreatDoorCN31
import Derived.Deep.RegionHeld3
namespace Go.Proofs.YtegdloenakachaaGreatDoor
open Go.RowKit Go.Shelf Go.Maps Go.Sort
set_option linter.unusedVariables false
/-- What is asked of one expression that is small. -/
def PreE (w1 : World) (d : Nat) (t : Tr (d + 1)) (v : Value) : Prop := (∀ X, Hid (Below w1.heap.size w1 X) → Calls Tryz.prog 14 #[v] X fun r w' => FrP (fsL 120 (down 119 (d + 1) t)) X r w') ∧
  ∀ X, Hid (Below w1.heap.size w1 X) → ∀ g M vs, Blk X g bi7V 59 → Blk X M #[.string mainB, .int .i64 2, .string ⟨#[]⟩, .int .i64 1, .slice none 0 0, .slice none 0 0, .slice none 0 0, .slice none 0 0] 36 → VarsAt X vs ((fsL 120 (down 119 (d + 1) t)).map (fun x => ⟨x.toArray⟩)) → Calls Tryz.prog 26 #[.agg #[.slice (some ⟨g, 0, none⟩) 5 5, .slice (some ⟨M, 0, none⟩) 1 1], v, vs] X fun r w' => CkP 120 (down 119 (d + 1) t) X r w'
theorem preE {w w1 : World} {d : Nat} {t : Tr (d + 1)} {v : Value} (hv : ExVal2 w d t v) (hw : WfT (d + 1) t) (hb : Below w.heap.size w w1) (h1 : depLe (d + 1) t 120) (h2 : (cntM (d + 1) t : Int) ≤ 300) : PreE w1 d t v := by
  have hc0 : cntM 120 (down 119 (d + 1) t) = cntM (d + 1) t := down_cnt 119 (d + 1) t h1
  have hc : cntM 120 (down 119 (d + 1) t) ≤ 300 := by omega
  clear hc0
  have hw2 : WfT 120 (down 119 (d + 1) t) := down_wf 119 (d + 1) t hw
  have hV : ∀ X, Hid (Below w1.heap.size w1 X) → ExVal2 X 119 (down 119 (d + 1) t) v := fun X hX => (down_val2 h1 hv).grow (hb.trans (hX.out.mono hb.size))
  have a1 : costM 120 (down 119 (d + 1) t) + sizeM 120 (down 119 (d + 1) t) ≤ cntM 120 (down 119 (d + 1) t) := cost_le_cnt 120 (down 119 (d + 1) t)
  have a2 : (frL 120 (down 119 (d + 1) t)).length ≤ 300 := by have := frL_len 120 (down 119 (d + 1) t); omega
  have a3 : (fsL 120 (down 119 (d + 1) t)).length ≤ 300 := by have := fsL_len 120 (down 119 (d + 1) t); omega
  have c1 : cntM (119 + 1) (down 119 (d + 1) t) ≤ 300 := hc
  have c2 : costM 120 (down 119 (d + 1) t) + sizeM 120 (down 119 (d + 1) t) ≤ 300 := by omega
  have c3 : costM (119 + 1) (down 119 (d + 1) t) + sizeM (119 + 1) (down 119 (d + 1) t) ≤ 300 := c2
  clear a1 c2
  refine ⟨fun X hX => freeS_c 119 _ v X (hV X hX).val hw2 (by omega) (by omega), fun X hX g M vs hg hM hvs => ?_⟩
  refine checkExpr_c 119 _ v g M vs _ X (hV X hX) (fit_of _ _ hw2 (by omega)) (nm_of _ _ hw2) (by omega) (by rw [List.length_cons, List.length_map]; omega) (by omega) hg hM hvs (fun x hx => ?_) (by rw [List.length_map]; omega)
  obtain ⟨y, hy, rfl⟩ := List.mem_map.1 hx
  have h3 := allOwn_sz _ _ hw2 y (free_own _ _ [] y (fsL_mem.1 hy))
  show y.toArray.size ≤ _
  rw [List.size_toArray]
  unfold LB at h3
  unfold maxLen
  omega
theorem fsl_300 {d : Nat} {t : Tr (d + 1)} (h : depLe (d + 1) t 120 ∧ (cntM (d + 1) t : Int) ≤ 300) : (fsL 120 (down 119 (d + 1) t)).length ≤ 300 := by
  have h1 : cntM 120 (down 119 (d + 1) t) = cntM (d + 1) t := down_cnt 119 (d + 1) t h.1
  have h2 : (frL 120 (down 119 (d + 1) t)).length ≤ cntM 120 (down 119 (d + 1) t) := frL_len _ _
  have h3 := fsL_len 120 (down 119 (d + 1) t)
  have h4 := h.2
  omega
theorem sameSelf {w w1 : World} {d : Nat} {t : Tr (d + 1)} {v : Value} (hv : ExVal2 w d t v) (hw : WfT (d + 1) t) (hb : Below w.heap.size w w1) (h1 : depLe (d + 1) t 120) (h2 : (cntM (d + 1) t : Int) ≤ 300) : ∀ X, Hid (Below w1.heap.size w1 X) → ∀ v2, ExVal X X.heap.size 119 (down 119 (d + 1) t) v2 → Calls Tryz.prog 16 #[v2, v] X fun e Z => e = .returned (.bool true) ∧ Below X.heap.size X Z := by
  have hc0 : cntM 120 (down 119 (d + 1) t) = cntM (d + 1) t := down_cnt 119 (d + 1) t h1
  have hw2 : WfT 120 (down 119 (d + 1) t) := down_wf 119 (d + 1) t hw
  have a1 : costM 120 (down 119 (d + 1) t) + sizeM 120 (down 119 (d + 1) t) ≤ cntM 120 (down 119 (d + 1) t) := cost_le_cnt 120 (down 119 (d + 1) t)
  have c2 : costM 120 (down 119 (d + 1) t) + sizeM 120 (down 119 (d + 1) t) ≤ 300 := by omega
  have c3 : costM (119 + 1) (down 119 (d + 1) t) + sizeM (119 + 1) (down 119 (d + 1) t) ≤ 300 := c2
  clear a1 c2 hc0
  intro X hX v2 hv2
  have hV : ExVal X X.heap.size 119 (down 119 (d + 1) t) v := ((down_val2 h1 hv).grow (hb.trans (hX.out.mono hb.size))).val
  refine (Same_c 119 _ _ v2 v X.heap.size X hv2 hV (Nat.le_refl _) (nm_of _ _ hw2) (nm_of _ _ hw2) (by omega) (by omega) (by omega) (by omega) (by omega)).mono ?_
  rintro e Z ⟨rfl, h⟩
  rw [same_self]
  exact ⟨rfl, h⟩
def FRl (nm : List UInt8) (F : List (List UInt8)) (i : Nat) : List (List UInt8) := (F.take i).filter (fun x => !(x == nm))
theorem FRl.eq {nm : List UInt8} {F : List (List UInt8)} {i : Nat} (hi : i < F.length) (h : F[i] = nm) : FRl nm F (i + 1) = FRl nm F i := by
  unfold FRl
  rw [← List.take_append_getElem hi, List.filter_append, h]
  simp
theorem FRl.ne {nm : List UInt8} {F : List (List UInt8)} {i : Nat} (hi : i < F.length) (h : F[i] ≠ nm) : FRl nm F (i + 1) = FRl nm F i ++ [F[i]] := by
  unfold FRl
  rw [← List.take_append_getElem hi, List.filter_append]
  simp [h]
theorem FRl.len {nm : List UInt8} {F : List (List UInt8)} {i : Nat} : (FRl nm F i).length ≤ F.length := by
  unfold FRl
  exact Nat.le_trans (List.length_filter_le _ _) (by rw [List.length_take]; omega)
theorem there_eq {nm : List UInt8} {F : List (List UInt8)} {i : Nat} (hi : i < F.length) (h : F[i] = nm) : decide (nm ∈ F.take (i + 1)) = true := by
  rw [← List.take_append_getElem hi, h]
  simp
theorem there_ne {nm : List UInt8} {F : List (List UInt8)} {i : Nat} (hi : i < F.length) (h : F[i] ≠ nm) : decide (nm ∈ F.take (i + 1)) = decide (nm ∈ F.take i) := by
  refine decide_eq_decide.2 ?_
  have e := List.take_append_getElem hi
  rw [← e, List.mem_append, List.mem_singleton]
  exact ⟨fun h2 => h2.elim id (fun h3 => absurd h3.symm h), Or.inl⟩
/-- What the law wants of the expression behind the substitution. -/
def AfterS (X w' : World) (R : List (List UInt8)) (va v : Value) (th : Bool) : Prop := (∃ k s m o3 n3 c3 o4 n4 c4 o5 n5 c5 o6 n6 c6, v = .agg #[.int .i64 k, .string s, .int .i64 m, .slice o3 n3 c3, .slice o4 n4 c4, .slice o5 n5 c5, .slice o6 n6 c6]) ∧ (∀ Y, Hid (Below w'.heap.size w' Y) → Calls Tryz.prog 14 #[v] Y fun r Z => FrP R Y r Z) ∧ (th = false → ∀ Y, Hid (Below w'.heap.size w' Y) → Calls Tryz.prog 16 #[v, va] Y fun e Z => e = .returned (.bool true) ∧ Below Y.heap.size Y Z) ∧ Below X.heap.size X w'
def SubHyp (w1 : World) (F Fb : List (List UInt8)) (va vb : Value) (name : ByteArray) : Prop := ∀ X, Hid (Below w1.heap.size w1 X) → Calls Tryz.prog 12 #[va, .string name, vb] X fun r w' => ∃ v, r = .returned v ∧ AfterS X w' (if decide (name.data.toList ∈ F) = true then mergeM (F.filter (fun x => !(x == name.data.toList))) Fb else F) va v (decide (name.data.toList ∈ F))
set_option maxRecDepth 100000 in
set_option maxHeartbeats 8000000 in
theorem coreFree_c (da db : Nat) (ta : Tr (da + 1)) (tb : Tr (db + 1)) (va vb : Value) (name : ByteArray) (w : World) (hva : ExVal2 w da ta va) (hvb : ExVal2 w db tb vb) (hwa : WfT (da + 1) ta) (hwb : WfT (db + 1) tb) (hns : name.size ≤ maxLen) (hgt : GT w) (HT : Hid (∀ w1, Below w.heap.size w w1 → depLe (da + 1) ta 120 ∧ (cntM (da + 1) ta : Int) ≤ 300 → depLe (db + 1) tb 120 ∧ (cntM (db + 1) tb : Int) ≤ 300 → VarOK 120 (down 119 (da + 1) ta) → VarOK 120 (down 119 (db + 1) tb) → SubHyp w1 (fsL 120 (down 119 (da + 1) ta)) (fsL 120 (down 119 (db + 1) tb)) va vb name)) :
    Calls Tryz.prog 5 #[va, vb, .string name] w fun r w' => r = .returned (.bool true) ∧ Below w.heap.size w w' := by
  obtain ⟨ao3, ac3, ao4, ac4, ao5, ac5, ao6, ac6, eva, -⟩ := id hva
  obtain ⟨bo3, bc3, bo4, bc4, bo5, bc5, bo6, bc6, evb, -⟩ := id hvb
  obtain ⟨an3, han3⟩ : ∃ n, (TrN.params ta).length = n := ⟨_, rfl⟩
  obtain ⟨an4, han4⟩ : ∃ n, (TrN.binds ta).length = n := ⟨_, rfl⟩
  obtain ⟨an5, han5⟩ : ∃ n, (TrN.args ta).length = n := ⟨_, rfl⟩
  obtain ⟨an6, han6⟩ : ∃ n, (TrN.alts ta).length = n := ⟨_, rfl⟩
  obtain ⟨ak, hak⟩ : ∃ n, TrN.kind ta = n := ⟨_, rfl⟩
  obtain ⟨anm, has⟩ : ∃ n, TrN.name ta = n := ⟨_, rfl⟩
  obtain ⟨am, ham⟩ : ∃ n, TrN.num ta = n := ⟨_, rfl⟩
  obtain ⟨bn3, hbn3⟩ : ∃ n, (TrN.params tb).length = n := ⟨_, rfl⟩
  obtain ⟨bn4, hbn4⟩ : ∃ n, (TrN.binds tb).length = n := ⟨_, rfl⟩
  obtain ⟨bn5, hbn5⟩ : ∃ n, (TrN.args tb).length = n := ⟨_, rfl⟩
  obtain ⟨bn6, hbn6⟩ : ∃ n, (TrN.alts tb).length = n := ⟨_, rfl⟩
  obtain ⟨bk, hbk⟩ : ∃ n, TrN.kind tb = n := ⟨_, rfl⟩
  obtain ⟨bnm, hbs⟩ : ∃ n, TrN.name tb = n := ⟨_, rfl⟩
  obtain ⟨bm, hbm⟩ : ∃ n, TrN.num tb = n := ⟨_, rfl⟩
  rw [han3, han4, han5, han6, hak, has, ham] at eva
  rw [hbn3, hbn4, hbn5, hbn6, hbk, hbs, hbm] at evb
  subst eva evb
  clear han3 han4 han5 han6 hak has ham hbn3 hbn4 hbn5 hbn6 hbk hbs hbm
  obtain ⟨V, hVw⟩ : ∃ V, (w.alloc (.cells #[.int .i64 ak, .string anm, .int .i64 am, .slice ao3 an3 ac3, .slice ao4 an4 ac4, .slice ao5 an5 ac5, .slice ao6 an6 ac6] 31)).alloc (.cells #[.int .i64 bk, .string bnm, .int .i64 bm, .slice bo3 bn3 bc3, .slice bo4 bn4 bc4, .slice bo5 bn5 bc5, .slice bo6 bn6 bc6] 31) = V := ⟨_, rfl⟩
  have e1 : (w.alloc (.cells #[.int .i64 ak, .string anm, .int .i64 am, .slice ao3 an3 ac3, .slice ao4 an4 ac4, .slice ao5 an5 ac5, .slice ao6 an6 ac6] 31)).heap.size = w.heap.size + 1 := Array.size_push _
  have b1 := below1 w (.cells #[.int .i64 ak, .string anm, .int .i64 am, .slice ao3 an3 ac3, .slice ao4 an4 ac4, .slice ao5 an5 ac5, .slice ao6 an6 ac6] 31)
  have b2 := below1 (w.alloc (.cells #[.int .i64 ak, .string anm, .int .i64 am, .slice ao3 an3 ac3, .slice ao4 an4 ac4, .slice ao5 an5 ac5, .slice ao6 an6 ac6] 31)) (.cells #[.int .i64 bk, .string bnm, .int .i64 bm, .slice bo3 bn3 bc3, .slice bo4 bn4 bc4, .slice bo5 bn5 bc5, .slice bo6 bn6 bc6] 31)
  have ka := (Blk.new w #[.int .i64 ak, .string anm, .int .i64 am, .slice ao3 an3 ac3, .slice ao4 an4 ac4, .slice ao5 an5 ac5, .slice ao6 an6 ac6] 31).below b2
  have kb := Blk.new (w.alloc (.cells #[.int .i64 ak, .string anm, .int .i64 am, .slice ao3 an3 ac3, .slice ao4 an4 ac4, .slice ao5 an5 ac5, .slice ao6 an6 ac6] 31)) #[.int .i64 bk, .string bnm, .int .i64 bm, .slice bo3 bn3 bc3, .slice bo4 bn4 bc4, .slice bo5 bn5 bc5, .slice bo6 bn6 bc6] 31
  rw [e1] at kb
  rw [hVw] at b2 ka kb
  have bV : Below w.heap.size w V := b1.trans (b2.mono b1.size)
  obtain ⟨ab, hab⟩ : ∃ n, w.heap.size = n := ⟨_, rfl⟩
  obtain ⟨bb, hbb⟩ : ∃ n, w.heap.size + 1 = n := ⟨_, rfl⟩
  have HVw : Hid ((w.alloc (.cells #[.int .i64 ak, .string anm, .int .i64 am, .slice ao3 an3 ac3, .slice ao4 an4 ac4, .slice ao5 an5 ac5, .slice ao6 an6 ac6] 31)).alloc (.cells #[.int .i64 bk, .string bnm, .int .i64 bm, .slice bo3 bn3 bc3, .slice bo4 bn4 bc4, .slice bo5 bn5 bc5, .slice bo6 bn6 bc6] 31) = V ∧ w.heap.size = ab ∧ w.heap.size + 1 = bb) := ⟨hVw, hab, hbb⟩
  rw [hbb] at kb
  rw [hab] at ka
  have HB0 : Hid (Below w.heap.size w V) := bV
  have HK : Hid (Blk V ab #[.int .i64 ak, .string anm, .int .i64 am, .slice ao3 an3 ac3, .slice ao4 an4 ac4, .slice ao5 an5 ac5, .slice ao6 an6 ac6] 31 ∧ Blk V bb #[.int .i64 bk, .string bnm, .int .i64 bm, .slice bo3 bn3 bc3, .slice bo4 bn4 bc4, .slice bo5 bn5 bc5, .slice bo6 bn6 bc6] 31) := ⟨ka, kb⟩
  have HX : Hid (ExVal2 w da ta (.agg #[.int .i64 ak, .string anm, .int .i64 am, .slice ao3 an3 ac3, .slice ao4 an4 ac4, .slice ao5 an5 ac5, .slice ao6 an6 ac6]) ∧ ExVal2 w db tb (.agg #[.int .i64 bk, .string bnm, .int .i64 bm, .slice bo3 bn3 bc3, .slice bo4 bn4 bc4, .slice bo5 bn5 bc5, .slice bo6 bn6 bc6]) ∧ WfT (da + 1) ta ∧ WfT (db + 1) tb ∧ name.size ≤ maxLen ∧ GT w) := ⟨hva, hvb, hwa, hwb, hns, hgt⟩
  have hnsz : (name.size : Int) ≤ 9223372036854775807 := by unfold maxLen at hns; omega
  clear hva hvb hwa hwb hns hgt ka kb b1 b2 bV e1 hVw hab hbb
  go_enter Tryz.func5, Tryz.ntmps5
  go_wp2_with (go_at_call 6; fail)
  rw [HVw.out.1, HVw.out.2.2, HVw.out.2.1]
  refine (lives_c V).mono ?_
  rintro e w1 ⟨rfl, hb1⟩
  have H1 : Hid (Below w.heap.size w w1) := HB0.out.trans (hb1.mono HB0.out.size)
  have HKP : Hid (∀ X, Hid (Below w1.heap.size w1 X) → Hid (Below w1.heap.size w1 X) ∧ X.cell? ⟨ab, 0, none⟩ = some (.int .i64 ak) ∧ X.cell? ⟨ab, 1, none⟩ = some (.string anm) ∧ X.cell? ⟨ab, 2, none⟩ = some (.int .i64 am) ∧ X.cell? ⟨ab, 3, none⟩ = some (.slice ao3 an3 ac3) ∧ X.cell? ⟨ab, 4, none⟩ = some (.slice ao4 an4 ac4) ∧ X.cell? ⟨ab, 5, none⟩ = some (.slice ao5 an5 ac5) ∧ X.cell? ⟨ab, 6, none⟩ = some (.slice ao6 an6 ac6) ∧ X.cell? ⟨bb, 0, none⟩ = some (.int .i64 bk) ∧ X.cell? ⟨bb, 1, none⟩ = some (.string bnm) ∧ X.cell? ⟨bb, 2, none⟩ = some (.int .i64 bm) ∧ X.cell? ⟨bb, 3, none⟩ = some (.slice bo3 bn3 bc3) ∧ X.cell? ⟨bb, 4, none⟩ = some (.slice bo4 bn4 bc4) ∧ X.cell? ⟨bb, 5, none⟩ = some (.slice bo5 bn5 bc5) ∧ X.cell? ⟨bb, 6, none⟩ = some (.slice bo6 bn6 bc6)) := fun X h => by
    have hb := hb1.trans (h.out.mono hb1.size)
    have k1 := HK.out.1.below hb
    have k2 := HK.out.2.below hb
    exact ⟨h, k1.cell 0 _ rfl, k1.cell 1 _ rfl, k1.cell 2 _ rfl, k1.cell 3 _ rfl, k1.cell 4 _ rfl, k1.cell 5 _ rfl, k1.cell 6 _ rfl, k2.cell 0 _ rfl, k2.cell 1 _ rfl, k2.cell 2 _ rfl, k2.cell 3 _ rfl, k2.cell 4 _ rfl, k2.cell 5 _ rfl, k2.cell 6 _ rfl⟩
  have HSA : Hid (∀ X, Hid (Below w1.heap.size w1 X) → Calls Tryz.prog 21 #[.agg #[.int .i64 ak, .string anm, .int .i64 am, .slice ao3 an3 ac3, .slice ao4 an4 ac4, .slice ao5 an5 ac5, .slice ao6 an6 ac6], .int .i64 300, .int .i64 120] X fun r W' => ∃ b : Bool, r = .returned (.bool b) ∧ (b = true → depLe (da + 1) ta 120 ∧ (cntM (da + 1) ta : Int) ≤ 300) ∧ Below X.heap.size X W') := fun X h => smallExpr_c 300 (by omega) 120 (by omega) da ta _ X (HX.out.1.grow (H1.out.trans (h.out.mono H1.out.size))).val HX.out.2.2.1
  have HSB : Hid (∀ X, Hid (Below w1.heap.size w1 X) → Calls Tryz.prog 21 #[.agg #[.int .i64 bk, .string bnm, .int .i64 bm, .slice bo3 bn3 bc3, .slice bo4 bn4 bc4, .slice bo5 bn5 bc5, .slice bo6 bn6 bc6], .int .i64 300, .int .i64 120] X fun r W' => ∃ b : Bool, r = .returned (.bool b) ∧ (b = true → depLe (db + 1) tb 120 ∧ (cntM (db + 1) tb : Int) ≤ 300) ∧ Below X.heap.size X W') := fun X h => smallExpr_c 300 (by omega) 120 (by omega) db tb _ X (HX.out.2.1.grow (H1.out.trans (h.out.mono H1.out.size))).val HX.out.2.2.2.1
  have HPre : Hid (depLe (da + 1) ta 120 ∧ (cntM (da + 1) ta : Int) ≤ 300 → depLe (db + 1) tb 120 ∧ (cntM (db + 1) tb : Int) ≤ 300 → Hid (PreE w1 da ta (.agg #[.int .i64 ak, .string anm, .int .i64 am, .slice ao3 an3 ac3, .slice ao4 an4 ac4, .slice ao5 an5 ac5, .slice ao6 an6 ac6])) ∧ Hid (PreE w1 db tb (.agg #[.int .i64 bk, .string bnm, .int .i64 bm, .slice bo3 bn3 bc3, .slice bo4 bn4 bc4, .slice bo5 bn5 bc5, .slice bo6 bn6 bc6]))) := fun h1 h2 => ⟨preE HX.out.1 HX.out.2.2.1 H1.out h1.1 h1.2, preE HX.out.2.1 HX.out.2.2.2.1 H1.out h2.1 h2.2⟩
  have hS : Hid (Below w1.heap.size w1 w1.drew) := (Below.refl _ _).drew
  clear HK HVw hb1 HB0
  go_upto_region 3 with fail
  refine wp_region_held_drew (S := fun X : World => Hid (Below w1.heap.size w1 X) ∧ X.cell? ⟨ab, 0, none⟩ = some (.int .i64 ak) ∧ X.cell? ⟨ab, 1, none⟩ = some (.string anm) ∧ X.cell? ⟨ab, 2, none⟩ = some (.int .i64 am) ∧ X.cell? ⟨ab, 3, none⟩ = some (.slice ao3 an3 ac3) ∧ X.cell? ⟨ab, 4, none⟩ = some (.slice ao4 an4 ac4) ∧ X.cell? ⟨ab, 5, none⟩ = some (.slice ao5 an5 ac5) ∧ X.cell? ⟨ab, 6, none⟩ = some (.slice ao6 an6 ac6) ∧ X.cell? ⟨bb, 0, none⟩ = some (.int .i64 bk) ∧ X.cell? ⟨bb, 1, none⟩ = some (.string bnm) ∧ X.cell? ⟨bb, 2, none⟩ = some (.int .i64 bm) ∧ X.cell? ⟨bb, 3, none⟩ = some (.slice bo3 bn3 bc3) ∧ X.cell? ⟨bb, 4, none⟩ = some (.slice bo4 bn4 bc4) ∧ X.cell? ⟨bb, 5, none⟩ = some (.slice bo5 bn5 bc5) ∧ X.cell? ⟨bb, 6, none⟩ = some (.slice bo6 bn6 bc6)) (by kernel_rfl) (HKP.out _ hS) (fun hHeld => ?_)
  generalize w1.drew = x0 at hS hHeld ⊢
  refine wpAnyH_take (i := 0) (v := .agg #[.int .i64 ak, .string anm, .int .i64 am, .slice ao3 an3 ac3, .slice ao4 an4 ac4, .slice ao5 an5 ac5, .slice ao6 an6 ac6]) rfl (by kernel_rfl) (by kernel_rfl) (by kernel_rfl) (fun _ _ _ h => h) (Or.inl ⟨by kernel_rfl, fun X hX => ?_⟩) (by assumption) ?_
  · obtain ⟨-, q0, q1, q2, q3, q4, q5, q6, -, -, -, -, -, -, -⟩ := hX; go_simp
  try simp only [Act.put, List.setIfInBounds_toArray]
  refine wpAnyH_ready (rs := [1]) (by kernel_rfl) (by simp) ?_
  refine AllReadyH.cons (o := _) rfl (fun K hK => ?_) AllReadyH.nil
  go_simp
  go_at_call 21
  refine (HSA.out _ hS).mono ?_
  rintro e x1 ⟨b1, rfl, hb1, hb⟩
  have hS' : Hid (Below w1.heap.size w1 x1) := up2n hS hb
  refine hK.out _ _ (HKP.out _ hS') (fun hHeld' => ?_)
  clear hK K hb hS hHeld 
  have hS := hS'; clear hS'; have hHeld := hHeld'; clear hHeld'
  try simp only [Act.put, List.setIfInBounds_toArray, List.set_cons_zero, List.set_cons_succ]
  have HB1 : Hid (b1 = true → depLe (da + 1) ta 120 ∧ (cntM (da + 1) ta : Int) ≤ 300) := hb1
  clear hb1
  cases b1 with
  | false =>
    refine wpAnyH_take (i := 2) (v := .bool true) rfl (by kernel_rfl) (by kernel_rfl) (by kernel_rfl) (fun _ _ _ h => h) (Or.inl ⟨by kernel_rfl, fun X hX => ?_⟩) (by assumption) ?_
    · clear hX; go_simp
    try simp only [Act.put, List.setIfInBounds_toArray]
    refine wpAnyH_take (i := 3) (v := .bool true) rfl (by kernel_rfl) (by kernel_rfl) (by kernel_rfl) (fun _ _ _ h => h) (Or.inl ⟨by kernel_rfl, fun X hX => ?_⟩) (by assumption) ?_
    · clear hX; go_simp
    try simp only [Act.put]
    refine wpAnyH_take (i := 4) (v := undef) rfl (by kernel_rfl) (by kernel_rfl) (by kernel_rfl) (fun _ _ _ h => h) (Or.inr ⟨by kernel_rfl, rfl⟩) (by assumption) ?_
    simp only [Act.put, List.getElem_toArray, List.getElem_cons_succ, List.getElem_cons_zero, List.setIfInBounds_toArray, List.set_cons_zero, List.set_cons_succ]
    refine wpAnyH_take (i := 5) (v := undef) rfl (by kernel_rfl) (by kernel_rfl) (by kernel_rfl) (fun _ _ _ h => h) (Or.inr ⟨by kernel_rfl, rfl⟩) (by assumption) ?_
    simp only [Act.put, List.getElem_toArray, List.getElem_cons_succ, List.getElem_cons_zero, List.setIfInBounds_toArray, List.set_cons_zero, List.set_cons_succ]
    refine wpAnyH_take (i := 6) (v := undef) rfl (by kernel_rfl) (by kernel_rfl) (by kernel_rfl) (fun _ _ _ h => h) (Or.inr ⟨by kernel_rfl, rfl⟩) (by assumption) ?_
    simp only [Act.put, List.getElem_toArray, List.getElem_cons_succ, List.getElem_cons_zero, List.setIfInBounds_toArray, List.set_cons_zero, List.set_cons_succ]
    refine wpAnyH_take (i := 7) (v := .bool true) rfl (by kernel_rfl) (by kernel_rfl) (by kernel_rfl) (fun _ _ _ h => h) (Or.inl ⟨by kernel_rfl, fun X hX => ?_⟩) (by assumption) ?_
    · clear hX; go_simp
    simp only [Act.put, List.getElem_toArray, List.getElem_cons_succ, List.getElem_cons_zero, List.setIfInBounds_toArray, List.set_cons_zero, List.set_cons_succ]
    refine wpAnyH_take (i := 8) (v := .bool true) rfl (by kernel_rfl) (by kernel_rfl) (by kernel_rfl) (fun _ _ _ h => h) (Or.inl ⟨by kernel_rfl, fun X hX => ?_⟩) (by assumption) ?_
    · clear hX; go_simp
    simp only [Act.put, List.getElem_toArray, List.getElem_cons_succ, List.getElem_cons_zero, List.setIfInBounds_toArray, List.set_cons_zero, List.set_cons_succ]
    refine wpAnyH_take (i := 9) (v := undef) rfl (by kernel_rfl) (by kernel_rfl) (by kernel_rfl) (fun _ _ _ h => h) (Or.inr ⟨by kernel_rfl, rfl⟩) (by assumption) ?_
    simp only [Act.put, List.getElem_toArray, List.getElem_cons_succ, List.getElem_cons_zero, List.setIfInBounds_toArray, List.set_cons_zero, List.set_cons_succ]
    refine wpAnyH_take (i := 10) (v := undef) rfl (by kernel_rfl) (by kernel_rfl) (by kernel_rfl) (fun _ _ _ h => h) (Or.inr ⟨by kernel_rfl, rfl⟩) (by assumption) ?_
    simp only [Act.put, List.getElem_toArray, List.getElem_cons_succ, List.getElem_cons_zero, List.setIfInBounds_toArray, List.set_cons_zero, List.set_cons_succ]
    refine wpAnyH_take (i := 11) (v := undef) rfl (by kernel_rfl) (by kernel_rfl) (by kernel_rfl) (fun _ _ _ h => h) (Or.inr ⟨by kernel_rfl, rfl⟩) (by assumption) ?_
    simp only [Act.put, List.getElem_toArray, List.getElem_cons_succ, List.getElem_cons_zero, List.setIfInBounds_toArray, List.set_cons_zero, List.set_cons_succ]
    refine wpAnyH_take (i := 12) (v := .bool true) rfl (by kernel_rfl) (by kernel_rfl) (by kernel_rfl) (fun _ _ _ h => h) (Or.inl ⟨by kernel_rfl, fun X hX => ?_⟩) (by assumption) ?_
    · clear hX; go_simp
    simp only [Act.put, List.getElem_toArray, List.getElem_cons_succ, List.getElem_cons_zero, List.setIfInBounds_toArray, List.set_cons_zero, List.set_cons_succ]
    refine wpAnyH_take (i := 13) (v := .bool true) rfl (by kernel_rfl) (by kernel_rfl) (by kernel_rfl) (fun _ _ _ h => h) (Or.inl ⟨by kernel_rfl, fun X hX => ?_⟩) (by assumption) ?_
    · clear hX; go_simp
    simp only [Act.put, List.getElem_toArray, List.getElem_cons_succ, List.getElem_cons_zero, List.setIfInBounds_toArray, List.set_cons_zero, List.set_cons_succ]
    refine wpAnyH_take (i := 14) (v := undef) rfl (by kernel_rfl) (by kernel_rfl) (by kernel_rfl) (fun _ _ _ h => h) (Or.inr ⟨by kernel_rfl, rfl⟩) (by assumption) ?_
    simp only [Act.put, List.getElem_toArray, List.getElem_cons_succ, List.getElem_cons_zero, List.setIfInBounds_toArray, List.set_cons_zero, List.set_cons_succ]
    refine wpAnyH_take (i := 15) (v := undef) rfl (by kernel_rfl) (by kernel_rfl) (by kernel_rfl) (fun _ _ _ h => h) (Or.inr ⟨by kernel_rfl, rfl⟩) (by assumption) ?_
    simp only [Act.put, List.getElem_toArray, List.getElem_cons_succ, List.getElem_cons_zero, List.setIfInBounds_toArray, List.set_cons_zero, List.set_cons_succ]
    refine wpAnyH_take (i := 16) (v := undef) rfl (by kernel_rfl) (by kernel_rfl) (by kernel_rfl) (fun _ _ _ h => h) (Or.inr ⟨by kernel_rfl, rfl⟩) (by assumption) ?_
    simp only [Act.put, List.getElem_toArray, List.getElem_cons_succ, List.getElem_cons_zero, List.setIfInBounds_toArray, List.set_cons_zero, List.set_cons_succ]
    refine wpAnyH_take (i := 17) (v := undef) rfl (by kernel_rfl) (by kernel_rfl) (by kernel_rfl) (fun _ _ _ h => h) (Or.inr ⟨by kernel_rfl, rfl⟩) (by assumption) ?_
    simp only [Act.put, List.getElem_toArray, List.getElem_cons_succ, List.getElem_cons_zero, List.setIfInBounds_toArray, List.set_cons_zero, List.set_cons_succ]
    refine wpAnyH_take (i := 18) (v := undef) rfl (by kernel_rfl) (by kernel_rfl) (by kernel_rfl) (fun _ _ _ h => h) (Or.inr ⟨by kernel_rfl, rfl⟩) (by assumption) ?_
    simp only [Act.put, List.getElem_toArray, List.getElem_cons_succ, List.getElem_cons_zero, List.setIfInBounds_toArray, List.set_cons_zero, List.set_cons_succ]
    refine wpAnyH_take (i := 19) (v := undef) rfl (by kernel_rfl) (by kernel_rfl) (by kernel_rfl) (fun _ _ _ h => h) (Or.inr ⟨by kernel_rfl, rfl⟩) (by assumption) ?_
    simp only [Act.put, List.getElem_toArray, List.getElem_cons_succ, List.getElem_cons_zero, List.setIfInBounds_toArray, List.set_cons_zero, List.set_cons_succ]
    refine wpAnyH_take (i := 20) (v := undef) rfl (by kernel_rfl) (by kernel_rfl) (by kernel_rfl) (fun _ _ _ h => h) (Or.inr ⟨by kernel_rfl, rfl⟩) (by assumption) ?_
    simp only [Act.put, List.getElem_toArray, List.getElem_cons_succ, List.getElem_cons_zero, List.setIfInBounds_toArray, List.set_cons_zero, List.set_cons_succ]
    refine wpAnyH_take (i := 21) (v := .bool true) rfl (by kernel_rfl) (by kernel_rfl) (by kernel_rfl) (fun _ _ _ h => h) (Or.inl ⟨by kernel_rfl, fun X hX => ?_⟩) (by assumption) ?_
    · clear hX; go_simp
    simp only [Act.put, List.getElem_toArray, List.getElem_cons_succ, List.getElem_cons_zero, List.setIfInBounds_toArray, List.set_cons_zero, List.set_cons_succ]
    refine wpAnyH_take (i := 22) (v := .bool true) rfl (by kernel_rfl) (by kernel_rfl) (by kernel_rfl) (fun _ _ _ h => h) (Or.inl ⟨by kernel_rfl, fun X hX => ?_⟩) (by assumption) ?_
    · clear hX; go_simp
    simp only [Act.put, List.getElem_toArray, List.getElem_cons_succ, List.getElem_cons_zero, List.setIfInBounds_toArray, List.set_cons_zero, List.set_cons_succ]
    refine wpAnyH_take (i := 23) (v := undef) rfl (by kernel_rfl) (by kernel_rfl) (by kernel_rfl) (fun _ _ _ h => h) (Or.inr ⟨by kernel_rfl, rfl⟩) (by assumption) ?_
    simp only [Act.put, List.getElem_toArray, List.getElem_cons_succ, List.getElem_cons_zero, List.setIfInBounds_toArray, List.set_cons_zero, List.set_cons_succ]
    refine wpAnyH_take (i := 24) (v := undef) rfl (by kernel_rfl) (by kernel_rfl) (by kernel_rfl) (fun _ _ _ h => h) (Or.inr ⟨by kernel_rfl, rfl⟩) (by assumption) ?_
    simp only [Act.put, List.getElem_toArray, List.getElem_cons_succ, List.getElem_cons_zero, List.setIfInBounds_toArray, List.set_cons_zero, List.set_cons_succ]
    refine wpAnyH_take (i := 25) (v := undef) rfl (by kernel_rfl) (by kernel_rfl) (by kernel_rfl) (fun _ _ _ h => h) (Or.inr ⟨by kernel_rfl, rfl⟩) (by assumption) ?_
    simp only [Act.put, List.getElem_toArray, List.getElem_cons_succ, List.getElem_cons_zero, List.setIfInBounds_toArray, List.set_cons_zero, List.set_cons_succ]
    refine wpAnyH_take (i := 26) (v := undef) rfl (by kernel_rfl) (by kernel_rfl) (by kernel_rfl) (fun _ _ _ h => h) (Or.inr ⟨by kernel_rfl, rfl⟩) (by assumption) ?_
    simp only [Act.put, List.getElem_toArray, List.getElem_cons_succ, List.getElem_cons_zero, List.setIfInBounds_toArray, List.set_cons_zero, List.set_cons_succ]
    refine wpAnyH_take (i := 27) (v := undef) rfl (by kernel_rfl) (by kernel_rfl) (by kernel_rfl) (fun _ _ _ h => h) (Or.inr ⟨by kernel_rfl, rfl⟩) (by assumption) ?_
    simp only [Act.put, List.getElem_toArray, List.getElem_cons_succ, List.getElem_cons_zero, List.setIfInBounds_toArray, List.set_cons_zero, List.set_cons_succ]
    refine wpAnyH_take (i := 28) (v := undef) rfl (by kernel_rfl) (by kernel_rfl) (by kernel_rfl) (fun _ _ _ h => h) (Or.inr ⟨by kernel_rfl, rfl⟩) (by assumption) ?_
    simp only [Act.put, List.getElem_toArray, List.getElem_cons_succ, List.getElem_cons_zero, List.setIfInBounds_toArray, List.set_cons_zero, List.set_cons_succ]
    refine wpAnyH_take (i := 29) (v := undef) rfl (by kernel_rfl) (by kernel_rfl) (by kernel_rfl) (fun _ _ _ h => h) (Or.inr ⟨by kernel_rfl, rfl⟩) (by assumption) ?_
    simp only [Act.put, List.getElem_toArray, List.getElem_cons_succ, List.getElem_cons_zero, List.setIfInBounds_toArray, List.set_cons_zero, List.set_cons_succ]
    refine wpAnyH_take (i := 30) (v := .bool true) rfl (by kernel_rfl) (by kernel_rfl) (by kernel_rfl) (fun _ _ _ h => h) (Or.inl ⟨by kernel_rfl, fun X hX => ?_⟩) (by assumption) ?_
    · clear hX; go_simp
    simp only [Act.put, List.getElem_toArray, List.getElem_cons_succ, List.getElem_cons_zero, List.setIfInBounds_toArray, List.set_cons_zero, List.set_cons_succ]
    refine wpAnyH_done (by kernel_rfl) ?_ _
    clear hHeld
    go_wp2
    go_ret
    exact ⟨rfl, H1.out.trans (hS.out.mono H1.out.size)⟩
  | true =>
    have HA1 : Hid (depLe (da + 1) ta 120 ∧ (cntM (da + 1) ta : Int) ≤ 300) := HB1.out rfl
    clear HB1
    refine wpAnyH_take (i := 2) (v := .bool false) rfl (by kernel_rfl) (by kernel_rfl) (by kernel_rfl) (fun _ _ _ h => h) (Or.inl ⟨by kernel_rfl, fun X hX => ?_⟩) (by assumption) ?_
    · clear hX; go_simp
    try simp only [Act.put, List.setIfInBounds_toArray]
    refine wpAnyH_take (i := 3) (v := .bool false) rfl (by kernel_rfl) (by kernel_rfl) (by kernel_rfl) (fun _ _ _ h => h) (Or.inl ⟨by kernel_rfl, fun X hX => ?_⟩) (by assumption) ?_
    · clear hX; go_simp
    try simp only [Act.put]
    refine wpAnyH_take (i := 4) (v := .agg #[.int .i64 bk, .string bnm, .int .i64 bm, .slice bo3 bn3 bc3, .slice bo4 bn4 bc4, .slice bo5 bn5 bc5, .slice bo6 bn6 bc6]) rfl (by kernel_rfl) (by kernel_rfl) (by kernel_rfl) (fun _ _ _ h => h) (Or.inl ⟨by kernel_rfl, fun X hX => ?_⟩) (by assumption) ?_
    · obtain ⟨-, -, -, -, -, -, -, -, q7, q8, q9, q10, q11, q12, q13⟩ := hX; go_simp
    try simp only [Act.put]
    refine wpAnyH_ready (rs := [5]) (by kernel_rfl) (by simp) ?_
    refine AllReadyH.cons (o := _) rfl (fun K hK => ?_) AllReadyH.nil
    go_simp
    go_at_call 21
    refine (HSB.out _ hS).mono ?_
    rintro e x2 ⟨b2, rfl, hb2, hb⟩
    have hS' : Hid (Below w1.heap.size w1 x2) := up2n hS hb
    refine hK.out _ _ (HKP.out _ hS') (fun hHeld' => ?_)
    clear hK K hb hS hHeld 
    have hS := hS'; clear hS'; have hHeld := hHeld'; clear hHeld'
    try simp only [Act.put, List.setIfInBounds_toArray, List.set_cons_zero, List.set_cons_succ]
    have HB2 : Hid (b2 = true → depLe (db + 1) tb 120 ∧ (cntM (db + 1) tb : Int) ≤ 300) := hb2
    clear hb2
    cases b2 with
    | false =>
      refine wpAnyH_take (i := 6) (v := .bool true) rfl (by kernel_rfl) (by kernel_rfl) (by kernel_rfl) (fun _ _ _ h => h) (Or.inl ⟨by kernel_rfl, fun X hX => ?_⟩) (by assumption) ?_
      · clear hX; go_simp
      try simp only [Act.put, List.setIfInBounds_toArray]
      refine wpAnyH_take (i := 7) (v := .bool true) rfl (by kernel_rfl) (by kernel_rfl) (by kernel_rfl) (fun _ _ _ h => h) (Or.inl ⟨by kernel_rfl, fun X hX => ?_⟩) (by assumption) ?_
      · clear hX; go_simp
      try simp only [Act.put]
      refine wpAnyH_take (i := 8) (v := .bool true) rfl (by kernel_rfl) (by kernel_rfl) (by kernel_rfl) (fun _ _ _ h => h) (Or.inl ⟨by kernel_rfl, fun X hX => ?_⟩) (by assumption) ?_
      · clear hX; go_simp
      try simp only [Act.put]
      refine wpAnyH_take (i := 9) (v := undef) rfl (by kernel_rfl) (by kernel_rfl) (by kernel_rfl) (fun _ _ _ h => h) (Or.inr ⟨by kernel_rfl, rfl⟩) (by assumption) ?_
      simp only [Act.put, List.getElem_toArray, List.getElem_cons_succ, List.getElem_cons_zero, List.setIfInBounds_toArray, List.set_cons_zero, List.set_cons_succ]
      refine wpAnyH_take (i := 10) (v := undef) rfl (by kernel_rfl) (by kernel_rfl) (by kernel_rfl) (fun _ _ _ h => h) (Or.inr ⟨by kernel_rfl, rfl⟩) (by assumption) ?_
      simp only [Act.put, List.getElem_toArray, List.getElem_cons_succ, List.getElem_cons_zero, List.setIfInBounds_toArray, List.set_cons_zero, List.set_cons_succ]
      refine wpAnyH_take (i := 11) (v := undef) rfl (by kernel_rfl) (by kernel_rfl) (by kernel_rfl) (fun _ _ _ h => h) (Or.inr ⟨by kernel_rfl, rfl⟩) (by assumption) ?_
      simp only [Act.put, List.getElem_toArray, List.getElem_cons_succ, List.getElem_cons_zero, List.setIfInBounds_toArray, List.set_cons_zero, List.set_cons_succ]
      refine wpAnyH_take (i := 12) (v := .bool true) rfl (by kernel_rfl) (by kernel_rfl) (by kernel_rfl) (fun _ _ _ h => h) (Or.inl ⟨by kernel_rfl, fun X hX => ?_⟩) (by assumption) ?_
      · clear hX; go_simp
      simp only [Act.put, List.getElem_toArray, List.getElem_cons_succ, List.getElem_cons_zero, List.setIfInBounds_toArray, List.set_cons_zero, List.set_cons_succ]
      refine wpAnyH_take (i := 13) (v := .bool true) rfl (by kernel_rfl) (by kernel_rfl) (by kernel_rfl) (fun _ _ _ h => h) (Or.inl ⟨by kernel_rfl, fun X hX => ?_⟩) (by assumption) ?_
      · clear hX; go_simp
      simp only [Act.put, List.getElem_toArray, List.getElem_cons_succ, List.getElem_cons_zero, List.setIfInBounds_toArray, List.set_cons_zero, List.set_cons_succ]
      refine wpAnyH_take (i := 14) (v := undef) rfl (by kernel_rfl) (by kernel_rfl) (by kernel_rfl) (fun _ _ _ h => h) (Or.inr ⟨by kernel_rfl, rfl⟩) (by assumption) ?_
      simp only [Act.put, List.getElem_toArray, List.getElem_cons_succ, List.getElem_cons_zero, List.setIfInBounds_toArray, List.set_cons_zero, List.set_cons_succ]
      refine wpAnyH_take (i := 15) (v := undef) rfl (by kernel_rfl) (by kernel_rfl) (by kernel_rfl) (fun _ _ _ h => h) (Or.inr ⟨by kernel_rfl, rfl⟩) (by assumption) ?_
      simp only [Act.put, List.getElem_toArray, List.getElem_cons_succ, List.getElem_cons_zero, List.setIfInBounds_toArray, List.set_cons_zero, List.set_cons_succ]
      refine wpAnyH_take (i := 16) (v := undef) rfl (by kernel_rfl) (by kernel_rfl) (by kernel_rfl) (fun _ _ _ h => h) (Or.inr ⟨by kernel_rfl, rfl⟩) (by assumption) ?_
      simp only [Act.put, List.getElem_toArray, List.getElem_cons_succ, List.getElem_cons_zero, List.setIfInBounds_toArray, List.set_cons_zero, List.set_cons_succ]
      refine wpAnyH_take (i := 17) (v := undef) rfl (by kernel_rfl) (by kernel_rfl) (by kernel_rfl) (fun _ _ _ h => h) (Or.inr ⟨by kernel_rfl, rfl⟩) (by assumption) ?_
      simp only [Act.put, List.getElem_toArray, List.getElem_cons_succ, List.getElem_cons_zero, List.setIfInBounds_toArray, List.set_cons_zero, List.set_cons_succ]
      refine wpAnyH_take (i := 18) (v := undef) rfl (by kernel_rfl) (by kernel_rfl) (by kernel_rfl) (fun _ _ _ h => h) (Or.inr ⟨by kernel_rfl, rfl⟩) (by assumption) ?_
      simp only [Act.put, List.getElem_toArray, List.getElem_cons_succ, List.getElem_cons_zero, List.setIfInBounds_toArray, List.set_cons_zero, List.set_cons_succ]
      refine wpAnyH_take (i := 19) (v := undef) rfl (by kernel_rfl) (by kernel_rfl) (by kernel_rfl) (fun _ _ _ h => h) (Or.inr ⟨by kernel_rfl, rfl⟩) (by assumption) ?_
      simp only [Act.put, List.getElem_toArray, List.getElem_cons_succ, List.getElem_cons_zero, List.setIfInBounds_toArray, List.set_cons_zero, List.set_cons_succ]
      refine wpAnyH_take (i := 20) (v := undef) rfl (by kernel_rfl) (by kernel_rfl) (by kernel_rfl) (fun _ _ _ h => h) (Or.inr ⟨by kernel_rfl, rfl⟩) (by assumption) ?_
      simp only [Act.put, List.getElem_toArray, List.getElem_cons_succ, List.getElem_cons_zero, List.setIfInBounds_toArray, List.set_cons_zero, List.set_cons_succ]
      refine wpAnyH_take (i := 21) (v := .bool true) rfl (by kernel_rfl) (by kernel_rfl) (by kernel_rfl) (fun _ _ _ h => h) (Or.inl ⟨by kernel_rfl, fun X hX => ?_⟩) (by assumption) ?_
      · clear hX; go_simp
      simp only [Act.put, List.getElem_toArray, List.getElem_cons_succ, List.getElem_cons_zero, List.setIfInBounds_toArray, List.set_cons_zero, List.set_cons_succ]
      refine wpAnyH_take (i := 22) (v := .bool true) rfl (by kernel_rfl) (by kernel_rfl) (by kernel_rfl) (fun _ _ _ h => h) (Or.inl ⟨by kernel_rfl, fun X hX => ?_⟩) (by assumption) ?_
      · clear hX; go_simp
      simp only [Act.put, List.getElem_toArray, List.getElem_cons_succ, List.getElem_cons_zero, List.setIfInBounds_toArray, List.set_cons_zero, List.set_cons_succ]
      refine wpAnyH_take (i := 23) (v := undef) rfl (by kernel_rfl) (by kernel_rfl) (by kernel_rfl) (fun _ _ _ h => h) (Or.inr ⟨by kernel_rfl, rfl⟩) (by assumption) ?_
      simp only [Act.put, List.getElem_toArray, List.getElem_cons_succ, List.getElem_cons_zero, List.setIfInBounds_toArray, List.set_cons_zero, List.set_cons_succ]
      refine wpAnyH_take (i := 24) (v := undef) rfl (by kernel_rfl) (by kernel_rfl) (by kernel_rfl) (fun _ _ _ h => h) (Or.inr ⟨by kernel_rfl, rfl⟩) (by assumption) ?_
      simp only [Act.put, List.getElem_toArray, List.getElem_cons_succ, List.getElem_cons_zero, List.setIfInBounds_toArray, List.set_cons_zero, List.set_cons_succ]
      refine wpAnyH_take (i := 25) (v := undef) rfl (by kernel_rfl) (by kernel_rfl) (by kernel_rfl) (fun _ _ _ h => h) (Or.inr ⟨by kernel_rfl, rfl⟩) (by assumption) ?_
      simp only [Act.put, List.getElem_toArray, List.getElem_cons_succ, List.getElem_cons_zero, List.setIfInBounds_toArray, List.set_cons_zero, List.set_cons_succ]
      refine wpAnyH_take (i := 26) (v := undef) rfl (by kernel_rfl) (by kernel_rfl) (by kernel_rfl) (fun _ _ _ h => h) (Or.inr ⟨by kernel_rfl, rfl⟩) (by assumption) ?_
      simp only [Act.put, List.getElem_toArray, List.getElem_cons_succ, List.getElem_cons_zero, List.setIfInBounds_toArray, List.set_cons_zero, List.set_cons_succ]
      refine wpAnyH_take (i := 27) (v := undef) rfl (by kernel_rfl) (by kernel_rfl) (by kernel_rfl) (fun _ _ _ h => h) (Or.inr ⟨by kernel_rfl, rfl⟩) (by assumption) ?_
      simp only [Act.put, List.getElem_toArray, List.getElem_cons_succ, List.getElem_cons_zero, List.setIfInBounds_toArray, List.set_cons_zero, List.set_cons_succ]
      refine wpAnyH_take (i := 28) (v := undef) rfl (by kernel_rfl) (by kernel_rfl) (by kernel_rfl) (fun _ _ _ h => h) (Or.inr ⟨by kernel_rfl, rfl⟩) (by assumption) ?_
      simp only [Act.put, List.getElem_toArray, List.getElem_cons_succ, List.getElem_cons_zero, List.setIfInBounds_toArray, List.set_cons_zero, List.set_cons_succ]
      refine wpAnyH_take (i := 29) (v := undef) rfl (by kernel_rfl) (by kernel_rfl) (by kernel_rfl) (fun _ _ _ h => h) (Or.inr ⟨by kernel_rfl, rfl⟩) (by assumption) ?_
      simp only [Act.put, List.getElem_toArray, List.getElem_cons_succ, List.getElem_cons_zero, List.setIfInBounds_toArray, List.set_cons_zero, List.set_cons_succ]
      refine wpAnyH_take (i := 30) (v := .bool true) rfl (by kernel_rfl) (by kernel_rfl) (by kernel_rfl) (fun _ _ _ h => h) (Or.inl ⟨by kernel_rfl, fun X hX => ?_⟩) (by assumption) ?_
      · clear hX; go_simp
      simp only [Act.put, List.getElem_toArray, List.getElem_cons_succ, List.getElem_cons_zero, List.setIfInBounds_toArray, List.set_cons_zero, List.set_cons_succ]
      refine wpAnyH_done (by kernel_rfl) ?_ _
      clear hHeld
      go_wp2
      go_ret
      exact ⟨rfl, H1.out.trans (hS.out.mono H1.out.size)⟩
    | true =>
      have HA2 : Hid (depLe (db + 1) tb 120 ∧ (cntM (db + 1) tb : Int) ≤ 300) := HB2.out rfl
      clear HB2
      refine wpAnyH_take (i := 6) (v := .bool false) rfl (by kernel_rfl) (by kernel_rfl) (by kernel_rfl) (fun _ _ _ h => h) (Or.inl ⟨by kernel_rfl, fun X hX => ?_⟩) (by assumption) ?_
      · clear hX; go_simp
      try simp only [Act.put, List.setIfInBounds_toArray]
      refine wpAnyH_take (i := 7) (v := .bool false) rfl (by kernel_rfl) (by kernel_rfl) (by kernel_rfl) (fun _ _ _ h => h) (Or.inl ⟨by kernel_rfl, fun X hX => ?_⟩) (by assumption) ?_
      · clear hX; go_simp
      try simp only [Act.put]
      refine wpAnyH_take (i := 8) (v := .bool false) rfl (by kernel_rfl) (by kernel_rfl) (by kernel_rfl) (fun _ _ _ h => h) (Or.inl ⟨by kernel_rfl, fun X hX => ?_⟩) (by assumption) ?_
      · clear hX; go_simp
      try simp only [Act.put]
      refine wpAnyH_take (i := 9) (v := .string name) rfl (by kernel_rfl) (by kernel_rfl) (by kernel_rfl) (fun _ _ _ h => h) (Or.inl ⟨by kernel_rfl, fun X hX => ?_⟩) (by assumption) ?_
      · clear hX; go_simp
      try simp only [Act.put]
      refine wpAnyH_take (i := 10) (v := .int .i64 (name.size : Int)) rfl (by kernel_rfl) (by kernel_rfl) (by kernel_rfl) (fun _ _ _ h => h) (Or.inl ⟨by kernel_rfl, fun X hX => ?_⟩) (by assumption) ?_
      · clear hX; go_simp
      try simp only [Act.put]
      by_cases hnm : (1000 : Int) < (name.size : Int)
      · have hnd : decide ((1000 : Int) < (name.size : Int)) = true := decide_eq_true hnm
        refine wpAnyH_take (i := 11) (v := .bool true) rfl (by kernel_rfl) (by kernel_rfl) (by kernel_rfl) (fun _ _ _ h => h) (Or.inl ⟨by kernel_rfl, fun X hX => ?_⟩) (by assumption) ?_
        · clear hX; go_simp
        try simp only [Act.put]
        refine wpAnyH_take (i := 12) (v := .bool true) rfl (by kernel_rfl) (by kernel_rfl) (by kernel_rfl) (fun _ _ _ h => h) (Or.inl ⟨by kernel_rfl, fun X hX => ?_⟩) (by assumption) ?_
        · clear hX; go_simp
        try simp only [Act.put]
        refine wpAnyH_take (i := 13) (v := .bool true) rfl (by kernel_rfl) (by kernel_rfl) (by kernel_rfl) (fun _ _ _ h => h) (Or.inl ⟨by kernel_rfl, fun X hX => ?_⟩) (by assumption) ?_
        · clear hX; go_simp
        try simp only [Act.put]
        refine wpAnyH_take (i := 14) (v := undef) rfl (by kernel_rfl) (by kernel_rfl) (by kernel_rfl) (fun _ _ _ h => h) (Or.inr ⟨by kernel_rfl, rfl⟩) (by assumption) ?_
        simp only [Act.put, List.getElem_toArray, List.getElem_cons_succ, List.getElem_cons_zero, List.setIfInBounds_toArray, List.set_cons_zero, List.set_cons_succ]
        refine wpAnyH_take (i := 15) (v := undef) rfl (by kernel_rfl) (by kernel_rfl) (by kernel_rfl) (fun _ _ _ h => h) (Or.inr ⟨by kernel_rfl, rfl⟩) (by assumption) ?_
        simp only [Act.put, List.getElem_toArray, List.getElem_cons_succ, List.getElem_cons_zero, List.setIfInBounds_toArray, List.set_cons_zero, List.set_cons_succ]
        refine wpAnyH_take (i := 16) (v := undef) rfl (by kernel_rfl) (by kernel_rfl) (by kernel_rfl) (fun _ _ _ h => h) (Or.inr ⟨by kernel_rfl, rfl⟩) (by assumption) ?_
        simp only [Act.put, List.getElem_toArray, List.getElem_cons_succ, List.getElem_cons_zero, List.setIfInBounds_toArray, List.set_cons_zero, List.set_cons_succ]
        refine wpAnyH_take (i := 17) (v := undef) rfl (by kernel_rfl) (by kernel_rfl) (by kernel_rfl) (fun _ _ _ h => h) (Or.inr ⟨by kernel_rfl, rfl⟩) (by assumption) ?_
        simp only [Act.put, List.getElem_toArray, List.getElem_cons_succ, List.getElem_cons_zero, List.setIfInBounds_toArray, List.set_cons_zero, List.set_cons_succ]
        refine wpAnyH_take (i := 18) (v := undef) rfl (by kernel_rfl) (by kernel_rfl) (by kernel_rfl) (fun _ _ _ h => h) (Or.inr ⟨by kernel_rfl, rfl⟩) (by assumption) ?_
        simp only [Act.put, List.getElem_toArray, List.getElem_cons_succ, List.getElem_cons_zero, List.setIfInBounds_toArray, List.set_cons_zero, List.set_cons_succ]
        refine wpAnyH_take (i := 19) (v := undef) rfl (by kernel_rfl) (by kernel_rfl) (by kernel_rfl) (fun _ _ _ h => h) (Or.inr ⟨by kernel_rfl, rfl⟩) (by assumption) ?_
        simp only [Act.put, List.getElem_toArray, List.getElem_cons_succ, List.getElem_cons_zero, List.setIfInBounds_toArray, List.set_cons_zero, List.set_cons_succ]
        refine wpAnyH_take (i := 20) (v := undef) rfl (by kernel_rfl) (by kernel_rfl) (by kernel_rfl) (fun _ _ _ h => h) (Or.inr ⟨by kernel_rfl, rfl⟩) (by assumption) ?_
        simp only [Act.put, List.getElem_toArray, List.getElem_cons_succ, List.getElem_cons_zero, List.setIfInBounds_toArray, List.set_cons_zero, List.set_cons_succ]
        refine wpAnyH_take (i := 21) (v := .bool true) rfl (by kernel_rfl) (by kernel_rfl) (by kernel_rfl) (fun _ _ _ h => h) (Or.inl ⟨by kernel_rfl, fun X hX => ?_⟩) (by assumption) ?_
        · clear hX; go_simp
        simp only [Act.put, List.getElem_toArray, List.getElem_cons_succ, List.getElem_cons_zero, List.setIfInBounds_toArray, List.set_cons_zero, List.set_cons_succ]
        refine wpAnyH_take (i := 22) (v := .bool true) rfl (by kernel_rfl) (by kernel_rfl) (by kernel_rfl) (fun _ _ _ h => h) (Or.inl ⟨by kernel_rfl, fun X hX => ?_⟩) (by assumption) ?_
        · clear hX; go_simp
        simp only [Act.put, List.getElem_toArray, List.getElem_cons_succ, List.getElem_cons_zero, List.setIfInBounds_toArray, List.set_cons_zero, List.set_cons_succ]
        refine wpAnyH_take (i := 23) (v := undef) rfl (by kernel_rfl) (by kernel_rfl) (by kernel_rfl) (fun _ _ _ h => h) (Or.inr ⟨by kernel_rfl, rfl⟩) (by assumption) ?_
        simp only [Act.put, List.getElem_toArray, List.getElem_cons_succ, List.getElem_cons_zero, List.setIfInBounds_toArray, List.set_cons_zero, List.set_cons_succ]
        refine wpAnyH_take (i := 24) (v := undef) rfl (by kernel_rfl) (by kernel_rfl) (by kernel_rfl) (fun _ _ _ h => h) (Or.inr ⟨by kernel_rfl, rfl⟩) (by assumption) ?_
        simp only [Act.put, List.getElem_toArray, List.getElem_cons_succ, List.getElem_cons_zero, List.setIfInBounds_toArray, List.set_cons_zero, List.set_cons_succ]
        refine wpAnyH_take (i := 25) (v := undef) rfl (by kernel_rfl) (by kernel_rfl) (by kernel_rfl) (fun _ _ _ h => h) (Or.inr ⟨by kernel_rfl, rfl⟩) (by assumption) ?_
        simp only [Act.put, List.getElem_toArray, List.getElem_cons_succ, List.getElem_cons_zero, List.setIfInBounds_toArray, List.set_cons_zero, List.set_cons_succ]
        refine wpAnyH_take (i := 26) (v := undef) rfl (by kernel_rfl) (by kernel_rfl) (by kernel_rfl) (fun _ _ _ h => h) (Or.inr ⟨by kernel_rfl, rfl⟩) (by assumption) ?_
        simp only [Act.put, List.getElem_toArray, List.getElem_cons_succ, List.getElem_cons_zero, List.setIfInBounds_toArray, List.set_cons_zero, List.set_cons_succ]
        refine wpAnyH_take (i := 27) (v := undef) rfl (by kernel_rfl) (by kernel_rfl) (by kernel_rfl) (fun _ _ _ h => h) (Or.inr ⟨by kernel_rfl, rfl⟩) (by assumption) ?_
        simp only [Act.put, List.getElem_toArray, List.getElem_cons_succ, List.getElem_cons_zero, List.setIfInBounds_toArray, List.set_cons_zero, List.set_cons_succ]
        refine wpAnyH_take (i := 28) (v := undef) rfl (by kernel_rfl) (by kernel_rfl) (by kernel_rfl) (fun _ _ _ h => h) (Or.inr ⟨by kernel_rfl, rfl⟩) (by assumption) ?_
        simp only [Act.put, List.getElem_toArray, List.getElem_cons_succ, List.getElem_cons_zero, List.setIfInBounds_toArray, List.set_cons_zero, List.set_cons_succ]
        refine wpAnyH_take (i := 29) (v := undef) rfl (by kernel_rfl) (by kernel_rfl) (by kernel_rfl) (fun _ _ _ h => h) (Or.inr ⟨by kernel_rfl, rfl⟩) (by assumption) ?_
        simp only [Act.put, List.getElem_toArray, List.getElem_cons_succ, List.getElem_cons_zero, List.setIfInBounds_toArray, List.set_cons_zero, List.set_cons_succ]
        refine wpAnyH_take (i := 30) (v := .bool true) rfl (by kernel_rfl) (by kernel_rfl) (by kernel_rfl) (fun _ _ _ h => h) (Or.inl ⟨by kernel_rfl, fun X hX => ?_⟩) (by assumption) ?_
        · clear hX; go_simp
        simp only [Act.put, List.getElem_toArray, List.getElem_cons_succ, List.getElem_cons_zero, List.setIfInBounds_toArray, List.set_cons_zero, List.set_cons_succ]
        refine wpAnyH_done (by kernel_rfl) ?_ _
        clear hHeld
        go_wp2
        go_ret
        exact ⟨rfl, H1.out.trans (hS.out.mono H1.out.size)⟩
      · have hnd : decide ((1000 : Int) < (name.size : Int)) = false := decide_eq_false hnm
        refine wpAnyH_take (i := 11) (v := .bool false) rfl (by kernel_rfl) (by kernel_rfl) (by kernel_rfl) (fun _ _ _ h => h) (Or.inl ⟨by kernel_rfl, fun X hX => ?_⟩) (by assumption) ?_
        · clear hX; go_simp
        try simp only [Act.put]
        refine wpAnyH_take (i := 12) (v := .bool false) rfl (by kernel_rfl) (by kernel_rfl) (by kernel_rfl) (fun _ _ _ h => h) (Or.inl ⟨by kernel_rfl, fun X hX => ?_⟩) (by assumption) ?_
        · clear hX; go_simp
        try simp only [Act.put]
        refine wpAnyH_take (i := 13) (v := .bool false) rfl (by kernel_rfl) (by kernel_rfl) (by kernel_rfl) (fun _ _ _ h => h) (Or.inl ⟨by kernel_rfl, fun X hX => ?_⟩) (by assumption) ?_
        · clear hX; go_simp
        try simp only [Act.put]
        have HNM : Hid (name.size ≤ 1000) := by show _ ≤ _; omega
        clear hnd hnm
        obtain ⟨HPa, HPb⟩ := HPre.out HA1.out HA2.out
        refine wpAnyH_take (i := 16) (v := .agg #[.int .i64 ak, .string anm, .int .i64 am, .slice ao3 an3 ac3, .slice ao4 an4 ac4, .slice ao5 an5 ac5, .slice ao6 an6 ac6]) rfl (by kernel_rfl) (by kernel_rfl) (by kernel_rfl) (fun _ _ _ h => h) (Or.inl ⟨by kernel_rfl, fun X hX => ?_⟩) (by assumption) ?_
        · obtain ⟨-, q0, q1, q2, q3, q4, q5, q6, -, -, -, -, -, -, -⟩ := hX; go_simp
        try simp only [Act.put]
        refine wpAnyH_take (i := 17) (v := .agg #[.int .i64 ak, .string anm, .int .i64 am, .slice ao3 an3 ac3, .slice ao4 an4 ac4, .slice ao5 an5 ac5, .slice ao6 an6 ac6]) rfl (by kernel_rfl) (by kernel_rfl) (by kernel_rfl) (fun _ _ _ h => h) (Or.inl ⟨by kernel_rfl, fun X hX => ?_⟩) (by assumption) ?_
        · obtain ⟨-, q0, q1, q2, q3, q4, q5, q6, -, -, -, -, -, -, -⟩ := hX; go_simp
        try simp only [Act.put]
        refine wpAnyH_ready (rs := [14]) (by kernel_rfl) (by simp) ?_
        refine AllReadyH.cons (o := _) rfl (fun K hK => ?_) AllReadyH.nil
        go_simp
        go_at_call 11
        refine (lnum_c _ _).mono ?_
        rintro e x3 ⟨rfl, hb⟩
        have hS' : Hid (Below w1.heap.size w1 x3) := up2n hS hb
        refine hK.out _ _ (HKP.out _ hS') (fun hHeld' => ?_)
        clear hK K hb hS hHeld 
        have hS := hS'; clear hS'; have hHeld := hHeld'; clear hHeld'
        try simp only [Act.put, List.setIfInBounds_toArray, List.set_cons_zero, List.set_cons_succ]
        refine wpAnyH_ready (rs := [15]) (by kernel_rfl) (by simp) ?_
        refine AllReadyH.cons (o := _) rfl (fun K hK => ?_) AllReadyH.nil
        go_simp
        go_at_call 18
        refine (program_c _ _ _ _ _ _ _ _ _ _ _ _ _ _ _ _).mono ?_
        rintro e x4 ⟨pg, pM, rfl, -, -, kg, kM, hb⟩
        have hS' : Hid (Below w1.heap.size w1 x4) := up2n hS hb
        refine hK.out _ _ (HKP.out _ hS') (fun hHeld' => ?_)
        clear hK K hb hS hHeld 
        have hS := hS'; clear hS'; have hHeld := hHeld'; clear hHeld'
        try simp only [Act.put, List.setIfInBounds_toArray, List.set_cons_zero, List.set_cons_succ]
        refine wpAnyH_ready (rs := [18]) (by kernel_rfl) (by simp) ?_
        refine AllReadyH.cons (o := _) rfl (fun K hK => ?_) AllReadyH.nil
        go_simp
        go_at_call 14
        refine (HPa.out.1 _ hS).mono ?_
        rintro e x5 ⟨fv, rfl, hfr, hb⟩
        have hS' : Hid (Below w1.heap.size w1 x5) := up2n hS hb
        replace kg := kg.below hb
        replace kM := kM.below hb
        refine hK.out _ _ (HKP.out _ hS') (fun hHeld' => ?_)
        clear hK K hb hS hHeld 
        have hS := hS'; clear hS'; have hHeld := hHeld'; clear hHeld'
        try simp only [Act.put, List.setIfInBounds_toArray, List.set_cons_zero, List.set_cons_succ]
        obtain ⟨fo, fn, fc, rfl⟩ : ∃ o n c, fv = .slice o n c := by obtain ⟨o, c, e, -⟩ := TxV.ofRow hfr; exact ⟨_, _, _, e⟩
        refine wpAnyH_ready (rs := [19]) (by kernel_rfl) (by simp) ?_
        refine AllReadyH.cons (o := _) rfl (fun K hK => ?_) AllReadyH.nil
        go_simp
        go_at_call 26
        refine (HPa.out.2 _ hS _ _ _ kg kM (VarsAt.ofRow hfr)).mono ?_
        rintro e x6 ⟨z, rfl, hz, hb⟩
        have hS' : Hid (Below w1.heap.size w1 x6) := up2n hS hb
        refine hK.out _ _ (HKP.out _ hS') (fun hHeld' => ?_)
        clear hK K hb hS hHeld kg kM hfr
        have hS := hS'; clear hS'; have hHeld := hHeld'; clear hHeld'
        try simp only [Act.put, List.setIfInBounds_toArray, List.set_cons_zero, List.set_cons_succ]
        have HZa : Hid (z ≠ 2 → VarOK 120 (down 119 (da + 1) ta)) := hz
        clear hz
        by_cases hz2 : z = 2
        · have hzd : decide (z = 2) = true := decide_eq_true hz2
          have hzd2 : (z == 2) = true := beq_iff_eq.2 hz2
          refine wpAnyH_take (i := 20) (v := .bool true) rfl (by kernel_rfl) (by kernel_rfl) (by kernel_rfl) (fun _ _ _ h => h) (Or.inl ⟨by kernel_rfl, fun X hX => ?_⟩) (by assumption) ?_
          · clear hX; go_simp
          try simp only [Act.put, List.setIfInBounds_toArray]
          refine wpAnyH_take (i := 21) (v := .bool true) rfl (by kernel_rfl) (by kernel_rfl) (by kernel_rfl) (fun _ _ _ h => h) (Or.inl ⟨by kernel_rfl, fun X hX => ?_⟩) (by assumption) ?_
          · clear hX; go_simp
          try simp only [Act.put]
          refine wpAnyH_take (i := 22) (v := .bool true) rfl (by kernel_rfl) (by kernel_rfl) (by kernel_rfl) (fun _ _ _ h => h) (Or.inl ⟨by kernel_rfl, fun X hX => ?_⟩) (by assumption) ?_
          · clear hX; go_simp
          try simp only [Act.put]
          refine wpAnyH_take (i := 23) (v := undef) rfl (by kernel_rfl) (by kernel_rfl) (by kernel_rfl) (fun _ _ _ h => h) (Or.inr ⟨by kernel_rfl, rfl⟩) (by assumption) ?_
          simp only [Act.put, List.getElem_toArray, List.getElem_cons_succ, List.getElem_cons_zero, List.setIfInBounds_toArray, List.set_cons_zero, List.set_cons_succ]
          refine wpAnyH_take (i := 24) (v := undef) rfl (by kernel_rfl) (by kernel_rfl) (by kernel_rfl) (fun _ _ _ h => h) (Or.inr ⟨by kernel_rfl, rfl⟩) (by assumption) ?_
          simp only [Act.put, List.getElem_toArray, List.getElem_cons_succ, List.getElem_cons_zero, List.setIfInBounds_toArray, List.set_cons_zero, List.set_cons_succ]
          refine wpAnyH_take (i := 25) (v := undef) rfl (by kernel_rfl) (by kernel_rfl) (by kernel_rfl) (fun _ _ _ h => h) (Or.inr ⟨by kernel_rfl, rfl⟩) (by assumption) ?_
          simp only [Act.put, List.getElem_toArray, List.getElem_cons_succ, List.getElem_cons_zero, List.setIfInBounds_toArray, List.set_cons_zero, List.set_cons_succ]
          refine wpAnyH_take (i := 26) (v := undef) rfl (by kernel_rfl) (by kernel_rfl) (by kernel_rfl) (fun _ _ _ h => h) (Or.inr ⟨by kernel_rfl, rfl⟩) (by assumption) ?_
          simp only [Act.put, List.getElem_toArray, List.getElem_cons_succ, List.getElem_cons_zero, List.setIfInBounds_toArray, List.set_cons_zero, List.set_cons_succ]
          refine wpAnyH_take (i := 27) (v := undef) rfl (by kernel_rfl) (by kernel_rfl) (by kernel_rfl) (fun _ _ _ h => h) (Or.inr ⟨by kernel_rfl, rfl⟩) (by assumption) ?_
          simp only [Act.put, List.getElem_toArray, List.getElem_cons_succ, List.getElem_cons_zero, List.setIfInBounds_toArray, List.set_cons_zero, List.set_cons_succ]
          refine wpAnyH_take (i := 28) (v := undef) rfl (by kernel_rfl) (by kernel_rfl) (by kernel_rfl) (fun _ _ _ h => h) (Or.inr ⟨by kernel_rfl, rfl⟩) (by assumption) ?_
          simp only [Act.put, List.getElem_toArray, List.getElem_cons_succ, List.getElem_cons_zero, List.setIfInBounds_toArray, List.set_cons_zero, List.set_cons_succ]
          refine wpAnyH_take (i := 29) (v := undef) rfl (by kernel_rfl) (by kernel_rfl) (by kernel_rfl) (fun _ _ _ h => h) (Or.inr ⟨by kernel_rfl, rfl⟩) (by assumption) ?_
          simp only [Act.put, List.getElem_toArray, List.getElem_cons_succ, List.getElem_cons_zero, List.setIfInBounds_toArray, List.set_cons_zero, List.set_cons_succ]
          refine wpAnyH_take (i := 30) (v := .bool true) rfl (by kernel_rfl) (by kernel_rfl) (by kernel_rfl) (fun _ _ _ h => h) (Or.inl ⟨by kernel_rfl, fun X hX => ?_⟩) (by assumption) ?_
          · clear hX; go_simp
          simp only [Act.put, List.getElem_toArray, List.getElem_cons_succ, List.getElem_cons_zero, List.setIfInBounds_toArray, List.set_cons_zero, List.set_cons_succ]
          refine wpAnyH_done (by kernel_rfl) ?_ _
          clear hHeld
          go_wp2
          go_ret
          exact ⟨rfl, H1.out.trans (hS.out.mono H1.out.size)⟩
        · have HVa : Hid (VarOK 120 (down 119 (da + 1) ta)) := HZa.out hz2
          have hzd : decide (z = 2) = false := decide_eq_false hz2
          have hzd2 : (z == 2) = false := beq_eq_false_iff_ne.2 hz2
          refine wpAnyH_take (i := 20) (v := .bool false) rfl (by kernel_rfl) (by kernel_rfl) (by kernel_rfl) (fun _ _ _ h => h) (Or.inl ⟨by kernel_rfl, fun X hX => ?_⟩) (by assumption) ?_
          · clear hX; go_simp
          try simp only [Act.put, List.setIfInBounds_toArray]
          refine wpAnyH_take (i := 21) (v := .bool false) rfl (by kernel_rfl) (by kernel_rfl) (by kernel_rfl) (fun _ _ _ h => h) (Or.inl ⟨by kernel_rfl, fun X hX => ?_⟩) (by assumption) ?_
          · clear hX; go_simp
          try simp only [Act.put]
          refine wpAnyH_take (i := 22) (v := .bool false) rfl (by kernel_rfl) (by kernel_rfl) (by kernel_rfl) (fun _ _ _ h => h) (Or.inl ⟨by kernel_rfl, fun X hX => ?_⟩) (by assumption) ?_
          · clear hX; go_simp
          try simp only [Act.put]
          clear hzd hzd2 hz2 HZa
          refine wpAnyH_take (i := 25) (v := .agg #[.int .i64 bk, .string bnm, .int .i64 bm, .slice bo3 bn3 bc3, .slice bo4 bn4 bc4, .slice bo5 bn5 bc5, .slice bo6 bn6 bc6]) rfl (by kernel_rfl) (by kernel_rfl) (by kernel_rfl) (fun _ _ _ h => h) (Or.inl ⟨by kernel_rfl, fun X hX => ?_⟩) (by assumption) ?_
          · obtain ⟨-, -, -, -, -, -, -, -, q7, q8, q9, q10, q11, q12, q13⟩ := hX; go_simp
          try simp only [Act.put]
          refine wpAnyH_take (i := 26) (v := .agg #[.int .i64 bk, .string bnm, .int .i64 bm, .slice bo3 bn3 bc3, .slice bo4 bn4 bc4, .slice bo5 bn5 bc5, .slice bo6 bn6 bc6]) rfl (by kernel_rfl) (by kernel_rfl) (by kernel_rfl) (fun _ _ _ h => h) (Or.inl ⟨by kernel_rfl, fun X hX => ?_⟩) (by assumption) ?_
          · obtain ⟨-, -, -, -, -, -, -, -, q7, q8, q9, q10, q11, q12, q13⟩ := hX; go_simp
          try simp only [Act.put]
          refine wpAnyH_ready (rs := [23]) (by kernel_rfl) (by simp) ?_
          refine AllReadyH.cons (o := _) rfl (fun K hK => ?_) AllReadyH.nil
          go_simp
          go_at_call 11
          refine (lnum_c _ _).mono ?_
          rintro e x7 ⟨rfl, hb⟩
          have hS' : Hid (Below w1.heap.size w1 x7) := up2n hS hb
          refine hK.out _ _ (HKP.out _ hS') (fun hHeld' => ?_)
          clear hK K hb hS hHeld 
          have hS := hS'; clear hS'; have hHeld := hHeld'; clear hHeld'
          try simp only [Act.put, List.setIfInBounds_toArray, List.set_cons_zero, List.set_cons_succ]
          refine wpAnyH_ready (rs := [24]) (by kernel_rfl) (by simp) ?_
          refine AllReadyH.cons (o := _) rfl (fun K hK => ?_) AllReadyH.nil
          go_simp
          go_at_call 18
          refine (program_c _ _ _ _ _ _ _ _ _ _ _ _ _ _ _ _).mono ?_
          rintro e x8 ⟨pg, pM, rfl, -, -, kg, kM, hb⟩
          have hS' : Hid (Below w1.heap.size w1 x8) := up2n hS hb
          refine hK.out _ _ (HKP.out _ hS') (fun hHeld' => ?_)
          clear hK K hb hS hHeld 
          have hS := hS'; clear hS'; have hHeld := hHeld'; clear hHeld'
          try simp only [Act.put, List.setIfInBounds_toArray, List.set_cons_zero, List.set_cons_succ]
          refine wpAnyH_ready (rs := [27]) (by kernel_rfl) (by simp) ?_
          refine AllReadyH.cons (o := _) rfl (fun K hK => ?_) AllReadyH.nil
          go_simp
          go_at_call 14
          refine (HPb.out.1 _ hS).mono ?_
          rintro e x9 ⟨fv, rfl, hfr, hb⟩
          have hS' : Hid (Below w1.heap.size w1 x9) := up2n hS hb
          replace kg := kg.below hb
          replace kM := kM.below hb
          refine hK.out _ _ (HKP.out _ hS') (fun hHeld' => ?_)
          clear hK K hb hS hHeld 
          have hS := hS'; clear hS'; have hHeld := hHeld'; clear hHeld'
          try simp only [Act.put, List.setIfInBounds_toArray, List.set_cons_zero, List.set_cons_succ]
          obtain ⟨fo, fn, fc, rfl⟩ : ∃ o n c, fv = .slice o n c := by obtain ⟨o, c, e, -⟩ := TxV.ofRow hfr; exact ⟨_, _, _, e⟩
          refine wpAnyH_ready (rs := [28]) (by kernel_rfl) (by simp) ?_
          refine AllReadyH.cons (o := _) rfl (fun K hK => ?_) AllReadyH.nil
          go_simp
          go_at_call 26
          refine (HPb.out.2 _ hS _ _ _ kg kM (VarsAt.ofRow hfr)).mono ?_
          rintro e x10 ⟨z, rfl, hz, hb⟩
          have hS' : Hid (Below w1.heap.size w1 x10) := up2n hS hb
          refine hK.out _ _ (HKP.out _ hS') (fun hHeld' => ?_)
          clear hK K hb hS hHeld kg kM hfr
          have hS := hS'; clear hS'; have hHeld := hHeld'; clear hHeld'
          try simp only [Act.put, List.setIfInBounds_toArray, List.set_cons_zero, List.set_cons_succ]
          have HZb : Hid (z ≠ 2 → VarOK 120 (down 119 (db + 1) tb)) := hz
          clear hz
          by_cases hz2 : z = 2
          · have hzd : decide (z = 2) = true := decide_eq_true hz2
            have hzd2 : (z == 2) = true := beq_iff_eq.2 hz2
            refine wpAnyH_take (i := 29) (v := .bool true) rfl (by kernel_rfl) (by kernel_rfl) (by kernel_rfl) (fun _ _ _ h => h) (Or.inl ⟨by kernel_rfl, fun X hX => ?_⟩) (by assumption) ?_
            · clear hX; go_simp
            try simp only [Act.put, List.setIfInBounds_toArray]
            refine wpAnyH_take (i := 30) (v := .bool true) rfl (by kernel_rfl) (by kernel_rfl) (by kernel_rfl) (fun _ _ _ h => h) (Or.inl ⟨by kernel_rfl, fun X hX => ?_⟩) (by assumption) ?_
            · clear hX; go_simp
            simp only [Act.put, List.getElem_toArray, List.getElem_cons_succ, List.getElem_cons_zero, List.setIfInBounds_toArray, List.set_cons_zero, List.set_cons_succ]
            refine wpAnyH_done (by kernel_rfl) ?_ _
            clear hHeld
            go_wp2
            go_ret
            exact ⟨rfl, H1.out.trans (hS.out.mono H1.out.size)⟩
          · have HVb : Hid (VarOK 120 (down 119 (db + 1) tb)) := HZb.out hz2
            have hzd : decide (z = 2) = false := decide_eq_false hz2
            have hzd2 : (z == 2) = false := beq_eq_false_iff_ne.2 hz2
            refine wpAnyH_take (i := 29) (v := .bool false) rfl (by kernel_rfl) (by kernel_rfl) (by kernel_rfl) (fun _ _ _ h => h) (Or.inl ⟨by kernel_rfl, fun X hX => ?_⟩) (by assumption) ?_
            · clear hX; go_simp
            try simp only [Act.put, List.setIfInBounds_toArray]
            refine wpAnyH_take (i := 30) (v := .bool false) rfl (by kernel_rfl) (by kernel_rfl) (by kernel_rfl) (fun _ _ _ h => h) (Or.inl ⟨by kernel_rfl, fun X hX => ?_⟩) (by assumption) ?_
            · clear hX; go_simp
            simp only [Act.put, List.getElem_toArray, List.getElem_cons_succ, List.getElem_cons_zero, List.setIfInBounds_toArray, List.set_cons_zero, List.set_cons_succ]
            clear hzd hzd2 hz2 HZb
            refine wpAnyH_done (by kernel_rfl) ?_ _
            clear hHeld
            clear HSA HSB HPre
            have HSub : Hid (SubHyp w1 (fsL 120 (down 119 (da + 1) ta)) (fsL 120 (down 119 (db + 1) tb)) (.agg #[.int .i64 ak, .string anm, .int .i64 am, .slice ao3 an3 ac3, .slice ao4 an4 ac4, .slice ao5 an5 ac5, .slice ao6 an6 ac6]) (.agg #[.int .i64 bk, .string bnm, .int .i64 bm, .slice bo3 bn3 bc3, .slice bo4 bn4 bc4, .slice bo5 bn5 bc5, .slice bo6 bn6 bc6]) name) := HT.out _ H1.out HA1.out HA2.out HVa.out HVb.out
            have HFl : Hid ((fsL 120 (down 119 (da + 1) ta)).length ≤ 300 ∧ (fsL 120 (down 119 (db + 1) tb)).length ≤ 300) := ⟨fsl_300 HA1.out, fsl_300 HA2.out⟩
            have HPA : Hid (∀ X, Hid (Below w1.heap.size w1 X) → Calls Tryz.prog 14 #[.agg #[.int .i64 ak, .string anm, .int .i64 am, .slice ao3 an3 ac3, .slice ao4 an4 ac4, .slice ao5 an5 ac5, .slice ao6 an6 ac6]] X fun r w' => FrP (fsL 120 (down 119 (da + 1) ta)) X r w') := HPa.out.1
            have HPB : Hid (∀ X, Hid (Below w1.heap.size w1 X) → Calls Tryz.prog 14 #[.agg #[.int .i64 bk, .string bnm, .int .i64 bm, .slice bo3 bn3 bc3, .slice bo4 bn4 bc4, .slice bo5 bn5 bc5, .slice bo6 bn6 bc6]] X fun r w' => FrP (fsL 120 (down 119 (db + 1) tb)) X r w') := HPb.out.1
            have HSm : Hid (∀ X, Hid (Below w1.heap.size w1 X) → Calls Tryz.prog 16 #[.agg #[.int .i64 ak, .string anm, .int .i64 am, .slice ao3 an3 ac3, .slice ao4 an4 ac4, .slice ao5 an5 ac5, .slice ao6 an6 ac6], .agg #[.int .i64 ak, .string anm, .int .i64 am, .slice ao3 an3 ac3, .slice ao4 an4 ac4, .slice ao5 an5 ac5, .slice ao6 an6 ac6]] X fun e Z => e = .returned (.bool true) ∧ Below X.heap.size X Z) := fun X hX => sameSelf HX.out.1 HX.out.2.2.1 H1.out HA1.out.1 HA1.out.2 X hX _ ((down_val2 HA1.out.1 HX.out.1).grow (H1.out.trans (hX.out.mono H1.out.size))).val
            clear HPa HPb HVa HVb HA1 HA2 HT HX
            generalize fsL 120 (down 119 (da + 1) ta) = F at HSub HFl HPA
            generalize fsL 120 (down 119 (db + 1) tb) = Fb at HSub HFl HPB
            obtain ⟨-, q0, q1, q2, q3, q4, q5, q6, -⟩ := HKP.out _ hS
            go_wp2_with (go_at_call 14; fail)
            clear q0 q1 q2 q3 q4 q5 q6
            refine (HPA.out _ hS).mono ?_
            rintro e y1 ⟨fv, rfl, hfr, hb⟩
            have HTF : Hid (TxV y1 fv F) := TxV.ofRow hfr
            have hSy : Hid (Below w1.heap.size w1 y1) := up2n hS hb
            obtain ⟨fo, fc, rfl, -⟩ := id HTF.out
            clear hfr hb hS
            obtain ⟨n, hn⟩ : ∃ n, F.length = n := ⟨_, rfl⟩
            have HN : Hid (F.length = n) := hn
            have hli : (n : Int) ≤ 300 := by have := HFl.out.1; omega
            obtain ⟨i0, hi0, hz0, hz1, hz2⟩ := info_parts infoStr7
            have HI0 : Hid (Tryz.prog.info? 9 = some i0 ∧ i0.zero = some (.string ⟨#[]⟩) ∧ i0.size = 1 ∧ i0.bytes = 16) := ⟨hi0, hz0, hz1, hz2⟩
            have h0 : Hid (y1.ownsRow y1.heap.size 9 1 (.slice none 0 0) (FRl name.data.toList F 0).length ((FRl name.data.toList F 0).map encStr) ∧ Below y1.heap.size y1 y1) := ⟨World.ownsRow_nil _ _ _ _, Below.refl _ _⟩
            rw [hn]
            clear hn hi0 hz0 hz1 hz2
            go_wp2
            go_loopg [8, 9, 10] n (fun g s8 s9 s10 wr => ∃ (i : Nat) (th : Bool), s9 = .bool th ∧ s10 = .int .i64 i ∧ i ≤ n ∧ n - i ≤ g ∧ Hid (th = decide (name.data.toList ∈ F.take i)) ∧ Hid (wr.ownsRow y1.heap.size 9 1 s8 (FRl name.data.toList F i).length ((FRl name.data.toList F i).map encStr) ∧ Below y1.heap.size y1 wr))
            case atStart => exact ⟨0, false, rfl, rfl, Nat.zero_le _, by omega, (show false = _ by simp), h0⟩
            case round =>
              clear h0
              obtain ⟨i, th, rfl, rfl, hi, hg, HTh, HO⟩ := hrel
              by_cases hin : i < n
              · have hiz : (i : Int) < (n : Int) := by omega
                obtain ⟨x, hxp, hxe, gx, ox, rfl, hgx, hcx⟩ : ∃ (x : List UInt8) (hp : i < F.length), F[i] = x ∧ ∃ g off, fo = some ⟨g, off, none⟩ ∧ g < y1.heap.size ∧ y1.cell? ⟨g, off + i, none⟩ = some (.string ⟨x.toArray⟩) := by
                  have hp : i < F.length := by rw [HN.out]; assumption
                  obtain ⟨o, c, e, h⟩ := HTF.out
                  cases e
                  rcases h with h | ⟨g, off, e, hg, h⟩
                  · rw [h] at hp; cases hp
                  · exact ⟨F[i], hp, rfl, g, off, e, hg, h i hp⟩
                have hwx : wr.cell? ⟨gx, ox + i, none⟩ = some (.string ⟨x.toArray⟩) := (HO.out.2.cell (p := ⟨gx, ox + i, none⟩) hgx).trans hcx
                have hzx : gx < wr.heap.size := Nat.lt_of_lt_of_le hgx HO.out.2.size
                have HPx : Hid (∃ hp : i < F.length, F[i] = x) := ⟨hxp, hxe⟩
                have hD : ((FRl name.data.toList F i).length : Int) ≤ 2000000 := by have := FRl.len (nm := name.data.toList) (F := F) (i := i); have := HFl.out.1; omega
                have hDn : (FRl name.data.toList F i).length ≤ 2000000 := by omega
                clear hgx hcx hxp hxe
                by_cases hxn : (⟨x.toArray⟩ : ByteArray) = name
                · have HXN : Hid (x = name.data.toList) := by show _ = _; rw [← hxn]
                  have hd1 : decide ((⟨x.toArray⟩ : ByteArray) = name) = true := decide_eq_true hxn
                  go_wp2
                  clear hd1
                  go_roundg (n - (i + 1))
                  case measure => omega
                  case rel => exact ⟨i + 1, true, rfl, by go_num, by omega, by omega, (by obtain ⟨p, e⟩ := HPx.out; exact (there_eq p (e.trans HXN.out)).symm), (by obtain ⟨p, e⟩ := HPx.out; rw [FRl.eq p (e.trans HXN.out)]; exact HO.out)⟩
                · have HXN : Hid (x ≠ name.data.toList) := fun e => hxn (by rw [e])
                  have hd1 : (x == name.toList) = false := beq_eq_false_iff_ne.2 (fun e => HXN.out (e.trans (ByteArray.toList_eq name)))
                  go_wp2_with (at_builtin; refine wpList_append_lies _ rfl _ _ 26 rfl y1.heap.size 9 i0 (.string ⟨#[]⟩) 1 16 Tryz.underlying26 HI0.out.1 HI0.out.2.1 HI0.out.2.2.1 HI0.out.2.2.2 rfl (by decide) _ _ _ rfl (HO.out.1.alloc _) ⟨wr.heap.size, 0, none⟩ 1 1 [.string ⟨x.toArray⟩] rfl rfl (cell_one9 _ _ _) (by simp [Value.oneCell']) (by decide) (by unfold maxLen; omega) (by omega) (by show _ ≤ (Array.push _ _).size; rw [Array.size_push]; have := HO.out.2.size; omega) _ rfl ?_; intro o8 c8 w8 hown8 hgrow8 hat8 hlt8; have H8 : Hid ((wr.alloc (.cells #[.string ⟨x.toArray⟩] 9)).grownBy w8 u8.ownBlock ∧ w8.ownsRow y1.heap.size 9 1 (.slice (some ⟨o8, 0, none⟩) ((FRl name.data.toList F i).length + 1) c8) ((FRl name.data.toList F i).length + 1) ((FRl name.data.toList F i).map encStr ++ [.string ⟨x.toArray⟩])) := ⟨hgrow8, hown8⟩; clear hown8 hgrow8 hat8 hlt8)
                  clear hd1
                  have HF : Hid (w8.ownsRow y1.heap.size 9 1 (.slice (some ⟨o8, 0, none⟩) ((FRl name.data.toList F i).length + 1) c8) (FRl name.data.toList F (i + 1)).length ((FRl name.data.toList F (i + 1)).map encStr) ∧ Below y1.heap.size y1 w8) := by
                    obtain ⟨p, e⟩ := HPx.out
                    obtain ⟨g8, o8'⟩ := H8.out
                    have b3 := HO.out.2.trans ((below1 wr (.cells #[.string ⟨x.toArray⟩] 9)).mono HO.out.2.size)
                    refine ⟨?_, b3.grown g8 b3.size (fun j hj => ?_)⟩
                    · rw [FRl.ne p (fun h => HXN.out (e.symm.trans h)), e, List.length_append, List.map_append]; exact o8'
                    · rcases HO.out.1.2 with ⟨e, -⟩ | ⟨g, cap, cur, e, hb, -⟩
                      · rw [e] at hj; cases hj
                      · rw [e] at hj; cases hj; exact hb
                  go_roundg (n - (i + 1))
                  case measure => omega
                  case rel => exact ⟨i + 1, th, by go_num, by go_num, by omega, by omega, (by obtain ⟨p, e⟩ := HPx.out; exact (HTh.out).trans (there_ne p (fun h => HXN.out (e.symm.trans h))).symm), HF⟩
              · have hie : i = n := by omega
                subst hie
                have hth : decide (name.data.toList ∈ F) = th := by rw [HTh.out, ← HN.out, List.take_length]
                have hSw : Hid (Below w1.heap.size w1 wr) := hSy.out.trans (HO.out.2.mono hSy.out.size)
                obtain ⟨-, q0, q1, q2, q3, q4, q5, q6, p0, p1, p2, p3, p4, p5, p6⟩ := HKP.out _ hSw
                go_wp2_with (go_at_call 12; fail)
                clear q0 q1 q2 q3 q4 q5 q6 p0 p1 p2 p3 p4 p5 p6
                refine (HSub.out _ hSw).mono ?_
                rintro e y2 ⟨v, rfl, hAS⟩
                rw [hth] at hAS
                obtain ⟨⟨sk, ss, sm, so3, sn3, sc3, so4, sn4, sc4, so5, sn5, sc5, so6, sn6, sc6, rfl⟩, hFs, hSs, hb⟩ := hAS
                have hS2 : Hid (Below w1.heap.size w1 y2) := up2n hSw hb
                have HR : Hid (TxV y2 u8 (F.filter (fun x => !(x == name.data.toList)))) := by
                  have h := (TxV.ofRow HO.out.1).below hb
                  have e : FRl name.data.toList F i = F.filter (fun x => !(x == name.data.toList)) := by unfold FRl; rw [← HN.out, List.take_length]
                  rw [e] at h
                  exact h
                have HF2 : Hid (TxV y2 (.slice fo i fc) F) := by
                  have h := (HTF.out.below HO.out.2).below hb
                  rw [HN.out] at h
                  exact h
                cases th with
                | false =>
                  have HFs : Hid (∀ Y, Hid (Below y2.heap.size y2 Y) → Calls Tryz.prog 14 #[.agg #[.int .i64 sk, .string ss, .int .i64 sm, .slice so3 sn3 sc3, .slice so4 sn4 sc4, .slice so5 sn5 sc5, .slice so6 sn6 sc6]] Y fun r Z => FrP F Y r Z) := hFs
                  have HSs : Hid (∀ Y, Hid (Below y2.heap.size y2 Y) → Calls Tryz.prog 16 #[.agg #[.int .i64 sk, .string ss, .int .i64 sm, .slice so3 sn3 sc3, .slice so4 sn4 sc4, .slice so5 sn5 sc5, .slice so6 sn6 sc6], .agg #[.int .i64 ak, .string anm, .int .i64 am, .slice ao3 an3 ac3, .slice ao4 an4 ac4, .slice ao5 an5 ac5, .slice ao6 an6 ac6]] Y fun e Z => e = .returned (.bool true) ∧ Below Y.heap.size Y Z) := hSs rfl
                  clear hFs hSs hth HTh hb
                  go_upto_region 16 with fail
                  obtain ⟨sb, hsb⟩ : ∃ n, y2.heap.size = n := ⟨_, rfl⟩
                  have H3 : Hid (Below y2.heap.size y2 (y2.alloc (.cells #[.int .i64 sk, .string ss, .int .i64 sm, .slice so3 sn3 sc3, .slice so4 sn4 sc4, .slice so5 sn5 sc5, .slice so6 sn6 sc6] 31)) ∧ Blk (y2.alloc (.cells #[.int .i64 sk, .string ss, .int .i64 sm, .slice so3 sn3 sc3, .slice so4 sn4 sc4, .slice so5 sn5 sc5, .slice so6 sn6 sc6] 31)) sb #[.int .i64 sk, .string ss, .int .i64 sm, .slice so3 sn3 sc3, .slice so4 sn4 sc4, .slice so5 sn5 sc5, .slice so6 sn6 sc6] 31) := ⟨below1 _ _, by rw [← hsb]; exact Blk.new _ _ _⟩
                  rw [hsb]
                  generalize y2.alloc _ = y3 at H3 ⊢
                  clear hsb
                  have h3 : Hid (Below y2.heap.size y2 y3) := H3.out.1
                  obtain ⟨-, q0, q1, q2, q3, q4, q5, q6, -⟩ := HKP.out y3 (up2n hS2 h3.out)
                  have s0 := H3.out.2.cell 0 _ rfl
                  have s1 := H3.out.2.cell 1 _ rfl
                  have s2 := H3.out.2.cell 2 _ rfl
                  have s3 := H3.out.2.cell 3 _ rfl
                  have s4 := H3.out.2.cell 4 _ rfl
                  have s5 := H3.out.2.cell 5 _ rfl
                  have s6 := H3.out.2.cell 6 _ rfl
                  have sl := H3.out.2.lt
                  go_wp2_with (go_at_call 16; fail)
                  clear q0 q1 q2 q3 q4 q5 q6 s0 s1 s2 s3 s4 s5 s6 sl
                  refine (HSs.out _ h3).mono ?_
                  rintro e y4 ⟨rfl, hb⟩
                  have h4 : Hid (Below y2.heap.size y2 y4) := up2n h3 hb
                  have B4 : Hid (Blk y4 sb #[.int .i64 sk, .string ss, .int .i64 sm, .slice so3 sn3 sc3, .slice so4 sn4 sc4, .slice so5 sn5 sc5, .slice so6 sn6 sc6] 31) := H3.out.2.below hb
                  clear hb h3 H3
                  have s0 := B4.out.cell 0 _ rfl
                  have s1 := B4.out.cell 1 _ rfl
                  have s2 := B4.out.cell 2 _ rfl
                  have s3 := B4.out.cell 3 _ rfl
                  have s4 := B4.out.cell 4 _ rfl
                  have s5 := B4.out.cell 5 _ rfl
                  have s6 := B4.out.cell 6 _ rfl
                  have sl := B4.out.lt
                  go_wp2_with (go_at_call 14; fail)
                  clear s0 s1 s2 s3 s4 s5 s6 sl
                  refine (HFs.out _ h4).mono ?_
                  rintro e y5 ⟨v5, rfl, hfr5, hb⟩
                  have h5 : Hid (Below y2.heap.size y2 y5) := up2n h4 hb
                  have T5 : Hid (TxV y5 v5 F) := TxV.ofRow hfr5
                  clear hfr5 hb
                  go_wp2_with (go_at_call 27; fail)
                  refine (sameV_c F (by have := HFl.out.1; omega) _ _ _ T5.out (HF2.out.below h5.out)).mono ?_
                  rintro e y6 ⟨rfl, hb⟩
                  have h6 : Hid (Below y2.heap.size y2 y6) := up2n h5 hb
                  clear hb
                  go_wp2
                  go_ret
                  exact ⟨rfl, H1.out.trans ((up2n hS2 h6.out).out.mono H1.out.size)⟩
                | true =>
                  have HFs : Hid (∀ Y, Hid (Below y2.heap.size y2 Y) → Calls Tryz.prog 14 #[.agg #[.int .i64 sk, .string ss, .int .i64 sm, .slice so3 sn3 sc3, .slice so4 sn4 sc4, .slice so5 sn5 sc5, .slice so6 sn6 sc6]] Y fun r Z => FrP (mergeM (F.filter (fun x => !(x == name.data.toList))) Fb) Y r Z) := hFs
                  clear hFs hSs hth HTh hb
                  go_upto_region 17 with fail
                  obtain ⟨sb, hsb⟩ : ∃ n, y2.heap.size = n := ⟨_, rfl⟩
                  have H3 : Hid (Below y2.heap.size y2 (y2.alloc (.cells #[.int .i64 sk, .string ss, .int .i64 sm, .slice so3 sn3 sc3, .slice so4 sn4 sc4, .slice so5 sn5 sc5, .slice so6 sn6 sc6] 31)) ∧ Blk (y2.alloc (.cells #[.int .i64 sk, .string ss, .int .i64 sm, .slice so3 sn3 sc3, .slice so4 sn4 sc4, .slice so5 sn5 sc5, .slice so6 sn6 sc6] 31)) sb #[.int .i64 sk, .string ss, .int .i64 sm, .slice so3 sn3 sc3, .slice so4 sn4 sc4, .slice so5 sn5 sc5, .slice so6 sn6 sc6] 31) := ⟨below1 _ _, by rw [← hsb]; exact Blk.new _ _ _⟩
                  rw [hsb]
                  generalize y2.alloc _ = y3 at H3 ⊢
                  clear hsb
                  have h3 : Hid (Below w1.heap.size w1 y3) := up2n hS2 H3.out.1
                  have HKQ : Hid (∀ X, Hid (Below y3.heap.size y3 X) → Hid (Below y3.heap.size y3 X) ∧ X.cell? ⟨sb, 0, none⟩ = some (.int .i64 sk) ∧ X.cell? ⟨sb, 1, none⟩ = some (.string ss) ∧ X.cell? ⟨sb, 2, none⟩ = some (.int .i64 sm) ∧ X.cell? ⟨sb, 3, none⟩ = some (.slice so3 sn3 sc3) ∧ X.cell? ⟨sb, 4, none⟩ = some (.slice so4 sn4 sc4) ∧ X.cell? ⟨sb, 5, none⟩ = some (.slice so5 sn5 sc5) ∧ X.cell? ⟨sb, 6, none⟩ = some (.slice so6 sn6 sc6) ∧ X.cell? ⟨ab, 0, none⟩ = some (.int .i64 ak) ∧ X.cell? ⟨ab, 1, none⟩ = some (.string anm) ∧ X.cell? ⟨ab, 2, none⟩ = some (.int .i64 am) ∧ X.cell? ⟨ab, 3, none⟩ = some (.slice ao3 an3 ac3) ∧ X.cell? ⟨ab, 4, none⟩ = some (.slice ao4 an4 ac4) ∧ X.cell? ⟨ab, 5, none⟩ = some (.slice ao5 an5 ac5) ∧ X.cell? ⟨ab, 6, none⟩ = some (.slice ao6 an6 ac6) ∧ X.cell? ⟨bb, 0, none⟩ = some (.int .i64 bk) ∧ X.cell? ⟨bb, 1, none⟩ = some (.string bnm) ∧ X.cell? ⟨bb, 2, none⟩ = some (.int .i64 bm) ∧ X.cell? ⟨bb, 3, none⟩ = some (.slice bo3 bn3 bc3) ∧ X.cell? ⟨bb, 4, none⟩ = some (.slice bo4 bn4 bc4) ∧ X.cell? ⟨bb, 5, none⟩ = some (.slice bo5 bn5 bc5) ∧ X.cell? ⟨bb, 6, none⟩ = some (.slice bo6 bn6 bc6)) := fun X h => by
                    obtain ⟨-, r⟩ := HKP.out X (up2n h3 h.out)
                    have k := H3.out.2.below h.out
                    exact ⟨h, k.cell 0 _ rfl, k.cell 1 _ rfl, k.cell 2 _ rfl, k.cell 3 _ rfl, k.cell 4 _ rfl, k.cell 5 _ rfl, k.cell 6 _ rfl, r⟩
                  have HFQ : Hid (∀ Y, Hid (Below y3.heap.size y3 Y) → Calls Tryz.prog 14 #[.agg #[.int .i64 sk, .string ss, .int .i64 sm, .slice so3 sn3 sc3, .slice so4 sn4 sc4, .slice so5 sn5 sc5, .slice so6 sn6 sc6]] Y fun r Z => FrP (mergeM (F.filter (fun x => !(x == name.data.toList))) Fb) Y r Z) := fun Y hY => HFs.out Y (H3.out.1.trans (hY.out.mono H3.out.1.size))
                  have HBQ : Hid (∀ X, Hid (Below y3.heap.size y3 X) → Calls Tryz.prog 14 #[.agg #[.int .i64 bk, .string bnm, .int .i64 bm, .slice bo3 bn3 bc3, .slice bo4 bn4 bc4, .slice bo5 bn5 bc5, .slice bo6 bn6 bc6]] X fun r w' => FrP Fb X r w') := fun X hX => HPB.out X (up2n h3 hX.out)
                  have HSQ : Hid (∀ X, Hid (Below y3.heap.size y3 X) → Calls Tryz.prog 16 #[.agg #[.int .i64 ak, .string anm, .int .i64 am, .slice ao3 an3 ac3, .slice ao4 an4 ac4, .slice ao5 an5 ac5, .slice ao6 an6 ac6], .agg #[.int .i64 ak, .string anm, .int .i64 am, .slice ao3 an3 ac3, .slice ao4 an4 ac4, .slice ao5 an5 ac5, .slice ao6 an6 ac6]] X fun e Z => e = .returned (.bool true) ∧ Below X.heap.size X Z) := fun X hX => HSm.out X (up2n h3 hX.out)
                  have HUQ : Hid (∀ X, Hid (Below y3.heap.size y3 X) → TxV X u8 (F.filter (fun x => !(x == name.data.toList)))) := fun X hX => (HR.out.below H3.out.1).below hX.out
                  have HL : Hid ((F.filter (fun x => !(x == name.data.toList))).length ≤ 300 ∧ Fb.length ≤ 300 ∧ (mergeM (F.filter (fun x => !(x == name.data.toList))) Fb).length ≤ 600) := by
                    have e1 := List.length_filter_le (fun x => !(x == name.data.toList)) F
                    have e2 := mergeM_len (F.filter (fun x => !(x == name.data.toList))) Fb
                    have e3 := HFl.out
                    exact ⟨by omega, by omega, by omega⟩
                  have HEnd : Hid (∀ X, Hid (Below y3.heap.size y3 X) → Below w.heap.size w X) := fun X hX => H1.out.trans ((up2n h3 hX.out).out.mono H1.out.size)
                  have hS : Hid (Below y3.heap.size y3 y3.drew) := (Below.refl _ _).drew
                  clear HFs HPB HSm HR HF2 H3 h3 hS2 hSw HSub HPA HKP hSy HTF HO HN HFl HI0 H1
                  refine wp_region_held_drew (S := fun X : World => Hid (Below y3.heap.size y3 X) ∧ X.cell? ⟨sb, 0, none⟩ = some (.int .i64 sk) ∧ X.cell? ⟨sb, 1, none⟩ = some (.string ss) ∧ X.cell? ⟨sb, 2, none⟩ = some (.int .i64 sm) ∧ X.cell? ⟨sb, 3, none⟩ = some (.slice so3 sn3 sc3) ∧ X.cell? ⟨sb, 4, none⟩ = some (.slice so4 sn4 sc4) ∧ X.cell? ⟨sb, 5, none⟩ = some (.slice so5 sn5 sc5) ∧ X.cell? ⟨sb, 6, none⟩ = some (.slice so6 sn6 sc6) ∧ X.cell? ⟨ab, 0, none⟩ = some (.int .i64 ak) ∧ X.cell? ⟨ab, 1, none⟩ = some (.string anm) ∧ X.cell? ⟨ab, 2, none⟩ = some (.int .i64 am) ∧ X.cell? ⟨ab, 3, none⟩ = some (.slice ao3 an3 ac3) ∧ X.cell? ⟨ab, 4, none⟩ = some (.slice ao4 an4 ac4) ∧ X.cell? ⟨ab, 5, none⟩ = some (.slice ao5 an5 ac5) ∧ X.cell? ⟨ab, 6, none⟩ = some (.slice ao6 an6 ac6) ∧ X.cell? ⟨bb, 0, none⟩ = some (.int .i64 bk) ∧ X.cell? ⟨bb, 1, none⟩ = some (.string bnm) ∧ X.cell? ⟨bb, 2, none⟩ = some (.int .i64 bm) ∧ X.cell? ⟨bb, 3, none⟩ = some (.slice bo3 bn3 bc3) ∧ X.cell? ⟨bb, 4, none⟩ = some (.slice bo4 bn4 bc4) ∧ X.cell? ⟨bb, 5, none⟩ = some (.slice bo5 bn5 bc5) ∧ X.cell? ⟨bb, 6, none⟩ = some (.slice bo6 bn6 bc6)) (by kernel_rfl) (HKQ.out _ hS) (fun hHeld => ?_)
                  generalize y3.drew = z0 at hS hHeld ⊢
                  refine wpAnyH_take (i := 0) (v := .agg #[.int .i64 sk, .string ss, .int .i64 sm, .slice so3 sn3 sc3, .slice so4 sn4 sc4, .slice so5 sn5 sc5, .slice so6 sn6 sc6]) rfl (by kernel_rfl) (by kernel_rfl) (by kernel_rfl) (fun _ _ _ h => h) (Or.inl ⟨by kernel_rfl, fun X hX => ?_⟩) (by assumption) ?_
                  · obtain ⟨-, q0, q1, q2, q3, q4, q5, q6, -, -, -, -, -, -, -, -, -, -, -, -, -, -⟩ := hX; go_simp
                  try simp only [Act.put, List.setIfInBounds_toArray]
                  refine wpAnyH_take (i := 2) (v := u8) rfl (by kernel_rfl) (by kernel_rfl) (by kernel_rfl) (fun _ _ _ h => h) (Or.inl ⟨by kernel_rfl, fun X hX => ?_⟩) (by assumption) ?_
                  · clear hX; go_simp
                  try simp only [Act.put]
                  refine wpAnyH_take (i := 3) (v := .agg #[.int .i64 bk, .string bnm, .int .i64 bm, .slice bo3 bn3 bc3, .slice bo4 bn4 bc4, .slice bo5 bn5 bc5, .slice bo6 bn6 bc6]) rfl (by kernel_rfl) (by kernel_rfl) (by kernel_rfl) (fun _ _ _ h => h) (Or.inl ⟨by kernel_rfl, fun X hX => ?_⟩) (by assumption) ?_
                  · obtain ⟨-, -, -, -, -, -, -, -, -, -, -, -, -, -, -, q14, q15, q16, q17, q18, q19, q20⟩ := hX; go_simp
                  try simp only [Act.put]
                  refine wpAnyH_ready (rs := [1]) (by kernel_rfl) (by simp) ?_
                  refine AllReadyH.cons (o := _) rfl (fun K hK => ?_) AllReadyH.nil
                  go_simp
                  go_at_call 14
                  refine (HFQ.out _ hS).mono ?_
                  rintro e z11 ⟨v1, rfl, hfr1, hb⟩
                  have hS' : Hid (Below y3.heap.size y3 z11) := up2n hS hb
                  have T1 : Hid (TxV z11 v1 (mergeM (F.filter (fun x => !(x == name.data.toList))) Fb)) := TxV.ofRow hfr1
                  refine hK.out _ _ (HKQ.out _ hS') (fun hHeld' => ?_)
                  clear hK K hb hS hHeld hfr1
                  have hS := hS'; clear hS'; have hHeld := hHeld'; clear hHeld'
                  try simp only [Act.put, List.setIfInBounds_toArray, List.set_cons_zero, List.set_cons_succ]
                  refine wpAnyH_ready (rs := [4]) (by kernel_rfl) (by simp) ?_
                  refine AllReadyH.cons (o := _) rfl (fun K hK => ?_) AllReadyH.nil
                  go_simp
                  go_at_call 14
                  refine (HBQ.out _ hS).mono ?_
                  rintro e z12 ⟨v2, rfl, hfr2, hb⟩
                  have hS' : Hid (Below y3.heap.size y3 z12) := up2n hS hb
                  have T1' : Hid (TxV z12 v1 (mergeM (F.filter (fun x => !(x == name.data.toList))) Fb)) := T1.out.below hb
                  have T2 : Hid (TxV z12 v2 Fb) := TxV.ofRow hfr2
                  refine hK.out _ _ (HKQ.out _ hS') (fun hHeld' => ?_)
                  clear hK K hb hS hHeld hfr2 T1
                  have hS := hS'; clear hS'; have hHeld := hHeld'; clear hHeld'
                  try simp only [Act.put, List.setIfInBounds_toArray, List.set_cons_zero, List.set_cons_succ]
                  refine wpAnyH_ready (rs := [5]) (by kernel_rfl) (by simp) ?_
                  refine AllReadyH.cons (o := _) rfl (fun K hK => ?_) AllReadyH.nil
                  go_simp
                  go_at_call 28
                  refine (merged_c _ _ _ _ _ (HUQ.out _ hS) T2.out (by have := HL.out; omega) (by have := HL.out; omega)).mono ?_
                  rintro e z13 ⟨v3, rfl, hfr3, hb⟩
                  have hS' : Hid (Below y3.heap.size y3 z13) := up2n hS hb
                  have T1 : Hid (TxV z13 v1 (mergeM (F.filter (fun x => !(x == name.data.toList))) Fb)) := T1'.out.below hb
                  have T3 : Hid (TxV z13 v3 (mergeM (F.filter (fun x => !(x == name.data.toList))) Fb)) := TxV.ofRow hfr3
                  refine hK.out _ _ (HKQ.out _ hS') (fun hHeld' => ?_)
                  clear hK K hb hS hHeld hfr3 T1' T2
                  have hS := hS'; clear hS'; have hHeld := hHeld'; clear hHeld'
                  try simp only [Act.put, List.setIfInBounds_toArray, List.set_cons_zero, List.set_cons_succ]
                  refine wpAnyH_ready (rs := [6]) (by kernel_rfl) (by simp) ?_
                  refine AllReadyH.cons (o := _) rfl (fun K hK => ?_) AllReadyH.nil
                  go_simp
                  go_at_call 27
                  refine (sameV_c _ (by have := HL.out; omega) _ _ _ T1.out T3.out).mono ?_
                  rintro e z14 ⟨rfl, hb⟩
                  have hS' : Hid (Below y3.heap.size y3 z14) := up2n hS hb
                  refine hK.out _ _ (HKQ.out _ hS') (fun hHeld' => ?_)
                  clear hK K hb hS hHeld T1 T3
                  have hS := hS'; clear hS'; have hHeld := hHeld'; clear hHeld'
                  try simp only [Act.put, List.setIfInBounds_toArray, List.set_cons_zero, List.set_cons_succ]
                  refine wpAnyH_take (i := 7) (v := .bool true) rfl (by kernel_rfl) (by kernel_rfl) (by kernel_rfl) (fun _ _ _ h => h) (Or.inl ⟨by kernel_rfl, fun X hX => ?_⟩) (by assumption) ?_
                  · clear hX; go_simp
                  try simp only [Act.put, List.setIfInBounds_toArray]
                  refine wpAnyH_take (i := 8) (v := .agg #[.int .i64 ak, .string anm, .int .i64 am, .slice ao3 an3 ac3, .slice ao4 an4 ac4, .slice ao5 an5 ac5, .slice ao6 an6 ac6]) rfl (by kernel_rfl) (by kernel_rfl) (by kernel_rfl) (fun _ _ _ h => h) (Or.inl ⟨by kernel_rfl, fun X hX => ?_⟩) (by assumption) ?_
                  · obtain ⟨-, -, -, -, -, -, -, -, q7, q8, q9, q10, q11, q12, q13, -, -, -, -, -, -, -⟩ := hX; go_simp
                  try simp only [Act.put]
                  refine wpAnyH_take (i := 9) (v := .agg #[.int .i64 ak, .string anm, .int .i64 am, .slice ao3 an3 ac3, .slice ao4 an4 ac4, .slice ao5 an5 ac5, .slice ao6 an6 ac6]) rfl (by kernel_rfl) (by kernel_rfl) (by kernel_rfl) (fun _ _ _ h => h) (Or.inl ⟨by kernel_rfl, fun X hX => ?_⟩) (by assumption) ?_
                  · obtain ⟨-, -, -, -, -, -, -, -, q7, q8, q9, q10, q11, q12, q13, -, -, -, -, -, -, -⟩ := hX; go_simp
                  try simp only [Act.put]
                  refine wpAnyH_ready (rs := [10]) (by kernel_rfl) (by simp) ?_
                  refine AllReadyH.cons (o := _) rfl (fun K hK => ?_) AllReadyH.nil
                  go_simp
                  go_at_call 16
                  refine (HSQ.out _ hS).mono ?_
                  rintro e z15 ⟨rfl, hb⟩
                  have hS' : Hid (Below y3.heap.size y3 z15) := up2n hS hb
                  refine hK.out _ _ (HKQ.out _ hS') (fun hHeld' => ?_)
                  clear hK K hb hS hHeld 
                  have hS := hS'; clear hS'; have hHeld := hHeld'; clear hHeld'
                  try simp only [Act.put, List.setIfInBounds_toArray, List.set_cons_zero, List.set_cons_succ]
                  refine wpAnyH_take (i := 11) (v := .bool true) rfl (by kernel_rfl) (by kernel_rfl) (by kernel_rfl) (fun _ _ _ h => h) (Or.inl ⟨by kernel_rfl, fun X hX => ?_⟩) (by assumption) ?_
                  · clear hX; go_simp
                  simp only [Act.put, List.getElem_toArray, List.getElem_cons_succ, List.getElem_cons_zero, List.setIfInBounds_toArray, List.set_cons_zero, List.set_cons_succ]
                  refine wpAnyH_take (i := 12) (v := .bool true) rfl (by kernel_rfl) (by kernel_rfl) (by kernel_rfl) (fun _ _ _ h => h) (Or.inl ⟨by kernel_rfl, fun X hX => ?_⟩) (by assumption) ?_
                  · clear hX; go_simp
                  simp only [Act.put, List.getElem_toArray, List.getElem_cons_succ, List.getElem_cons_zero, List.setIfInBounds_toArray, List.set_cons_zero, List.set_cons_succ]
                  refine wpAnyH_done (by kernel_rfl) ?_ _
                  clear hHeld
                  go_wp2
                  go_ret
                  exact ⟨rfl, HEnd.out _ hS⟩
end Go.Proofs.YtegdloenakachaaGreatDoor
