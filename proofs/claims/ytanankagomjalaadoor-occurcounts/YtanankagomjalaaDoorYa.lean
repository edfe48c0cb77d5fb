/-
  core.CheckExpr, in the scope of a program of one binding and of some names: it answers; where the answer is not ErrArg, variables have their names alone.
-/
import Derived.Test.YtanankagomjalaaDoorP11
import Derived.Laws.OwnMore
import Derived.Deep.RegionHeld3
namespace Go.Proofs.YtanankagomjalaaDoor
open Go.RowKit Go.Shelf Go.Maps Go.Sort
set_option linter.unusedVariables false

theorem builtin16_c (w : World) : Calls Tryd.prog 21 #[] w fun e w' => e = .returned (.slice (some ⟨w.heap.size, 0, none⟩) 5 5) ∧ Blk w' w.heap.size bi7V 79 ∧ Below w.heap.size w w' := by
  go_enter Tryd.func21, Tryd.ntmps21
  go_wp2
  go_ret
  exact ⟨rfl, Blk.new w _ _, below1 w _⟩
theorem boundBy0_c (w : World) : Calls Tryd.prog 36 #[.slice none 0 0] w fun e w' => e = .returned (.slice (some ⟨w.heap.size, 0, none⟩) 0 0) ∧ Blk w' w.heap.size #[] 9 ∧ Below w.heap.size w w' := by
  refine (boundByB_c 0 [] none 0 w.heap.size w (.inl rfl) (Nat.le_refl _) (by simp)).mono ?_
  rintro r w' ⟨rfl, ⟨arr, h1, h2, h3⟩, h4⟩
  refine ⟨rfl, ?_, h4⟩
  have e : arr = #[] := by simpa using h2
  rw [← e]; exact h1
/-- No name, and others behind it. -/
theorem app_vars0 {o : Oper} {a : Act} {K : Act → World → Prop} {Q : Exit → Act → World → Prop} {w : World} (s x : Operand) (ho : o.op = .call { callee := .builtin .append, args := #[s, x], argTypes := #[24, 24] }) (base gb : Nat) (hk : Blk w gb #[] 9) (hbg : base ≤ gb) (hs : a.eval s = .slice (some ⟨gb, 0, none⟩) 0 0)
    (vs : Value) (vl : List ByteArray) (hx : a.eval x = vs) (hv : VarsAt w vs vl) (hl : vl.length ≤ 1000000)
    (h : ∀ g' c' w', base ≤ g' → TxIn w' w'.heap.size (some ⟨g', 0, none⟩) vl → w.grownBy w' (some gb) → K (a.put o.dst (.slice (some ⟨g', 0, none⟩) vl.length c')) w') : o.wp Tryd.prog a w K Q := by
  obtain ⟨i, hi, hz, hsz, hby⟩ := info_parts infoStr7
  have hown : w.ownsRow base 9 1 (.slice (some ⟨gb, 0, none⟩) 0 0) 0 [] := ⟨rfl, .inr ⟨gb, 0, #[], rfl, hbg, hk, Nat.le_refl _, by unfold maxLen; omega, rfl, rfl⟩⟩
  obtain ⟨ov, cv, rfl, hv⟩ := hv
  rcases hv with ⟨rfl, rfl, rfl⟩ | ⟨g, off, rfl, hc⟩
  · have hr := run_append_owned_none (P := Tryd.prog) w base 24 o.type 9 i 1 Tryd.underlying24 hi _ _ _ hown
    unfold Oper.wp execOp
    simp only [ho, resolve, invoke, builtin, Sem.run_bind, Sem.run_pure, Result.andThen_ok, List.map_toArray, List.map_cons, List.map_nil, hs, hx]
    rw [show (Builtin.append_ #[24, 24] o.type #[Value.slice (some ⟨gb, 0, none⟩) 0 0, Value.slice none ([] : List ByteArray).length 0]).run Tryd.prog w = _ from hr]
    exact h gb 0 w hbg (.inl rfl) ⟨rfl, rfl, rfl, Nat.le_refl _, fun _ _ _ => rfl⟩
  · have hlw := hk.lt
    obtain ⟨v', w', hr, h2, h3, h4⟩ := run_append_own (P := Tryd.prog) w base 24 o.type 9 i (.string ⟨#[]⟩) 1 16 Tryd.underlying24 hi hz hsz hby rfl (by omega) _ 0 _ hown ⟨g, off, none⟩ vl.length cv (vl.map Value.string) (by simp) (fun j u hj => by
      rw [List.getElem?_map] at hj
      obtain ⟨y, hy, rfl⟩ := Option.map_eq_some_iff.1 hj
      obtain ⟨hj2, rfl⟩ := List.getElem?_eq_some_iff.1 hy
      rw [Addr.add_lit]
      exact hc j hj2) (fun u hu => by obtain ⟨y, -, rfl⟩ := List.mem_map.1 hu; rfl) (by unfold maxLen; omega) (by omega) (by omega)
    unfold Oper.wp execOp
    simp only [ho, resolve, invoke, builtin, Sem.run_bind, Sem.run_pure, Result.andThen_ok, List.map_toArray, List.map_cons, List.map_nil, hs, hx, hr]
    have h2' := h2
    rcases h2'.2 with ⟨rfl, hz⟩ | ⟨g', cap, cur, rfl, hb', hg', -⟩
    · have := (h4.1 rfl).1
      cases this
    · have hT : TxIn w' w'.heap.size (some ⟨g', 0, none⟩) vl := by
        refine .inr ⟨g', 0, rfl, (Array.getElem?_eq_some_iff.1 hg').1, fun k hk9 => ?_⟩
        rw [Nat.zero_add, h2.cellAt k (by omega)]
        show (vl.map Value.string)[k]? = _
        rw [List.getElem?_map, List.getElem?_eq_getElem (by simpa using hk9)]
        rfl
      have := h g' cap w' hb' hT h3
      rw [show 0 + vl.length = vl.length by omega]
      exact this
set_option maxRecDepth 100000 in
set_option maxHeartbeats 8000000 in
theorem checkExpr0_c (d : Nat) (t : Tr (d + 1)) (v : Value) (g : Nat) (vs : Value) (vl : List ByteArray) (w : World) (hv : ExVal2 w d t v) (hFit : Fit (d + 1) t) (hN : NmOK (d + 1) t) (hd : d + 1 ≤ 4096) (hc : vl.length + 2 * costM (d + 1) t ≤ 2000000) (hs : sizeM (d + 1) t ≤ 1048576)
    (hB : Blk w g bi7V 79) (hV : VarsAt w vs vl) (hvz : ∀ x ∈ vl, x.size ≤ maxLen) (hvl : vl.length ≤ 1000000) :
    Calls Tryd.prog 20 #[.agg #[.slice (some ⟨g, 0, none⟩) 5 5, .slice none 0 0], v, vs] w fun r w' => CkP (d + 1) t w r w' := by
  obtain ⟨o3, c3, o4, c4, o5, c5, o6, c6, rfl, -⟩ := id hv
  obtain ⟨n3, hn3⟩ : ∃ n, (TrN.params t).length = n := ⟨_, rfl⟩
  obtain ⟨n4, hn4⟩ : ∃ n, (TrN.binds t).length = n := ⟨_, rfl⟩
  obtain ⟨n5, hn5⟩ : ∃ n, (TrN.args t).length = n := ⟨_, rfl⟩
  obtain ⟨n6, hn6⟩ : ∃ n, (TrN.alts t).length = n := ⟨_, rfl⟩
  obtain ⟨nm, hnm⟩ : ∃ n, TrN.name t = n := ⟨_, rfl⟩
  obtain ⟨kd, hkd⟩ : ∃ n, TrN.kind t = n := ⟨_, rfl⟩
  obtain ⟨nu, hnu⟩ : ∃ n, TrN.num t = n := ⟨_, rfl⟩
  rw [hn3, hn4, hn5, hn6, hnm, hkd, hnu] at hv ⊢
  obtain ⟨V, hVw⟩ : ∃ V, (w.alloc (.cells #[.slice (some ⟨g, 0, none⟩) 5 5, .slice none 0 0] 49)).alloc (.cells #[.int .i64 kd, .string nm, .int .i64 nu, .slice o3 n3 c3, .slice o4 n4 c4, .slice o5 n5 c5, .slice o6 n6 c6] 29) = V := ⟨_, rfl⟩
  have e1 : (w.alloc (.cells #[.slice (some ⟨g, 0, none⟩) 5 5, .slice none 0 0] 49)).heap.size = w.heap.size + 1 := Array.size_push _
  have b1 := below1 w (.cells #[.slice (some ⟨g, 0, none⟩) 5 5, .slice none 0 0] 49)
  have b2 := below1 (w.alloc (.cells #[.slice (some ⟨g, 0, none⟩) 5 5, .slice none 0 0] 49)) (.cells #[.int .i64 kd, .string nm, .int .i64 nu, .slice o3 n3 c3, .slice o4 n4 c4, .slice o5 n5 c5, .slice o6 n6 c6] 29)
  have kp := (Blk.new w #[.slice (some ⟨g, 0, none⟩) 5 5, .slice none 0 0] 49).below b2
  have ke := Blk.new (w.alloc (.cells #[.slice (some ⟨g, 0, none⟩) 5 5, .slice none 0 0] 49)) #[.int .i64 kd, .string nm, .int .i64 nu, .slice o3 n3 c3, .slice o4 n4 c4, .slice o5 n5 c5, .slice o6 n6 c6] 29
  rw [e1] at ke
  rw [hVw] at b2 kp ke
  have bV : Below w.heap.size w V := b1.trans (b2.mono b1.size)
  obtain ⟨pb, hpb⟩ : ∃ n, w.heap.size = n := ⟨_, rfl⟩
  obtain ⟨eb, heb⟩ : ∃ n, w.heap.size + 1 = n := ⟨_, rfl⟩
  have HVw : Hid ((w.alloc (.cells #[.slice (some ⟨g, 0, none⟩) 5 5, .slice none 0 0] 49)).alloc (.cells #[.int .i64 kd, .string nm, .int .i64 nu, .slice o3 n3 c3, .slice o4 n4 c4, .slice o5 n5 c5, .slice o6 n6 c6] 29) = V ∧ w.heap.size = pb ∧ w.heap.size + 1 = eb) := ⟨hVw, hpb, heb⟩
  rw [heb] at ke
  rw [hpb] at kp
  have HB0 : Hid (Below w.heap.size w V) := bV
  have HK : Hid (Blk V pb #[.slice (some ⟨g, 0, none⟩) 5 5, .slice none 0 0] 49 ∧ Blk V eb #[.int .i64 kd, .string nm, .int .i64 nu, .slice o3 n3 c3, .slice o4 n4 c4, .slice o5 n5 c5, .slice o6 n6 c6] 29) := ⟨kp, ke⟩
  have hE0 : ExAt V V.heap.size (d + 1) t eb 0 := by
    have := ((hv.grow bV).at (g := eb) (off := 0) ke.lt (by rw [hkd] at *; exact ke.cell 0 _ rfl) (ke.cell 1 _ rfl) (ke.cell 2 _ rfl) (ke.cell 3 _ rfl) (ke.cell 4 _ rfl) (ke.cell 5 _ rfl) (ke.cell 6 _ rfl)).1
    exact this
  have HF : Hid (Calls Tryd.prog 34 #[.pointer (some ⟨eb, 0, none⟩)] V fun e w' => e = .returned (.bool true) ∧ Below V.heap.size V w') := fits_c (d + 1) t V.heap.size eb 0 V hE0 (Nat.le_refl _) hs hd
  have HX : Hid (∀ X, Below V.heap.size V X → ExVal2 X d t (.agg #[.int .i64 kd, .string nm, .int .i64 nu, .slice o3 n3 c3, .slice o4 n4 c4, .slice o5 n5 c5, .slice o6 n6 c6]) ∧ Blk X g bi7V 79 ∧ VarsAt X vs vl) := fun X h => by
    have hb := bV.trans (h.mono bV.size)
    exact ⟨hv.grow hb, hB.below hb, hV.below hb⟩
  have HP : Hid (Fit (d + 1) t ∧ NmOK (d + 1) t ∧ vl.length + 2 * costM (d + 1) t ≤ 2000000 ∧ sizeM (d + 1) t ≤ 1048576 ∧ (∀ x ∈ vl, x.size ≤ maxLen) ∧ vl.length ≤ 1000000) := ⟨hFit, hN, hc, hs, hvz, hvl⟩
  have hvs : ∃ so sn sc, vs = .slice so sn sc := by
    obtain ⟨o, c, e, -⟩ := hV
    exact ⟨_, _, _, e⟩
  obtain ⟨so, sn, sc, rfl⟩ := hvs
  clear hv hFit hN hc hs hB hV hvz hvl kp ke hE0 b1 b2 bV e1 hn3 hn4 hn5 hn6 hnm hkd hnu hVw hpb heb hd
  go_enter Tryd.func20, Tryd.ntmps20
  go_wp2_with (go_at_call 34; fail)
  rw [HVw.out.1, HVw.out.2.2, HVw.out.2.1]
  refine HF.out.mono ?_
  rintro e w1 ⟨rfl, hb1⟩
  have H1 : Hid (Below w.heap.size w w1) := HB0.out.trans (hb1.mono HB0.out.size)
  have HKP : Hid (∀ X, Hid (Below w1.heap.size w1 X) → Hid (Below w1.heap.size w1 X) ∧ X.cell? ⟨eb, 0, none⟩ = some (.int .i64 kd) ∧ X.cell? ⟨eb, 1, none⟩ = some (.string nm) ∧ X.cell? ⟨eb, 2, none⟩ = some (.int .i64 nu) ∧ X.cell? ⟨eb, 3, none⟩ = some (.slice o3 n3 c3) ∧ X.cell? ⟨eb, 4, none⟩ = some (.slice o4 n4 c4) ∧ X.cell? ⟨eb, 5, none⟩ = some (.slice o5 n5 c5) ∧ X.cell? ⟨eb, 6, none⟩ = some (.slice o6 n6 c6) ∧ X.cell? ⟨pb, 0, none⟩ = some (.slice (some ⟨g, 0, none⟩) 5 5) ∧ X.cell? ⟨pb, 1, none⟩ = some (.slice none 0 0)) := fun X h => by
    have hb := hb1.trans (h.out.mono hb1.size)
    have k1 := HK.out.1.below hb
    have k2 := HK.out.2.below hb
    exact ⟨h, k2.cell 0 _ rfl, k2.cell 1 _ rfl, k2.cell 2 _ rfl, k2.cell 3 _ rfl, k2.cell 4 _ rfl, k2.cell 5 _ rfl, k2.cell 6 _ rfl, k1.cell 0 _ rfl, k1.cell 1 _ rfl⟩
  have HVs : Hid (∀ X, Hid (Below w1.heap.size w1 X) → VarsAt X (.slice so sn sc) vl ∧ vl.length ≤ 1000000) := fun X h => ⟨(HX.out X (hb1.trans (h.out.mono hb1.size))).2.2, HP.out.2.2.2.2.2⟩
  have HCk : Hid (∀ X, Hid (Below w1.heap.size w1 X) → ∀ gB g' c', Blk X gB #[.string ⟨#[]⟩, .int .i64 kd, .string nm, .int .i64 nu, .slice o3 n3 c3, .slice o4 n4 c4, .slice o5 n5 c5, .slice o6 n6 c6] 56 → TxIn X X.heap.size (some ⟨g', 0, none⟩) vl → Calls Tryd.prog 35 #[.slice (some ⟨gB, 0, none⟩) 1 1, .slice (some ⟨g, 0, none⟩) 5 5, .slice (some ⟨g', 0, none⟩) vl.length c'] X fun r w2 => ∃ z : Int, r = .returned (.int .i64 z) ∧ (z ≠ 2 → VarOK (d + 1) t) ∧ Below X.heap.size X w2) := fun X h gB g' c' kB hT => by
    obtain ⟨q1, q2, q4⟩ := HX.out X (hb1.trans (h.out.mono hb1.size))
    obtain ⟨p1, p2, p3, p4, p5, p6⟩ := HP.out
    have hA := q1.at (g := gB) (off := 1) kB.lt (kB.cell 1 _ rfl) (kB.cell 2 _ rfl) (kB.cell 3 _ rfl) (kB.cell 4 _ rfl) (kB.cell 5 _ rfl) (kB.cell 6 _ rfl) (kB.cell 7 _ rfl)
    have hl : RowIn X.heap.size 8 (fun (b : ByteArray × Tr (d + 1)) g off => X.cell? ⟨g, off, none⟩ = some (.string b.1) ∧ ExAt X X.heap.size (d + 1) b.2 g (off + 1)) (some ⟨gB, 0, none⟩) [(⟨#[]⟩, t)] := by
      refine .inr ⟨gB, 0, rfl, kB.lt, fun k hk => ?_⟩
      have hk0 : k = 0 := by have : k < 1 := hk; omega
      subst hk0
      exact ⟨kB.cell 0 _ rfl, hA.1⟩
    have one : ∀ {P : ByteArray × Tr (d + 1) → Prop}, P (⟨#[]⟩, t) → ∀ b ∈ [((⟨#[]⟩ : ByteArray), t)], P b := fun hP b hb => by
      have : b = (⟨#[]⟩, t) := by simpa using hb
      rw [this]; exact hP
    refine (check_c (altsB (alkM bi7)) bi7 (some ⟨g, 0, none⟩) 5 vl (some ⟨g', 0, none⟩) c' (d + 1) [(⟨#[]⟩, t)] (some ⟨gB, 0, none⟩) 1 X.heap.size X hl (bi7_row q2 q2.lt) hT (Nat.le_refl _) (by simp) (by decide) (by decide) (fun x hx => ?_) (one p1) (one p2) (by simpa using p3) (by simp; omega) (fun k hk g2 off e hg2 => ?_) (fun W m c hW hc => mbaOK bi7 m c W hc) (@decide _ (Classical.propDecidable (∃ x, [((⟨#[]⟩ : ByteArray), t)].any (fun b => freeM (d + 1) b.2 (dl vl.reverse) x) = true))) ⟨fun h => @of_decide_eq_true _ (Classical.propDecidable _) h, fun h => @decide_eq_true _ (Classical.propDecidable _) h⟩).mono ?_
    · exact p5 x hx
    · cases e
      have hk0 : k = 0 := by have : k < 1 := hk; omega
      subst hk0
      exact hA.2
    · rintro r w2 ⟨rfl, hb⟩
      exact ⟨_, rfl, varOK_chk, hb⟩
  have hS : Hid (Below w1.heap.size w1 w1.drew) := (Below.refl _ _).drew
  clear HF HX HK HP HVw hb1 HB0
  go_upto_region 3 with fail
  refine wp_region_held_drew (S := fun X : World => Hid (Below w1.heap.size w1 X) ∧ X.cell? ⟨eb, 0, none⟩ = some (.int .i64 kd) ∧ X.cell? ⟨eb, 1, none⟩ = some (.string nm) ∧ X.cell? ⟨eb, 2, none⟩ = some (.int .i64 nu) ∧ X.cell? ⟨eb, 3, none⟩ = some (.slice o3 n3 c3) ∧ X.cell? ⟨eb, 4, none⟩ = some (.slice o4 n4 c4) ∧ X.cell? ⟨eb, 5, none⟩ = some (.slice o5 n5 c5) ∧ X.cell? ⟨eb, 6, none⟩ = some (.slice o6 n6 c6) ∧ X.cell? ⟨pb, 0, none⟩ = some (.slice (some ⟨g, 0, none⟩) 5 5) ∧ X.cell? ⟨pb, 1, none⟩ = some (.slice none 0 0)) (by kernel_rfl) (HKP.out _ hS) (fun hHeld => ?_)
  generalize w1.drew = x0 at hS hHeld ⊢
  refine wpAnyH_take (i := 0) (v := .agg #[.int .i64 kd, .string nm, .int .i64 nu, .slice o3 n3 c3, .slice o4 n4 c4, .slice o5 n5 c5, .slice o6 n6 c6]) rfl (by kernel_rfl) (by kernel_rfl) (by kernel_rfl) (fun _ _ _ h => h) (Or.inl ⟨by kernel_rfl, fun X hX => ?_⟩) (by assumption) ?_
  · obtain ⟨-, q0, q1, q2, q3, q4, q5, q6, -, -⟩ := hX; go_simp
  try simp only [Act.put, List.setIfInBounds_toArray]
  refine wpAnyH_take (i := 1) (v := .agg #[.string ⟨#[]⟩, .int .i64 kd, .string nm, .int .i64 nu, .slice o3 n3 c3, .slice o4 n4 c4, .slice o5 n5 c5, .slice o6 n6 c6]) rfl (by kernel_rfl) (by kernel_rfl) (by kernel_rfl) (fun _ _ _ h => h) (Or.inl ⟨by kernel_rfl, fun X hX => ?_⟩) (by assumption) ?_
  · clear hX; go_simp
  try simp only [Act.put]
  refine wpAnyH_take (i := 3) (v := .pointer (some ⟨pb, 0, none⟩)) rfl (by kernel_rfl) (by kernel_rfl) (by kernel_rfl) (fun _ _ _ h => h) (Or.inl ⟨by kernel_rfl, fun X hX => ?_⟩) (by assumption) ?_
  · clear hX; go_simp
  try simp only [Act.put]
  refine wpAnyH_take (i := 4) (v := .slice (some ⟨g, 0, none⟩) 5 5) rfl (by kernel_rfl) (by kernel_rfl) (by kernel_rfl) (fun _ _ _ h => h) (Or.inl ⟨by kernel_rfl, fun X hX => ?_⟩) (by assumption) ?_
  · obtain ⟨-, -, -, -, -, -, -, -, q7, -⟩ := hX; go_simp
  try simp only [Act.put]
  refine wpAnyH_take (i := 5) (v := .pointer (some ⟨pb, 1, none⟩)) rfl (by kernel_rfl) (by kernel_rfl) (by kernel_rfl) (fun _ _ _ h => h) (Or.inl ⟨by kernel_rfl, fun X hX => ?_⟩) (by assumption) ?_
  · clear hX; go_simp
  try simp only [Act.put]
  refine wpAnyH_take (i := 6) (v := .slice none 0 0) rfl (by kernel_rfl) (by kernel_rfl) (by kernel_rfl) (fun _ _ _ h => h) (Or.inl ⟨by kernel_rfl, fun X hX => ?_⟩) (by assumption) ?_
  · obtain ⟨-, -, -, -, -, -, -, -, -, q8⟩ := hX; go_simp
  try simp only [Act.put]
  refine wpAnyH_take (i := 8) (v := .slice so sn sc) rfl (by kernel_rfl) (by kernel_rfl) (by kernel_rfl) (fun _ _ _ h => h) (Or.inl ⟨by kernel_rfl, fun X hX => ?_⟩) (by assumption) ?_
  · clear hX; go_simp
  try simp only [Act.put]
  refine wpAnyH_ready (rs := [2, 7]) (by kernel_rfl) (by simp) ?_
  refine AllReadyH.cons (o := _) rfl (fun K hK => ?_) (AllReadyH.cons (o := _) rfl (fun K hK => ?_) AllReadyH.nil)
  · go_simp
    have kB : Blk (x0.alloc (.cells #[.string ⟨#[]⟩, .int .i64 kd, .string nm, .int .i64 nu, .slice o3 n3 c3, .slice o4 n4 c4, .slice o5 n5 c5, .slice o6 n6 c6] 56)) x0.heap.size #[.string ⟨#[]⟩, .int .i64 kd, .string nm, .int .i64 nu, .slice o3 n3 c3, .slice o4 n4 c4, .slice o5 n5 c5, .slice o6 n6 c6] 56 := Blk.new _ _ _
    have hS' : Hid (Below w1.heap.size w1 (x0.alloc (.cells #[.string ⟨#[]⟩, .int .i64 kd, .string nm, .int .i64 nu, .slice o3 n3 c3, .slice o4 n4 c4, .slice o5 n5 c5, .slice o6 n6 c6] 56))) := up2n hS (below1 _ _)
    refine hK.out _ _ (HKP.out _ hS') (fun hHeld' => ?_)
    clear hK K hS hHeld
    generalize x0.alloc (.cells #[.string ⟨#[]⟩, .int .i64 kd, .string nm, .int .i64 nu, .slice o3 n3 c3, .slice o4 n4 c4, .slice o5 n5 c5, .slice o6 n6 c6] 56) = x1 at kB hS' hHeld' ⊢
    generalize x0.heap.size = gB at kB ⊢
    have hS := hS'; clear hS'; have hHeld := hHeld'; clear hHeld'
    try simp only [Act.put, List.setIfInBounds_toArray, List.set_cons_zero, List.set_cons_succ]
    refine wpAnyH_ready (rs := [7]) (by kernel_rfl) (by simp) ?_
    refine AllReadyH.cons (o := _) rfl (fun K hK => ?_) AllReadyH.nil
    go_simp
    go_at_call 36
    refine (boundBy0_c x1).mono ?_
    rintro e x2 ⟨rfl, hn, hb⟩
    have hbase : w1.heap.size ≤ x1.heap.size := hS.out.size
    have hne : gB ≠ x1.heap.size := Nat.ne_of_lt kB.lt
    replace kB := kB.below hb
    have hS' : Hid (Below w1.heap.size w1 x2) := up2n hS hb
    refine hK.out _ _ (HKP.out _ hS') (fun hHeld' => ?_)
    clear hK K hb hS hHeld
    generalize x1.heap.size = gb at hn hbase hne ⊢
    have hS := hS'; clear hS'; have hHeld := hHeld'; clear hHeld'
    try simp only [Act.put, List.setIfInBounds_toArray, List.set_cons_zero, List.set_cons_succ]
    refine wpAnyH_ready (rs := [9]) (by kernel_rfl) (by simp) ?_
    refine AllReadyH.cons (o := _) rfl (fun K hK => ?_) AllReadyH.nil
    rw [if_pos (by kernel_rfl)]
    refine app_vars0 (.tmp 16) (.tmp 17) rfl w1.heap.size gb hn hbase (by rfl) (.slice so sn sc) vl (by rfl) (HVs.out _ hS).1 (HVs.out _ hS).2 (fun g' c' x3 hb' hT hgr => ?_)
    have hS' : Hid (Below w1.heap.size w1 x3) := hS.out.grown hgr hS.out.size (fun k e => by cases e; exact hbase)
    have kB2 : Blk x3 gB #[.string ⟨#[]⟩, .int .i64 kd, .string nm, .int .i64 nu, .slice o3 n3 c3, .slice o4 n4 c4, .slice o5 n5 c5, .slice o6 n6 c6] 56 := by unfold Blk; rw [hgr.block gB kB.lt (fun e => hne (Option.some.inj e))]; exact kB
    clear kB hne; have kB := kB2; clear kB2
    refine hK.out _ _ (HKP.out _ hS') (fun hHeld' => ?_)
    clear hK K hS hHeld hgr hn hbase hb'
    have hS := hS'; clear hS'; have hHeld := hHeld'; clear hHeld'
    try simp only [Act.put, List.setIfInBounds_toArray]
    refine wpAnyH_ready (rs := [10]) (by kernel_rfl) (by simp) ?_
    refine AllReadyH.cons (o := _) rfl (fun K hK => ?_) AllReadyH.nil
    go_simp
    go_at_call 35
    refine (HCk.out x3 hS gB g' c' kB hT).mono ?_
    rintro e x4 ⟨z, rfl, hz, hb⟩
    have hS' : Hid (Below w1.heap.size w1 x4) := up2n hS hb
    have HZ : Hid (z ≠ 2 → VarOK (d + 1) t) := hz
    refine hK.out _ _ (HKP.out _ hS') (fun hHeld' => ?_)
    clear hK K hb hS hHeld hz hT kB
    have hS := hS'; clear hS'; have hHeld := hHeld'; clear hHeld'
    try simp only [Act.put, List.setIfInBounds_toArray, List.set_cons_zero, List.set_cons_succ]
    refine wpAnyH_take (i := 11) (v := .int .i64 z) rfl (by kernel_rfl) (by kernel_rfl) (by kernel_rfl) (fun _ _ _ h => h) (Or.inl ⟨by kernel_rfl, fun X hX => ?_⟩) (by assumption) ?_
    · clear hX; go_simp
    simp only [Act.put, List.getElem_toArray, List.getElem_cons_succ, List.getElem_cons_zero, List.setIfInBounds_toArray, List.set_cons_zero, List.set_cons_succ]
    refine wpAnyH_done (by kernel_rfl) ?_ _
    go_wp2
    go_ret
    exact ⟨z, rfl, HZ.out, H1.out.trans (hS.out.mono H1.out.size)⟩
  · go_simp
    go_at_call 36
    refine (boundBy0_c x0).mono ?_
    rintro e x5 ⟨rfl, hn, hb⟩
    have hbase : w1.heap.size ≤ x0.heap.size := hS.out.size
    have hS' : Hid (Below w1.heap.size w1 x5) := up2n hS hb
    refine hK.out _ _ (HKP.out _ hS') (fun hHeld' => ?_)
    clear hK K hb hS hHeld
    generalize x0.heap.size = gb at hn hbase ⊢
    have hS := hS'; clear hS'; have hHeld := hHeld'; clear hHeld'
    try simp only [Act.put, List.setIfInBounds_toArray, List.set_cons_zero, List.set_cons_succ]
    refine wpAnyH_ready (rs := [2, 9]) (by kernel_rfl) (by simp) ?_
    refine AllReadyH.cons (o := _) rfl (fun K hK => ?_) (AllReadyH.cons (o := _) rfl (fun K hK => ?_) AllReadyH.nil)
    · go_simp
      have kB : Blk (x5.alloc (.cells #[.string ⟨#[]⟩, .int .i64 kd, .string nm, .int .i64 nu, .slice o3 n3 c3, .slice o4 n4 c4, .slice o5 n5 c5, .slice o6 n6 c6] 56)) x5.heap.size #[.string ⟨#[]⟩, .int .i64 kd, .string nm, .int .i64 nu, .slice o3 n3 c3, .slice o4 n4 c4, .slice o5 n5 c5, .slice o6 n6 c6] 56 := Blk.new _ _ _
      have hS' : Hid (Below w1.heap.size w1 (x5.alloc (.cells #[.string ⟨#[]⟩, .int .i64 kd, .string nm, .int .i64 nu, .slice o3 n3 c3, .slice o4 n4 c4, .slice o5 n5 c5, .slice o6 n6 c6] 56))) := up2n hS (below1 _ _)
      have hne : x5.heap.size ≠ gb := Nat.ne_of_gt hn.lt
      replace hn := hn.below (below1 x5 (.cells #[.string ⟨#[]⟩, .int .i64 kd, .string nm, .int .i64 nu, .slice o3 n3 c3, .slice o4 n4 c4, .slice o5 n5 c5, .slice o6 n6 c6] 56))
      refine hK.out _ _ (HKP.out _ hS') (fun hHeld' => ?_)
      clear hK K hS hHeld
      generalize x5.alloc (.cells #[.string ⟨#[]⟩, .int .i64 kd, .string nm, .int .i64 nu, .slice o3 n3 c3, .slice o4 n4 c4, .slice o5 n5 c5, .slice o6 n6 c6] 56) = x6 at hn kB hS' hHeld' ⊢
      generalize x5.heap.size = gB at kB hne ⊢
      have hS := hS'; clear hS'; have hHeld := hHeld'; clear hHeld'
      try simp only [Act.put, List.setIfInBounds_toArray, List.set_cons_zero, List.set_cons_succ]
      refine wpAnyH_ready (rs := [9]) (by kernel_rfl) (by simp) ?_
      refine AllReadyH.cons (o := _) rfl (fun K hK => ?_) AllReadyH.nil
      rw [if_pos (by kernel_rfl)]
      refine app_vars0 (.tmp 16) (.tmp 17) rfl w1.heap.size gb hn hbase (by rfl) (.slice so sn sc) vl (by rfl) (HVs.out _ hS).1 (HVs.out _ hS).2 (fun g' c' x7 hb' hT hgr => ?_)
      have hS' : Hid (Below w1.heap.size w1 x7) := hS.out.grown hgr hS.out.size (fun k e => by cases e; exact hbase)
      have kB2 : Blk x7 gB #[.string ⟨#[]⟩, .int .i64 kd, .string nm, .int .i64 nu, .slice o3 n3 c3, .slice o4 n4 c4, .slice o5 n5 c5, .slice o6 n6 c6] 56 := by unfold Blk; rw [hgr.block gB kB.lt (fun e => hne (Option.some.inj e))]; exact kB
      clear kB hne; have kB := kB2; clear kB2
      refine hK.out _ _ (HKP.out _ hS') (fun hHeld' => ?_)
      clear hK K hS hHeld hgr hn hbase hb'
      have hS := hS'; clear hS'; have hHeld := hHeld'; clear hHeld'
      try simp only [Act.put, List.setIfInBounds_toArray]
      refine wpAnyH_ready (rs := [10]) (by kernel_rfl) (by simp) ?_
      refine AllReadyH.cons (o := _) rfl (fun K hK => ?_) AllReadyH.nil
      go_simp
      go_at_call 35
      refine (HCk.out x7 hS gB g' c' kB hT).mono ?_
      rintro e x8 ⟨z, rfl, hz, hb⟩
      have hS' : Hid (Below w1.heap.size w1 x8) := up2n hS hb
      have HZ : Hid (z ≠ 2 → VarOK (d + 1) t) := hz
      refine hK.out _ _ (HKP.out _ hS') (fun hHeld' => ?_)
      clear hK K hb hS hHeld hz hT kB
      have hS := hS'; clear hS'; have hHeld := hHeld'; clear hHeld'
      try simp only [Act.put, List.setIfInBounds_toArray, List.set_cons_zero, List.set_cons_succ]
      refine wpAnyH_take (i := 11) (v := .int .i64 z) rfl (by kernel_rfl) (by kernel_rfl) (by kernel_rfl) (fun _ _ _ h => h) (Or.inl ⟨by kernel_rfl, fun X hX => ?_⟩) (by assumption) ?_
      · clear hX; go_simp
      simp only [Act.put, List.getElem_toArray, List.getElem_cons_succ, List.getElem_cons_zero, List.setIfInBounds_toArray, List.set_cons_zero, List.set_cons_succ]
      refine wpAnyH_done (by kernel_rfl) ?_ _
      go_wp2
      go_ret
      exact ⟨z, rfl, HZ.out, H1.out.trans (hS.out.mono H1.out.size)⟩
    · rw [if_pos (by kernel_rfl)]
      refine app_vars0 (.tmp 16) (.tmp 17) rfl w1.heap.size gb hn hbase (by rfl) (.slice so sn sc) vl (by rfl) (HVs.out _ hS).1 (HVs.out _ hS).2 (fun g' c' x9 hb' hT hgr => ?_)
      have hS' : Hid (Below w1.heap.size w1 x9) := hS.out.grown hgr hS.out.size (fun k e => by cases e; exact hbase)
      refine hK.out _ _ (HKP.out _ hS') (fun hHeld' => ?_)
      clear hK K hS hHeld hgr hn hbase hb'
      have hS := hS'; clear hS'; have hHeld := hHeld'; clear hHeld'
      try simp only [Act.put, List.setIfInBounds_toArray]
      refine wpAnyH_ready (rs := [2]) (by kernel_rfl) (by simp) ?_
      refine AllReadyH.cons (o := _) rfl (fun K hK => ?_) AllReadyH.nil
      go_simp
      have kB : Blk (x9.alloc (.cells #[.string ⟨#[]⟩, .int .i64 kd, .string nm, .int .i64 nu, .slice o3 n3 c3, .slice o4 n4 c4, .slice o5 n5 c5, .slice o6 n6 c6] 56)) x9.heap.size #[.string ⟨#[]⟩, .int .i64 kd, .string nm, .int .i64 nu, .slice o3 n3 c3, .slice o4 n4 c4, .slice o5 n5 c5, .slice o6 n6 c6] 56 := Blk.new _ _ _
      have hS' : Hid (Below w1.heap.size w1 (x9.alloc (.cells #[.string ⟨#[]⟩, .int .i64 kd, .string nm, .int .i64 nu, .slice o3 n3 c3, .slice o4 n4 c4, .slice o5 n5 c5, .slice o6 n6 c6] 56))) := up2n hS (below1 _ _)
      replace hT := hT.grow (below1 x9 (.cells #[.string ⟨#[]⟩, .int .i64 kd, .string nm, .int .i64 nu, .slice o3 n3 c3, .slice o4 n4 c4, .slice o5 n5 c5, .slice o6 n6 c6] 56))
      refine hK.out _ _ (HKP.out _ hS') (fun hHeld' => ?_)
      clear hK K hS hHeld
      generalize x9.alloc (.cells #[.string ⟨#[]⟩, .int .i64 kd, .string nm, .int .i64 nu, .slice o3 n3 c3, .slice o4 n4 c4, .slice o5 n5 c5, .slice o6 n6 c6] 56) = x10 at hT kB hS' hHeld' ⊢
      generalize x9.heap.size = gB at kB ⊢
      have hS := hS'; clear hS'; have hHeld := hHeld'; clear hHeld'
      try simp only [Act.put, List.setIfInBounds_toArray, List.set_cons_zero, List.set_cons_succ]
      refine wpAnyH_ready (rs := [10]) (by kernel_rfl) (by simp) ?_
      refine AllReadyH.cons (o := _) rfl (fun K hK => ?_) AllReadyH.nil
      go_simp
      go_at_call 35
      refine (HCk.out x10 hS gB g' c' kB hT).mono ?_
      rintro e x11 ⟨z, rfl, hz, hb⟩
      have hS' : Hid (Below w1.heap.size w1 x11) := up2n hS hb
      have HZ : Hid (z ≠ 2 → VarOK (d + 1) t) := hz
      refine hK.out _ _ (HKP.out _ hS') (fun hHeld' => ?_)
      clear hK K hb hS hHeld hz hT kB
      have hS := hS'; clear hS'; have hHeld := hHeld'; clear hHeld'
      try simp only [Act.put, List.setIfInBounds_toArray, List.set_cons_zero, List.set_cons_succ]
      refine wpAnyH_take (i := 11) (v := .int .i64 z) rfl (by kernel_rfl) (by kernel_rfl) (by kernel_rfl) (fun _ _ _ h => h) (Or.inl ⟨by kernel_rfl, fun X hX => ?_⟩) (by assumption) ?_
      · clear hX; go_simp
      simp only [Act.put, List.getElem_toArray, List.getElem_cons_succ, List.getElem_cons_zero, List.setIfInBounds_toArray, List.set_cons_zero, List.set_cons_succ]
      refine wpAnyH_done (by kernel_rfl) ?_ _
      go_wp2
      go_ret
      exact ⟨z, rfl, HZ.out, H1.out.trans (hS.out.mono H1.out.size)⟩
end Go.Proofs.YtanankagomjalaaDoor
