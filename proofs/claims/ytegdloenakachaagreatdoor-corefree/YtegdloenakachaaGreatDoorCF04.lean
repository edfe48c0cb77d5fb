/-
  The kit's SmallExpr, by a contract.
  core.CheckExpr, in the scope of a program of one binding and of some names: it answers; where the answer is not ErrArg, variables have their names alone.
  core.Subst, where the name is not free: the expression itself, in memory of its own.
-/
import Derived.Test.YtegdloenakachaaGreatDoorCF03
import Derived.Test.YtegdloenakachaaGreatDoorCF02
import Derived.Test.YtegdloenakachaaGreatDoorCN31
import Derived.Deep.RegionHeld3
import Derived.Test.YtegdloenakachaaGreatDoorCN29
namespace Go.Proofs.YtegdloenakachaaGreatDoor
open Go.RowKit Go.Shelf Go.Maps
set_option linter.unusedVariables false
theorem cnt_all (most : Int) (hm : 0 ≤ most ∧ most ≤ 1000000) : ∀ D : Nat, D ≤ 1000 → CntOK most D
  | 0, _ => cnt_zero most hm
  | D + 1, h => cnt_succ most hm D (by omega) (cnt_all most hm D (by omega))
set_option maxRecDepth 100000 in
set_option maxHeartbeats 4000000 in
/-- The kit's SmallExpr: what is small is of a small depth, and has few expressions and names. -/
theorem smallExpr_c (most : Int) (hm : 0 ≤ most ∧ most ≤ 1000000) (D : Nat) (hD : D ≤ 1000) (d : Nat) (t : Tr (d + 1)) (v : Value) (w : World) (hv : ExVal w w.heap.size d t v) (hw : WfT (d + 1) t) :
    Calls Tryz.prog 21 #[v, .int .i64 most, .int .i64 D] w fun r W' => ∃ b : Bool, r = .returned (.bool b) ∧ (b = true → depLe (d + 1) t D ∧ (cntM (d + 1) t : Int) ≤ most) ∧ Below w.heap.size w W' := by
  obtain ⟨o3, c3, o4, c4, o5, c5, o6, c6, e, -⟩ := id hv
  obtain ⟨V, hV⟩ : ∃ V, V = w.alloc (.cells #[.int .i64 (TrN.kind t), .string (TrN.name t), .int .i64 (TrN.num t), .slice o3 (TrN.params t).length c3, .slice o4 (TrN.binds t).length c4, .slice o5 (TrN.args t).length c5, .slice o6 (TrN.alts t).length c6] 31) := ⟨_, rfl⟩
  have hb : Below w.heap.size w V := by rw [hV]; exact below1 w _
  have HC : Hid (∀ W, Below w.heap.size w W → Calls Tryz.prog 45 #[v, .int .i64 most, .int .i64 D] W fun r W' => CntP most D (d + 1) t W r W') := fun W hW => cnt_all most hm D hD (d + 1) t v W (ExVal.grow hv hW) hw
  have HB : Hid (Below w.heap.size w V ∧ ∀ a, Below w.heap.size w (w.alloc a)) := ⟨hb, fun a => below1 w a⟩
  clear hv hw hb hV
  rw [e] at HC ⊢
  clear e
  generalize TrN.kind t = kd at *
  generalize TrN.name t = nm at *
  generalize TrN.num t = nu at *
  generalize (TrN.params t).length = n3 at *
  generalize (TrN.binds t).length = n4 at *
  generalize (TrN.args t).length = n5 at *
  generalize (TrN.alts t).length = n6 at *
  clear HB V
  have HB : Hid (∀ a, Below w.heap.size w (w.alloc a)) := fun a => below1 w a
  go_enter Tryz.func21, Tryz.ntmps21
  go_wp2_with (go_at_call 45; fail)
  refine (HC.out _ (HB.out _)).mono ?_
  rintro r w2 ⟨x, rfl, -, h2, hb2⟩
  have HX : Hid (x ≤ most → depLe (d + 1) t D ∧ (cntM (d + 1) t : Int) = x) := h2
  have HF : Hid (Below w.heap.size w w2) := (HB.out _).trans (hb2.mono (HB.out _).size)
  clear h2 hb2 HC HB
  by_cases hx : x ≤ most
  · have hd : decide (x ≤ most) = true := decide_eq_true hx
    go_wp2
    go_ret
    exact ⟨_, rfl, fun _ => by have := HX.out hx; exact ⟨this.1, by omega⟩, HF.out⟩
  · have hd : decide (x ≤ most) = false := decide_eq_false hx
    go_wp2
    go_ret
    exact ⟨_, rfl, fun h => by simp at h, HF.out⟩
end Go.Proofs.YtegdloenakachaaGreatDoor

namespace Go.Proofs.YtegdloenakachaaGreatDoor
open Go.RowKit Go.Shelf Go.Maps Go.Sort
set_option linter.unusedVariables false

theorem TxIn.grow {W W' : World} {o : Option Addr} {l : List ByteArray} (h : TxIn W W.heap.size o l) (hb : Below W.heap.size W W') : TxIn W' W'.heap.size o l := (h.same (fun g off hg => hb.cell (p := ⟨g, off, none⟩) hg)).mono hb.size
theorem ExVal2.grow {W W' : World} {d : Nat} {t : Tr (d + 1)} {v : Value} (h : ExVal2 W d t v) (hb : Below W.heap.size W W') : ExVal2 W' d t v := by
  obtain ⟨o3, c3, o4, c4, o5, c5, o6, c6, e, k3, k4, k5, k6, hle⟩ := h
  have hc := fun (g off : Nat) (hg : g < W.heap.size) => hb.cell (p := ⟨g, off, none⟩) hg
  have hE : ∀ (x : Tr d) (g off : Nat), g < W.heap.size → ExAt W W.heap.size d x g off ∧ CpAt W W.heap.size d x g off → ExAt W' W'.heap.size d x g off ∧ CpAt W' W'.heap.size d x g off := fun x g off hg h => by
    have h1 := ExAt.same hc d x g off h.1
    have h2 := CpAt.same hc d x g off hg h.2
    exact ⟨ExAt.up hb.size d x g off h1, CpAt.up d x g off h1 h2⟩
  refine ⟨o3, c3, o4, c4, o5, c5, o6, c6, e, k3.grow hb, k4.up hb.size ?_, k5.up hb.size ?_, k6.up hb.size ?_, hle⟩
  · rintro x g off hg ⟨e1, e2, e3⟩
    exact ⟨(hc _ _ hg).trans e1, hE _ _ _ hg ⟨e2, e3⟩⟩
  · rintro x g off hg ⟨e2, e3⟩
    exact hE _ _ _ hg ⟨e2, e3⟩
  · rintro x g off hg ⟨e1, e2, e3, ⟨o, c, e4, e5⟩, e6, e7⟩
    exact ⟨(hc _ _ hg).trans e1, (hc _ _ hg).trans e2, (hc _ _ hg).trans e3, ⟨o, c, (hc _ _ hg).trans e4, e5.grow hb⟩, hE _ _ _ hg ⟨e6, e7⟩⟩
def CkP (d : Nat) (t : Tr d) (w : World) (r : Ending) (w' : World) : Prop := ∃ z : Int, r = .returned (.int .i64 z) ∧ (z ≠ 2 → VarOK d t) ∧ Below w.heap.size w w'
set_option maxRecDepth 100000 in
set_option maxHeartbeats 8000000 in
theorem checkExpr_c (d : Nat) (t : Tr (d + 1)) (v : Value) (g M : Nat) (vs : Value) (vl : List ByteArray) (w : World) (hv : ExVal2 w d t v) (hFit : Fit (d + 1) t) (hN : NmOK (d + 1) t) (hd : d + 1 ≤ 4096) (hc : (mainB :: vl).length + 2 * costM (d + 1) t ≤ 2000000) (hs : sizeM (d + 1) t ≤ 1048576)
    (hB : Blk w g bi7V 59) (hM : Blk w M #[.string mainB, .int .i64 2, .string ⟨#[]⟩, .int .i64 1, .slice none 0 0, .slice none 0 0, .slice none 0 0, .slice none 0 0] 36) (hV : VarsAt w vs vl) (hvz : ∀ x ∈ vl, x.size ≤ maxLen) (hvl : vl.length ≤ 1000000) :
    Calls Tryz.prog 26 #[.agg #[.slice (some ⟨g, 0, none⟩) 5 5, .slice (some ⟨M, 0, none⟩) 1 1], v, vs] w fun r w' => CkP (d + 1) t w r w' := by
  obtain ⟨o3, c3, o4, c4, o5, c5, o6, c6, rfl, -⟩ := id hv
  obtain ⟨n3, hn3⟩ : ∃ n, (TrN.params t).length = n := ⟨_, rfl⟩
  obtain ⟨n4, hn4⟩ : ∃ n, (TrN.binds t).length = n := ⟨_, rfl⟩
  obtain ⟨n5, hn5⟩ : ∃ n, (TrN.args t).length = n := ⟨_, rfl⟩
  obtain ⟨n6, hn6⟩ : ∃ n, (TrN.alts t).length = n := ⟨_, rfl⟩
  obtain ⟨nm, hnm⟩ : ∃ n, TrN.name t = n := ⟨_, rfl⟩
  obtain ⟨kd, hkd⟩ : ∃ n, TrN.kind t = n := ⟨_, rfl⟩
  obtain ⟨nu, hnu⟩ : ∃ n, TrN.num t = n := ⟨_, rfl⟩
  rw [hn3, hn4, hn5, hn6, hnm, hkd, hnu] at hv ⊢
  obtain ⟨V, hVw⟩ : ∃ V, (w.alloc (.cells #[.slice (some ⟨g, 0, none⟩) 5 5, .slice (some ⟨M, 0, none⟩) 1 1] 47)).alloc (.cells #[.int .i64 kd, .string nm, .int .i64 nu, .slice o3 n3 c3, .slice o4 n4 c4, .slice o5 n5 c5, .slice o6 n6 c6] 31) = V := ⟨_, rfl⟩
  have e1 : (w.alloc (.cells #[.slice (some ⟨g, 0, none⟩) 5 5, .slice (some ⟨M, 0, none⟩) 1 1] 47)).heap.size = w.heap.size + 1 := Array.size_push _
  have b1 := below1 w (.cells #[.slice (some ⟨g, 0, none⟩) 5 5, .slice (some ⟨M, 0, none⟩) 1 1] 47)
  have b2 := below1 (w.alloc (.cells #[.slice (some ⟨g, 0, none⟩) 5 5, .slice (some ⟨M, 0, none⟩) 1 1] 47)) (.cells #[.int .i64 kd, .string nm, .int .i64 nu, .slice o3 n3 c3, .slice o4 n4 c4, .slice o5 n5 c5, .slice o6 n6 c6] 31)
  have kp := (Blk.new w #[.slice (some ⟨g, 0, none⟩) 5 5, .slice (some ⟨M, 0, none⟩) 1 1] 47).below b2
  have ke := Blk.new (w.alloc (.cells #[.slice (some ⟨g, 0, none⟩) 5 5, .slice (some ⟨M, 0, none⟩) 1 1] 47)) #[.int .i64 kd, .string nm, .int .i64 nu, .slice o3 n3 c3, .slice o4 n4 c4, .slice o5 n5 c5, .slice o6 n6 c6] 31
  rw [e1] at ke
  rw [hVw] at b2 kp ke
  have bV : Below w.heap.size w V := b1.trans (b2.mono b1.size)
  obtain ⟨pb, hpb⟩ : ∃ n, w.heap.size = n := ⟨_, rfl⟩
  obtain ⟨eb, heb⟩ : ∃ n, w.heap.size + 1 = n := ⟨_, rfl⟩
  have HVw : Hid ((w.alloc (.cells #[.slice (some ⟨g, 0, none⟩) 5 5, .slice (some ⟨M, 0, none⟩) 1 1] 47)).alloc (.cells #[.int .i64 kd, .string nm, .int .i64 nu, .slice o3 n3 c3, .slice o4 n4 c4, .slice o5 n5 c5, .slice o6 n6 c6] 31) = V ∧ w.heap.size = pb ∧ w.heap.size + 1 = eb) := ⟨hVw, hpb, heb⟩
  rw [heb] at ke
  rw [hpb] at kp
  have HB0 : Hid (Below w.heap.size w V) := bV
  have HK : Hid (Blk V pb #[.slice (some ⟨g, 0, none⟩) 5 5, .slice (some ⟨M, 0, none⟩) 1 1] 47 ∧ Blk V eb #[.int .i64 kd, .string nm, .int .i64 nu, .slice o3 n3 c3, .slice o4 n4 c4, .slice o5 n5 c5, .slice o6 n6 c6] 31) := ⟨kp, ke⟩
  have hE0 : ExAt V V.heap.size (d + 1) t eb 0 := by
    have := ((hv.grow bV).at (g := eb) (off := 0) ke.lt (by rw [hkd] at *; exact ke.cell 0 _ rfl) (ke.cell 1 _ rfl) (ke.cell 2 _ rfl) (ke.cell 3 _ rfl) (ke.cell 4 _ rfl) (ke.cell 5 _ rfl) (ke.cell 6 _ rfl)).1
    exact this
  have HF : Hid (Calls Tryz.prog 30 #[.pointer (some ⟨eb, 0, none⟩)] V fun e w' => e = .returned (.bool true) ∧ Below V.heap.size V w') := fits_c (d + 1) t V.heap.size eb 0 V hE0 (Nat.le_refl _) hs hd
  have HX : Hid (∀ X, Below V.heap.size V X → ExVal2 X d t (.agg #[.int .i64 kd, .string nm, .int .i64 nu, .slice o3 n3 c3, .slice o4 n4 c4, .slice o5 n5 c5, .slice o6 n6 c6]) ∧ Blk X g bi7V 59 ∧ Blk X M #[.string mainB, .int .i64 2, .string ⟨#[]⟩, .int .i64 1, .slice none 0 0, .slice none 0 0, .slice none 0 0, .slice none 0 0] 36 ∧ VarsAt X vs vl) := fun X h => by
    have hb := bV.trans (h.mono bV.size)
    exact ⟨hv.grow hb, hB.below hb, hM.below hb, hV.below hb⟩
  have HP : Hid (Fit (d + 1) t ∧ NmOK (d + 1) t ∧ (mainB :: vl).length + 2 * costM (d + 1) t ≤ 2000000 ∧ sizeM (d + 1) t ≤ 1048576 ∧ (∀ x ∈ vl, x.size ≤ maxLen) ∧ vl.length ≤ 1000000) := ⟨hFit, hN, hc, hs, hvz, hvl⟩
  have hvs : ∃ so sn sc, vs = .slice so sn sc := by
    obtain ⟨o, c, e, -⟩ := hV
    exact ⟨_, _, _, e⟩
  obtain ⟨so, sn, sc, rfl⟩ := hvs
  clear hv hFit hN hc hs hB hM hV hvz hvl kp ke hE0 b1 b2 bV e1 hn3 hn4 hn5 hn6 hnm hkd hnu hVw hpb heb hd
  go_enter Tryz.func26, Tryz.ntmps26
  go_wp2_with (go_at_call 30; fail)
  rw [HVw.out.1, HVw.out.2.2, HVw.out.2.1]
  refine HF.out.mono ?_
  rintro e w1 ⟨rfl, hb1⟩
  have H1 : Hid (Below w.heap.size w w1) := HB0.out.trans (hb1.mono HB0.out.size)
  have HKP : Hid (∀ X, Hid (Below w1.heap.size w1 X) → Hid (Below w1.heap.size w1 X) ∧ X.cell? ⟨eb, 0, none⟩ = some (.int .i64 kd) ∧ X.cell? ⟨eb, 1, none⟩ = some (.string nm) ∧ X.cell? ⟨eb, 2, none⟩ = some (.int .i64 nu) ∧ X.cell? ⟨eb, 3, none⟩ = some (.slice o3 n3 c3) ∧ X.cell? ⟨eb, 4, none⟩ = some (.slice o4 n4 c4) ∧ X.cell? ⟨eb, 5, none⟩ = some (.slice o5 n5 c5) ∧ X.cell? ⟨eb, 6, none⟩ = some (.slice o6 n6 c6) ∧ X.cell? ⟨pb, 0, none⟩ = some (.slice (some ⟨g, 0, none⟩) 5 5) ∧ X.cell? ⟨pb, 1, none⟩ = some (.slice (some ⟨M, 0, none⟩) 1 1)) := fun X h => by
    have hb := hb1.trans (h.out.mono hb1.size)
    have k1 := HK.out.1.below hb
    have k2 := HK.out.2.below hb
    exact ⟨h, k2.cell 0 _ rfl, k2.cell 1 _ rfl, k2.cell 2 _ rfl, k2.cell 3 _ rfl, k2.cell 4 _ rfl, k2.cell 5 _ rfl, k2.cell 6 _ rfl, k1.cell 0 _ rfl, k1.cell 1 _ rfl⟩
  have HMB : Hid (∀ X, Hid (Below w1.heap.size w1 X) → Blk X M #[.string mainB, .int .i64 2, .string ⟨#[]⟩, .int .i64 1, .slice none 0 0, .slice none 0 0, .slice none 0 0, .slice none 0 0] 36 ∧ ExAt X X.heap.size 1 (numT 1) M 1 ∧ Blk X g bi7V 59) := fun X h => by
    obtain ⟨q1, q2, q3, q4⟩ := HX.out X (hb1.trans (h.out.mono hb1.size))
    exact ⟨q3, leaf_num 1 q3.lt (q3.cell 1 _ rfl) (q3.cell 2 _ rfl) (q3.cell 3 _ rfl) (q3.cell 4 _ rfl) (q3.cell 5 _ rfl) (q3.cell 6 _ rfl) (q3.cell 7 _ rfl), q2⟩
  have HVs : Hid (∀ X, Hid (Below w1.heap.size w1 X) → VarsAt X (.slice so sn sc) vl ∧ vl.length ≤ 1000000) := fun X h => ⟨(HX.out X (hb1.trans (h.out.mono hb1.size))).2.2.2, HP.out.2.2.2.2.2⟩
  have HCk : Hid (∀ X, Hid (Below w1.heap.size w1 X) → ∀ gB g' c', Blk X gB #[.string ⟨#[]⟩, .int .i64 kd, .string nm, .int .i64 nu, .slice o3 n3 c3, .slice o4 n4 c4, .slice o5 n5 c5, .slice o6 n6 c6] 36 → TxIn X X.heap.size (some ⟨g', 0, none⟩) (mainB :: vl) → Calls Tryz.prog 43 #[.slice (some ⟨gB, 0, none⟩) 1 1, .slice (some ⟨g, 0, none⟩) 5 5, .slice (some ⟨g', 0, none⟩) (mainB :: vl).length c'] X fun r w2 => ∃ z : Int, r = .returned (.int .i64 z) ∧ (z ≠ 2 → VarOK (d + 1) t) ∧ Below X.heap.size X w2) := fun X h gB g' c' kB hT => by
    obtain ⟨q1, q2, q3, q4⟩ := HX.out X (hb1.trans (h.out.mono hb1.size))
    obtain ⟨p1, p2, p3, p4, p5, p6⟩ := HP.out
    have hA := q1.at (g := gB) (off := 1) kB.lt (kB.cell 1 _ rfl) (kB.cell 2 _ rfl) (kB.cell 3 _ rfl) (kB.cell 4 _ rfl) (kB.cell 5 _ rfl) (kB.cell 6 _ rfl) (kB.cell 7 _ rfl)
    have hl : RowIn X.heap.size 8 (fun (b : ByteArray × Tr (d + 1)) g off => X.cell? ⟨g, off, none⟩ = some (.string b.1) ∧ ExAt X X.heap.size (d + 1) b.2 g (off + 1)) (some ⟨gB, 0, none⟩) [(⟨#[]⟩, t)] := by
      refine .inr ⟨gB, 0, rfl, kB.lt, fun k hk => ?_⟩
      have hk0 : k = 0 := by have : k < 1 := hk; omega
      subst hk0
      exact ⟨kB.cell 0 _ rfl, hA.1⟩
    have one : ∀ {P : ByteArray × Tr (d + 1) → Prop}, P (⟨#[]⟩, t) → ∀ b ∈ [((⟨#[]⟩ : ByteArray), t)], P b := fun hP b hb => by
      have : b = (⟨#[]⟩, t) := by simpa using hb
      rw [this]; exact hP
    refine (check_c (altsB (alkM bi7)) bi7 (some ⟨g, 0, none⟩) 5 (mainB :: vl) (some ⟨g', 0, none⟩) c' (d + 1) [(⟨#[]⟩, t)] (some ⟨gB, 0, none⟩) 1 X.heap.size X hl (bi7_row q2 q2.lt) hT (Nat.le_refl _) (by simp) (by decide) (by decide) (fun x hx => ?_) (one p1) (one p2) (by simpa using p3) (by simp; omega) (fun k hk g2 off e hg2 => ?_) (fun W m c hW hc => mbaOK bi7 m c W hc) (@decide _ (Classical.propDecidable (∃ x, [((⟨#[]⟩ : ByteArray), t)].any (fun b => freeM (d + 1) b.2 (dl (mainB :: vl).reverse) x) = true))) ⟨fun h => @of_decide_eq_true _ (Classical.propDecidable _) h, fun h => @decide_eq_true _ (Classical.propDecidable _) h⟩).mono ?_
    · rcases List.mem_cons.1 hx with rfl | hx
      · unfold maxLen; decide
      · exact p5 x hx
    · cases e
      have hk0 : k = 0 := by have : k < 1 := hk; omega
      subst hk0
      exact hA.2
    · rintro r w2 ⟨rfl, hb⟩
      exact ⟨_, rfl, varOK_chk, hb⟩
  have hS : Hid (Below w1.heap.size w1 w1.drew) := (Below.refl _ _).drew
  clear HF HX HK HP HVw hb1 HB0
  go_upto_region 3 with fail
  refine wp_region_held_drew (S := fun X : World => Hid (Below w1.heap.size w1 X) ∧ X.cell? ⟨eb, 0, none⟩ = some (.int .i64 kd) ∧ X.cell? ⟨eb, 1, none⟩ = some (.string nm) ∧ X.cell? ⟨eb, 2, none⟩ = some (.int .i64 nu) ∧ X.cell? ⟨eb, 3, none⟩ = some (.slice o3 n3 c3) ∧ X.cell? ⟨eb, 4, none⟩ = some (.slice o4 n4 c4) ∧ X.cell? ⟨eb, 5, none⟩ = some (.slice o5 n5 c5) ∧ X.cell? ⟨eb, 6, none⟩ = some (.slice o6 n6 c6) ∧ X.cell? ⟨pb, 0, none⟩ = some (.slice (some ⟨g, 0, none⟩) 5 5) ∧ X.cell? ⟨pb, 1, none⟩ = some (.slice (some ⟨M, 0, none⟩) 1 1)) (by kernel_rfl) (HKP.out _ hS) (fun hHeld => ?_)
  generalize w1.drew = x0 at hS hHeld ⊢
  refine wpAnyH_take (i := 0) (v := .agg #[.int .i64 kd, .string nm, .int .i64 nu, .slice o3 n3 c3, .slice o4 n4 c4, .slice o5 n5 c5, .slice o6 n6 c6]) rfl (by kernel_rfl) (by kernel_rfl) (by kernel_rfl) (fun _ _ _ h => h) (Or.inl ⟨by kernel_rfl, fun X hX => ?_⟩) (by assumption) ?_
  · obtain ⟨-, q0, q1, q2, q3, q4, q5, q6, -, -⟩ := hX; go_simp
  try simp only [Act.put, List.setIfInBounds_toArray]
  refine wpAnyH_take (i := 1) (v := .agg #[.string ⟨#[]⟩, .int .i64 kd, .string nm, .int .i64 nu, .slice o3 n3 c3, .slice o4 n4 c4, .slice o5 n5 c5, .slice o6 n6 c6]) rfl (by kernel_rfl) (by kernel_rfl) (by kernel_rfl) (fun _ _ _ h => h) (Or.inl ⟨by kernel_rfl, fun X hX => ?_⟩) (by assumption) ?_
  · clear hX; go_simp
  try simp only [Act.put]
  refine wpAnyH_take (i := 3) (v := .pointer (some ⟨pb, 0, none⟩)) rfl (by kernel_rfl) (by kernel_rfl) (by kernel_rfl) (fun _ _ _ h => h) (Or.inl ⟨by kernel_rfl, fun X hX => ?_⟩) (by assumption) ?_
  · clear hX; go_simp
  try simp only [Act.put]
  refine wpAnyH_take (i := 4) (v := .slice (some ⟨g, 0, none⟩) 5 5) rfl (by kernel_rfl) (by kernel_rfl) (by kernel_rfl) (fun _ _ _ h => h) (Or.inl ⟨by kernel_rfl, fun X hX => ?_⟩) (by assumption) ?_
  · obtain ⟨-, -, -, -, -, -, -, -, q7, -⟩ := hX; go_simp
  try simp only [Act.put]
  refine wpAnyH_take (i := 5) (v := .pointer (some ⟨pb, 1, none⟩)) rfl (by kernel_rfl) (by kernel_rfl) (by kernel_rfl) (fun _ _ _ h => h) (Or.inl ⟨by kernel_rfl, fun X hX => ?_⟩) (by assumption) ?_
  · clear hX; go_simp
  try simp only [Act.put]
  refine wpAnyH_take (i := 6) (v := .slice (some ⟨M, 0, none⟩) 1 1) rfl (by kernel_rfl) (by kernel_rfl) (by kernel_rfl) (fun _ _ _ h => h) (Or.inl ⟨by kernel_rfl, fun X hX => ?_⟩) (by assumption) ?_
  · obtain ⟨-, -, -, -, -, -, -, -, -, q8⟩ := hX; go_simp
  try simp only [Act.put]
  refine wpAnyH_take (i := 8) (v := .slice so sn sc) rfl (by kernel_rfl) (by kernel_rfl) (by kernel_rfl) (fun _ _ _ h => h) (Or.inl ⟨by kernel_rfl, fun X hX => ?_⟩) (by assumption) ?_
  · clear hX; go_simp
  try simp only [Act.put]
  refine wpAnyH_ready (rs := [2, 7]) (by kernel_rfl) (by simp) ?_
  refine AllReadyH.cons (o := _) rfl (fun K hK => ?_) (AllReadyH.cons (o := _) rfl (fun K hK => ?_) AllReadyH.nil)
  · go_simp
    have kB : Blk (x0.alloc (.cells #[.string ⟨#[]⟩, .int .i64 kd, .string nm, .int .i64 nu, .slice o3 n3 c3, .slice o4 n4 c4, .slice o5 n5 c5, .slice o6 n6 c6] 36)) x0.heap.size #[.string ⟨#[]⟩, .int .i64 kd, .string nm, .int .i64 nu, .slice o3 n3 c3, .slice o4 n4 c4, .slice o5 n5 c5, .slice o6 n6 c6] 36 := Blk.new _ _ _
    have hS' : Hid (Below w1.heap.size w1 (x0.alloc (.cells #[.string ⟨#[]⟩, .int .i64 kd, .string nm, .int .i64 nu, .slice o3 n3 c3, .slice o4 n4 c4, .slice o5 n5 c5, .slice o6 n6 c6] 36))) := up2n hS (below1 _ _)
    refine hK.out _ _ (HKP.out _ hS') (fun hHeld' => ?_)
    clear hK K hS hHeld
    generalize x0.alloc (.cells #[.string ⟨#[]⟩, .int .i64 kd, .string nm, .int .i64 nu, .slice o3 n3 c3, .slice o4 n4 c4, .slice o5 n5 c5, .slice o6 n6 c6] 36) = x1 at kB hS' hHeld' ⊢
    generalize x0.heap.size = gB at kB ⊢
    have hS := hS'; clear hS'; have hHeld := hHeld'; clear hHeld'
    try simp only [Act.put, List.setIfInBounds_toArray, List.set_cons_zero, List.set_cons_succ]
    refine wpAnyH_ready (rs := [7]) (by kernel_rfl) (by simp) ?_
    refine AllReadyH.cons (o := _) rfl (fun K hK => ?_) AllReadyH.nil
    go_simp
    go_at_call 42
    refine (boundBy1_c M _ _ _ _ _ _ _ 36 1 x1 (HMB.out _ hS).1 1 (numT 1) (HMB.out _ hS).2.1).mono ?_
    rintro e x2 ⟨rfl, hn, hb⟩
    have hbase : w1.heap.size ≤ x1.heap.size := hS.out.size
    have hne : gB ≠ x1.heap.size := Nat.ne_of_lt kB.lt
    replace kB := kB.below hb
    have hS' : Hid (Below w1.heap.size w1 x2) := up2n hS hb
    refine hK.out _ _ (HKP.out _ hS') (fun hHeld' => ?_)
    clear hK K hb hS hHeld
    generalize x1.heap.size = gb at hn hbase hne ⊢
    have hS := hS'; clear hS'; have hHeld := hHeld'; clear hHeld'
    try simp only [Act.put, List.setIfInBounds_toArray, List.set_cons_zero, List.set_cons_succ]
    refine wpAnyH_ready (rs := [9]) (by kernel_rfl) (by simp) ?_
    refine AllReadyH.cons (o := _) rfl (fun K hK => ?_) AllReadyH.nil
    rw [if_pos (by kernel_rfl)]
    refine app_vars (.tmp 16) (.tmp 17) rfl w1.heap.size gb hn hbase (by rfl) (.slice so sn sc) vl (by rfl) (HVs.out _ hS).1 (HVs.out _ hS).2 (fun g' c' x3 hb' hT hgr => ?_)
    have hS' : Hid (Below w1.heap.size w1 x3) := hS.out.grown hgr hS.out.size (fun k e => by cases e; exact hbase)
    have kB2 : Blk x3 gB #[.string ⟨#[]⟩, .int .i64 kd, .string nm, .int .i64 nu, .slice o3 n3 c3, .slice o4 n4 c4, .slice o5 n5 c5, .slice o6 n6 c6] 36 := by unfold Blk; rw [hgr.block gB kB.lt (fun e => hne (Option.some.inj e))]; exact kB
    clear kB hne; have kB := kB2; clear kB2
    refine hK.out _ _ (HKP.out _ hS') (fun hHeld' => ?_)
    clear hK K hS hHeld hgr hn hbase hb'
    have hS := hS'; clear hS'; have hHeld := hHeld'; clear hHeld'
    try simp only [Act.put, List.setIfInBounds_toArray]
    refine wpAnyH_ready (rs := [10]) (by kernel_rfl) (by simp) ?_
    refine AllReadyH.cons (o := _) rfl (fun K hK => ?_) AllReadyH.nil
    go_simp
    go_at_call 43
    refine (HCk.out x3 hS gB g' c' kB hT).mono ?_
    rintro e x4 ⟨z, rfl, hz, hb⟩
    have hS' : Hid (Below w1.heap.size w1 x4) := up2n hS hb
    have HZ : Hid (z ≠ 2 → VarOK (d + 1) t) := hz
    refine hK.out _ _ (HKP.out _ hS') (fun hHeld' => ?_)
    clear hK K hb hS hHeld hz hT kB
    have hS := hS'; clear hS'; have hHeld := hHeld'; clear hHeld'
    try simp only [Act.put, List.setIfInBounds_toArray, List.set_cons_zero, List.set_cons_succ]
    refine wpAnyH_take (i := 11) (v := .int .i64 z) rfl (by kernel_rfl) (by kernel_rfl) (by kernel_rfl) (fun _ _ _ h => h) (Or.inl ⟨by kernel_rfl, fun X hX => ?_⟩) (by assumption) ?_
    · clear hX; go_simp
    simp only [Act.put, List.getElem_toArray, List.getElem_cons_succ, List.getElem_cons_zero, List.setIfInBounds_toArray, List.set_cons_zero, List.set_cons_succ]
    refine wpAnyH_done (by kernel_rfl) ?_ _
    go_wp2
    go_ret
    exact ⟨z, rfl, HZ.out, H1.out.trans (hS.out.mono H1.out.size)⟩
  · go_simp
    go_at_call 42
    refine (boundBy1_c M _ _ _ _ _ _ _ 36 1 x0 (HMB.out _ hS).1 1 (numT 1) (HMB.out _ hS).2.1).mono ?_
    rintro e x5 ⟨rfl, hn, hb⟩
    have hbase : w1.heap.size ≤ x0.heap.size := hS.out.size
    have hS' : Hid (Below w1.heap.size w1 x5) := up2n hS hb
    refine hK.out _ _ (HKP.out _ hS') (fun hHeld' => ?_)
    clear hK K hb hS hHeld
    generalize x0.heap.size = gb at hn hbase ⊢
    have hS := hS'; clear hS'; have hHeld := hHeld'; clear hHeld'
    try simp only [Act.put, List.setIfInBounds_toArray, List.set_cons_zero, List.set_cons_succ]
    refine wpAnyH_ready (rs := [2, 9]) (by kernel_rfl) (by simp) ?_
    refine AllReadyH.cons (o := _) rfl (fun K hK => ?_) (AllReadyH.cons (o := _) rfl (fun K hK => ?_) AllReadyH.nil)
    · go_simp
      have kB : Blk (x5.alloc (.cells #[.string ⟨#[]⟩, .int .i64 kd, .string nm, .int .i64 nu, .slice o3 n3 c3, .slice o4 n4 c4, .slice o5 n5 c5, .slice o6 n6 c6] 36)) x5.heap.size #[.string ⟨#[]⟩, .int .i64 kd, .string nm, .int .i64 nu, .slice o3 n3 c3, .slice o4 n4 c4, .slice o5 n5 c5, .slice o6 n6 c6] 36 := Blk.new _ _ _
      have hS' : Hid (Below w1.heap.size w1 (x5.alloc (.cells #[.string ⟨#[]⟩, .int .i64 kd, .string nm, .int .i64 nu, .slice o3 n3 c3, .slice o4 n4 c4, .slice o5 n5 c5, .slice o6 n6 c6] 36))) := up2n hS (below1 _ _)
      have hne : x5.heap.size ≠ gb := Nat.ne_of_gt hn.lt
      replace hn := hn.below (below1 x5 (.cells #[.string ⟨#[]⟩, .int .i64 kd, .string nm, .int .i64 nu, .slice o3 n3 c3, .slice o4 n4 c4, .slice o5 n5 c5, .slice o6 n6 c6] 36))
      refine hK.out _ _ (HKP.out _ hS') (fun hHeld' => ?_)
      clear hK K hS hHeld
      generalize x5.alloc (.cells #[.string ⟨#[]⟩, .int .i64 kd, .string nm, .int .i64 nu, .slice o3 n3 c3, .slice o4 n4 c4, .slice o5 n5 c5, .slice o6 n6 c6] 36) = x6 at hn kB hS' hHeld' ⊢
      generalize x5.heap.size = gB at kB hne ⊢
      have hS := hS'; clear hS'; have hHeld := hHeld'; clear hHeld'
      try simp only [Act.put, List.setIfInBounds_toArray, List.set_cons_zero, List.set_cons_succ]
      refine wpAnyH_ready (rs := [9]) (by kernel_rfl) (by simp) ?_
      refine AllReadyH.cons (o := _) rfl (fun K hK => ?_) AllReadyH.nil
      rw [if_pos (by kernel_rfl)]
      refine app_vars (.tmp 16) (.tmp 17) rfl w1.heap.size gb hn hbase (by rfl) (.slice so sn sc) vl (by rfl) (HVs.out _ hS).1 (HVs.out _ hS).2 (fun g' c' x7 hb' hT hgr => ?_)
      have hS' : Hid (Below w1.heap.size w1 x7) := hS.out.grown hgr hS.out.size (fun k e => by cases e; exact hbase)
      have kB2 : Blk x7 gB #[.string ⟨#[]⟩, .int .i64 kd, .string nm, .int .i64 nu, .slice o3 n3 c3, .slice o4 n4 c4, .slice o5 n5 c5, .slice o6 n6 c6] 36 := by unfold Blk; rw [hgr.block gB kB.lt (fun e => hne (Option.some.inj e))]; exact kB
      clear kB hne; have kB := kB2; clear kB2
      refine hK.out _ _ (HKP.out _ hS') (fun hHeld' => ?_)
      clear hK K hS hHeld hgr hn hbase hb'
      have hS := hS'; clear hS'; have hHeld := hHeld'; clear hHeld'
      try simp only [Act.put, List.setIfInBounds_toArray]
      refine wpAnyH_ready (rs := [10]) (by kernel_rfl) (by simp) ?_
      refine AllReadyH.cons (o := _) rfl (fun K hK => ?_) AllReadyH.nil
      go_simp
      go_at_call 43
      refine (HCk.out x7 hS gB g' c' kB hT).mono ?_
      rintro e x8 ⟨z, rfl, hz, hb⟩
      have hS' : Hid (Below w1.heap.size w1 x8) := up2n hS hb
      have HZ : Hid (z ≠ 2 → VarOK (d + 1) t) := hz
      refine hK.out _ _ (HKP.out _ hS') (fun hHeld' => ?_)
      clear hK K hb hS hHeld hz hT kB
      have hS := hS'; clear hS'; have hHeld := hHeld'; clear hHeld'
      try simp only [Act.put, List.setIfInBounds_toArray, List.set_cons_zero, List.set_cons_succ]
      refine wpAnyH_take (i := 11) (v := .int .i64 z) rfl (by kernel_rfl) (by kernel_rfl) (by kernel_rfl) (fun _ _ _ h => h) (Or.inl ⟨by kernel_rfl, fun X hX => ?_⟩) (by assumption) ?_
      · clear hX; go_simp
      simp only [Act.put, List.getElem_toArray, List.getElem_cons_succ, List.getElem_cons_zero, List.setIfInBounds_toArray, List.set_cons_zero, List.set_cons_succ]
      refine wpAnyH_done (by kernel_rfl) ?_ _
      go_wp2
      go_ret
      exact ⟨z, rfl, HZ.out, H1.out.trans (hS.out.mono H1.out.size)⟩
    · rw [if_pos (by kernel_rfl)]
      refine app_vars (.tmp 16) (.tmp 17) rfl w1.heap.size gb hn hbase (by rfl) (.slice so sn sc) vl (by rfl) (HVs.out _ hS).1 (HVs.out _ hS).2 (fun g' c' x9 hb' hT hgr => ?_)
      have hS' : Hid (Below w1.heap.size w1 x9) := hS.out.grown hgr hS.out.size (fun k e => by cases e; exact hbase)
      refine hK.out _ _ (HKP.out _ hS') (fun hHeld' => ?_)
      clear hK K hS hHeld hgr hn hbase hb'
      have hS := hS'; clear hS'; have hHeld := hHeld'; clear hHeld'
      try simp only [Act.put, List.setIfInBounds_toArray]
      refine wpAnyH_ready (rs := [2]) (by kernel_rfl) (by simp) ?_
      refine AllReadyH.cons (o := _) rfl (fun K hK => ?_) AllReadyH.nil
      go_simp
      have kB : Blk (x9.alloc (.cells #[.string ⟨#[]⟩, .int .i64 kd, .string nm, .int .i64 nu, .slice o3 n3 c3, .slice o4 n4 c4, .slice o5 n5 c5, .slice o6 n6 c6] 36)) x9.heap.size #[.string ⟨#[]⟩, .int .i64 kd, .string nm, .int .i64 nu, .slice o3 n3 c3, .slice o4 n4 c4, .slice o5 n5 c5, .slice o6 n6 c6] 36 := Blk.new _ _ _
      have hS' : Hid (Below w1.heap.size w1 (x9.alloc (.cells #[.string ⟨#[]⟩, .int .i64 kd, .string nm, .int .i64 nu, .slice o3 n3 c3, .slice o4 n4 c4, .slice o5 n5 c5, .slice o6 n6 c6] 36))) := up2n hS (below1 _ _)
      replace hT := hT.grow (below1 x9 (.cells #[.string ⟨#[]⟩, .int .i64 kd, .string nm, .int .i64 nu, .slice o3 n3 c3, .slice o4 n4 c4, .slice o5 n5 c5, .slice o6 n6 c6] 36))
      refine hK.out _ _ (HKP.out _ hS') (fun hHeld' => ?_)
      clear hK K hS hHeld
      generalize x9.alloc (.cells #[.string ⟨#[]⟩, .int .i64 kd, .string nm, .int .i64 nu, .slice o3 n3 c3, .slice o4 n4 c4, .slice o5 n5 c5, .slice o6 n6 c6] 36) = x10 at hT kB hS' hHeld' ⊢
      generalize x9.heap.size = gB at kB ⊢
      have hS := hS'; clear hS'; have hHeld := hHeld'; clear hHeld'
      try simp only [Act.put, List.setIfInBounds_toArray, List.set_cons_zero, List.set_cons_succ]
      refine wpAnyH_ready (rs := [10]) (by kernel_rfl) (by simp) ?_
      refine AllReadyH.cons (o := _) rfl (fun K hK => ?_) AllReadyH.nil
      go_simp
      go_at_call 43
      refine (HCk.out x10 hS gB g' c' kB hT).mono ?_
      rintro e x11 ⟨z, rfl, hz, hb⟩
      have hS' : Hid (Below w1.heap.size w1 x11) := up2n hS hb
      have HZ : Hid (z ≠ 2 → VarOK (d + 1) t) := hz
      refine hK.out _ _ (HKP.out _ hS') (fun hHeld' => ?_)
      clear hK K hb hS hHeld hz hT kB
      have hS := hS'; clear hS'; have hHeld := hHeld'; clear hHeld'
      try simp only [Act.put, List.setIfInBounds_toArray, List.set_cons_zero, List.set_cons_succ]
      refine wpAnyH_take (i := 11) (v := .int .i64 z) rfl (by kernel_rfl) (by kernel_rfl) (by kernel_rfl) (fun _ _ _ h => h) (Or.inl ⟨by kernel_rfl, fun X hX => ?_⟩) (by assumption) ?_
      · clear hX; go_simp
      simp only [Act.put, List.getElem_toArray, List.getElem_cons_succ, List.getElem_cons_zero, List.setIfInBounds_toArray, List.set_cons_zero, List.set_cons_succ]
      refine wpAnyH_done (by kernel_rfl) ?_ _
      go_wp2
      go_ret
      exact ⟨z, rfl, HZ.out, H1.out.trans (hS.out.mono H1.out.size)⟩
end Go.Proofs.YtegdloenakachaaGreatDoor

namespace Go.Proofs.YtegdloenakachaaGreatDoor
open Go.RowKit Go.Shelf Go.Maps
set_option linter.unusedVariables false
/-- The same expression comes. -/
def Kept (w w' : World) (d : Nat) (t : Tr (d + 1)) (r : Ending) : Prop := ∃ v, r = .returned v ∧ ExVal w' w'.heap.size d t v ∧ Below w.heap.size w w'
set_option maxHeartbeats 8000000 in
set_option maxRecDepth 100000 in
theorem SubstNot_c (d : Nat) (t : Tr (d + 1)) (e : Nat) (b : Tr (e + 1)) (name : ByteArray) (va vb : Value) (B : Nat) (w : World) (ha : ExVal w B d t va) (hb : ExVal w B e b vb) (hw : B ≤ w.heap.size) (hst : sizeM (d + 1) t ≤ 1048576) (hsb : sizeM (e + 1) b ≤ 1048576) (hd : d + 1 ≤ 4096) (he : e + 1 ≤ 4096) (hFt : Fit (d + 1) t) (hNt : NmOK (d + 1) t) (hct : 2 * costM (d + 1) t ≤ 2000000) (hns : name.size ≤ maxLen) (hfree : freeM (d + 1) t [] name.data.toList = false) :
    Calls Tryz.prog 12 #[va, .string name, vb] w fun r w' => Kept w w' d t r := by
  obtain ⟨o3, c3, o4, c4, o5, c5, o6, c6, rfl, r3, r4, r5, r6⟩ := id ha
  obtain ⟨p3, q3, p4, q4, p5, q5, p6, q6, rfl, s3, s4, s5, s6⟩ := id hb
  obtain ⟨W0, hW0⟩ : ∃ W0, W0 = ((w.alloc (.cells #[.int .i64 (TrN.kind t), .string (TrN.name t), .int .i64 (TrN.num t), .slice o3 (TrN.params t).length c3, .slice o4 (TrN.binds t).length c4, .slice o5 (TrN.args t).length c5, .slice o6 (TrN.alts t).length c6] 31)).alloc (.cells #[.int .i64 (TrN.kind b), .string (TrN.name b), .int .i64 (TrN.num b), .slice p3 (TrN.params b).length q3, .slice p4 (TrN.binds b).length q4, .slice p5 (TrN.args b).length q5, .slice p6 (TrN.alts b).length q6] 31)).alloc (.cells #[.int .i64 0, .string ⟨#[]⟩, .int .i64 0, .slice none 0 0, .slice none 0 0, .slice none 0 0, .slice none 0 0] 31) := ⟨_, rfl⟩
  have H0 : Hid (Bx w W0 d t e b w.heap.size) := by
    have b1 := below1 w (.cells #[.int .i64 (TrN.kind t), .string (TrN.name t), .int .i64 (TrN.num t), .slice o3 (TrN.params t).length c3, .slice o4 (TrN.binds t).length c4, .slice o5 (TrN.args t).length c5, .slice o6 (TrN.alts t).length c6] 31)
    have hk : ∀ k, k < w.heap.size → W0.heap[k]? = w.heap[k]? := fun k hk => by rw [hW0, Below.heap_alloc _ _ _ (by simp; omega), Below.heap_alloc _ _ _ (by simp; omega), Below.heap_alloc _ _ _ hk]
    have kA : Blk W0 w.heap.size #[.int .i64 (TrN.kind t), .string (TrN.name t), .int .i64 (TrN.num t), .slice o3 (TrN.params t).length c3, .slice o4 (TrN.binds t).length c4, .slice o5 (TrN.args t).length c5, .slice o6 (TrN.alts t).length c6] 31 := by
      unfold Blk
      rw [hW0, Below.heap_alloc _ _ _ (by simp; omega), Below.heap_alloc _ _ _ (by simp)]
      exact Blk.new w _ _
    have kB : Blk W0 (w.heap.size + 1) #[.int .i64 (TrN.kind b), .string (TrN.name b), .int .i64 (TrN.num b), .slice p3 (TrN.params b).length q3, .slice p4 (TrN.binds b).length q4, .slice p5 (TrN.args b).length q5, .slice p6 (TrN.alts b).length q6] 31 := by
      unfold Blk
      rw [hW0, Below.heap_alloc _ _ _ (by simp)]
      have := Blk.new (w.alloc (.cells #[.int .i64 (TrN.kind t), .string (TrN.name t), .int .i64 (TrN.num t), .slice o3 (TrN.params t).length c3, .slice o4 (TrN.binds t).length c4, .slice o5 (TrN.args t).length c5, .slice o6 (TrN.alts t).length c6] 31)) #[.int .i64 (TrN.kind b), .string (TrN.name b), .int .i64 (TrN.num b), .slice p3 (TrN.params b).length q3, .slice p4 (TrN.binds b).length q4, .slice p5 (TrN.args b).length q5, .slice p6 (TrN.alts b).length q6] 31
      simpa [Blk] using this
    have hs : ∀ g off, g < w.heap.size → W0.cell? ⟨g, off, none⟩ = w.cell? ⟨g, off, none⟩ := fun g off hg => cell_of_block (hk g hg) off
    have hBl : Below w.heap.size w W0 := by rw [hW0]; exact ((b1.alloc (by simp) _)).alloc (by simp; omega) _
    refine ⟨rfl, hBl, (((ha.up7 hw).same hs).at (Nat.le_refl _) kA), ⟨_, (hb.up7 hw).same hs, kB⟩, ⟨_, _, kA, by decide⟩, ⟨#[.int .i64 0, .string ⟨#[]⟩, .int .i64 0, .slice none 0 0, .slice none 0 0, .slice none 0 0, .slice none 0 0], ?_, rfl⟩, by rw [hW0]; simp⟩
    rw [hW0]
    have := Blk.new ((w.alloc (.cells #[.int .i64 (TrN.kind t), .string (TrN.name t), .int .i64 (TrN.num t), .slice o3 (TrN.params t).length c3, .slice o4 (TrN.binds t).length c4, .slice o5 (TrN.args t).length c5, .slice o6 (TrN.alts t).length c6] 31)).alloc (.cells #[.int .i64 (TrN.kind b), .string (TrN.name b), .int .i64 (TrN.num b), .slice p3 (TrN.params b).length q3, .slice p4 (TrN.binds b).length q4, .slice p5 (TrN.args b).length q5, .slice p6 (TrN.alts b).length q6] 31)) #[.int .i64 0, .string ⟨#[]⟩, .int .i64 0, .slice none 0 0, .slice none 0 0, .slice none 0 0, .slice none 0 0] 31
    simpa [Blk] using this
  have HW : Hid (W0 = ((w.alloc (.cells #[.int .i64 (TrN.kind t), .string (TrN.name t), .int .i64 (TrN.num t), .slice o3 (TrN.params t).length c3, .slice o4 (TrN.binds t).length c4, .slice o5 (TrN.args t).length c5, .slice o6 (TrN.alts t).length c6] 31)).alloc (.cells #[.int .i64 (TrN.kind b), .string (TrN.name b), .int .i64 (TrN.num b), .slice p3 (TrN.params b).length q3, .slice p4 (TrN.binds b).length q4, .slice p5 (TrN.args b).length q5, .slice p6 (TrN.alts b).length q6] 31)).alloc (.cells #[.int .i64 0, .string ⟨#[]⟩, .int .i64 0, .slice none 0 0, .slice none 0 0, .slice none 0 0, .slice none 0 0] 31)) := hW0
  have HF : Hid (sizeM (d + 1) t ≤ 1048576 ∧ sizeM (e + 1) b ≤ 1048576 ∧ d + 1 ≤ 4096 ∧ e + 1 ≤ 4096 ∧ Fit (d + 1) t) := ⟨hst, hsb, hd, he, hFt⟩
  have HN : Hid (NmOK (d + 1) t ∧ 2 * costM (d + 1) t ≤ 2000000 ∧ name.size ≤ maxLen ∧ freeM (d + 1) t [] name.data.toList = false) := ⟨hNt, hct, hns, hfree⟩
  clear ha hb r3 r4 r5 r6 s3 s4 s5 s6 hW0 hst hsb hd he hFt hNt hct hns hfree
  go_enter Tryz.func12, Tryz.ntmps12
  go_wp2_with (go_at_call 30; fail)
  rw [← HW.out]
  clear HW
  refine (fits_c (d + 1) t _ _ _ _ H0.out.ta (by have := H0.out.sz; omega) HF.out.1 HF.out.2.2.1).mono ?_
  rintro r w1 ⟨rfl, hb1⟩
  have H1 : Hid (Bx w w1 d t e b w.heap.size) := H0.out.on hb1
  clear hb1 H0
  go_wp2_with (go_at_call 30; fail)
  refine (fits_c (e + 1) b _ _ _ _ H1.out.tb.ex (by have := H1.out.sz; omega) HF.out.2.1 HF.out.2.2.2.1).mono ?_
  rintro r w2 ⟨rfl, hb2⟩
  have H2 : Hid (Bx w w2 d t e b w.heap.size) := H1.out.on hb2
  clear hb2 H1
  go_wp2_with (go_at_call 31; fail)
  refine (copiedOK (d + 1) t _ _ _ _ H2.out.ta (by have := H2.out.sz; omega) HF.out.2.2.2.2).mono ?_
  rintro r w3 ⟨v, rfl, hov, hb3⟩
  have H3 := H2.out.on hb3
  obtain ⟨k0, n1, m2, o3', l3, c3', o4', l4, c4', o5', l5, c5', o6', l6, c6', rfl, hCx⟩ := H3.stored hov H2.out.sz hb3.size
  have HC : Hid (Cx w (st7 w3 w.heap.size 0 (.int .i64 k0) (.string n1) (.int .i64 m2) (.slice o3' l3 c3') (.slice o4' l4 c4') (.slice o5' l5 c5') (.slice o6' l6 c6')) d t e b w.heap.size w2.heap.size w3.heap.size) := hCx
  obtain ⟨y0, f0⟩ := H3.cells 0 (by omega)
  obtain ⟨y1, f1⟩ := H3.cells 1 (by omega)
  obtain ⟨y2, f2⟩ := H3.cells 2 (by omega)
  obtain ⟨y3, f3⟩ := H3.cells 3 (by omega)
  obtain ⟨y4, f4⟩ := H3.cells 4 (by omega)
  obtain ⟨y5, f5⟩ := H3.cells 5 (by omega)
  obtain ⟨y6, f6⟩ := H3.cells 6 (by omega)
  simp only [Nat.zero_add] at f0 f1 f2 f3 f4 f5 f6
  have z := fun j => H3.ua.frozen j
  have z0 := z 0; have z1 := z 1; have z2 := z 2; have z3 := z 3; have z4 := z 4; have z5 := z 5; have z6 := z 6
  have hAl : w.heap.size < w3.heap.size := by have := H3.sz; omega
  clear z hCx hov hb3 H3
  go_wp2_with (go_at_call 32; fail)
  change Calls Tryz.prog 32 #[.pointer (some ⟨w.heap.size, 0, none⟩)] (st7 w3 w.heap.size 0 (.int .i64 k0) (.string n1) (.int .i64 m2) (.slice o3' l3 c3') (.slice o4' l4 c4') (.slice o5' l5 c5') (.slice o6' l6 c6')) _
  generalize st7 w3 w.heap.size 0 (.int .i64 k0) (.string n1) (.int .i64 m2) (.slice o3' l3 c3') (.slice o4' l4 c4') (.slice o5' l5 c5') (.slice o6' l6 c6') = w4 at HC ⊢
  have hAl4 : w.heap.size < w4.heap.size := by have := HC.out.lo3; have := HC.out.lh; have := HC.out.hS; omega
  clear f0 f1 f2 f3 f4 f5 f6 z0 z1 z2 z3 z4 z5 z6
  refine (freeIn_c (d + 1) t HN.out.1 HN.out.2.1 (by have := HF.out.1; omega) _ _ _ w4 HC.out.ta (Nat.le_refl _) hAl4).mono ?_
  rintro r w5 ⟨f, cf, rfl, -, -, hs5, hb5⟩
  have H5 : Hid (Cx w w5 d t e b w.heap.size w2.heap.size w3.heap.size) := HC.out.on hb5
  have hlk := hs5.look name HN.out.2.2.1
  rw [HN.out.2.2.2] at hlk
  clear hs5 hb5 HC
  have hg5 : w5.heap.size < (w5.alloc (.cells #[] 63)).heap.size := by show _ < (Array.push _ _).size; rw [Array.size_push]; omega
  have H6 : Hid (Cx w (w5.alloc (.cells #[] 63)) d t e b w.heap.size w2.heap.size w3.heap.size) := H5.out.on (below1 w5 _)
  obtain ⟨k0', n1', m2', u3, l3', g3, u4, l4', g4, u5, l5', g5, u6, l6', g6, hVl, x0, x1, x2, x3, x4, x5, x6⟩ := (OwEx.exF (F := fun k _ => k = w.heap.size ∨ (w2.heap.size ≤ k ∧ k < w3.heap.size)) _ _ _ _ _ _ H6.out.ow (fun o _ _ => .inl rfl) (fun k o h1 h2 => .inr ⟨h1, h2⟩)).val
  simp only [Nat.zero_add] at x0 x1 x2 x3 x4 x5 x6
  obtain ⟨cs, hcs1, hcs2⟩ := H6.out.blkC
  obtain ⟨y0', y1', y2', y3', y4', y5', y6', rfl⟩ := arr7 hcs2
  have kC : Blk (w5.alloc (.cells #[] 63)) (w.heap.size + 2) #[y0', y1', y2', y3', y4', y5', y6'] 31 := hcs1
  have HV : Hid (VlF (w5.alloc (.cells #[] 63)) (fun k _ => k = w.heap.size ∨ (w2.heap.size ≤ k ∧ k < w3.heap.size)) (d + 1) t (.agg #[.int .i64 k0', .string n1', .int .i64 m2', .slice u3 l3' g3, .slice u4 l4' g4, .slice u5 l5' g5, .slice u6 l6' g6])) := hVl
  have q1 := H6.out.lo3
  have q2 := H6.out.lh
  have q3 := H6.out.hS
  have HQ : Hid (w.heap.size + 3 ≤ w2.heap.size ∧ w2.heap.size ≤ w3.heap.size ∧ w3.heap.size ≤ (w5.alloc (.cells #[] 63)).heap.size) := ⟨q1, q2, q3⟩
  obtain ⟨⟨j0, j1, j2, j3, j4, j5, j6⟩, z0, z1, z2, z3, z4, z5, z6⟩ := kC.all7
  have HK : Hid (Blk (w5.alloc (.cells #[] 63)) (w.heap.size + 2) #[y0', y1', y2', y3', y4', y5', y6'] 31) := kC
  have hlC := kC.lt
  have hlA : w.heap.size < (w5.alloc (.cells #[] 63)).heap.size := by omega
  clear hVl kC hcs1 hcs2 q1 q2 q3 hg5 H5
  go_wp2
  obtain ⟨W9, hW9⟩ : ∃ W9, W9 = st7 (w5.alloc (.cells #[] 63)) (w.heap.size + 2) 0 (.int .i64 k0') (.string n1') (.int .i64 m2') (.slice u3 l3' g3) (.slice u4 l4' g4) (.slice u5 l5' g5) (.slice u6 l6' g6) := ⟨_, rfl⟩
  have k9 : Blk W9 (w.heap.size + 2) #[.int .i64 k0', .string n1', .int .i64 m2', .slice u3 l3' g3, .slice u4 l4' g4, .slice u5 l5' g5, .slice u6 l6' g6] 31 := by
    rw [hW9]
    exact ((((((HK.out.set 0 (.int .i64 k0')).set 1 (.string n1')).set 2 (.int .i64 m2')).set 3 (.slice u3 l3' g3)).set 4 (.slice u4 l4' g4)).set 5 (.slice u5 l5' g5)).set 6 (.slice u6 l6' g6)
  have hP : Kept w W9 d t (.returned (.agg #[.int .i64 k0', .string n1', .int .i64 m2', .slice u3 l3' g3, .slice u4 l4' g4, .slice u5 l5' g5, .slice u6 l6' g6])) := by
    have hk : ∀ k, k ≠ w.heap.size + 2 → W9.heap[k]? = (w5.alloc (.cells #[] 63)).heap[k]? := fun k hk => by rw [hW9]; exact st7_other _ _ _ _ _ _ _ _ _ _ _ hk
    have hsz9 : W9.heap.size = (w5.alloc (.cells #[] 63)).heap.size := by rw [hW9]; exact st7_size _ _ _ _ _ _ _ _ _ _
    obtain ⟨a1, a2, a3⟩ := HQ.out
    refine ⟨_, rfl, VlF.exVal (HV.out.mono (F' := fun k _ => k = w.heap.size ∨ (w2.heap.size ≤ k ∧ k < w3.heap.size)) (fun k o h => ⟨h, cell_of_block (hk k (by omega)) o⟩)) (fun k o h => by rw [hsz9]; omega), ?_⟩
    rw [hW9]
    exact st7_below H6.out.below _ _ (by omega) _ _ _ _ _ _ _
  subst hW9
  exact bodyPost_ret (results_cell_row rfl _ _ (w.heap.size + 2) 31 _ _ _ rfl k9 Tryz.underlying31 rfl rfl) rfl hP
end Go.Proofs.YtegdloenakachaaGreatDoor
