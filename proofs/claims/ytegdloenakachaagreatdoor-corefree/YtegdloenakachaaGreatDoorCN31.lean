/-
  The law's own function of one name; lives, by a contract: parts.
  lives, by a contract.
  The law CoreNames: its trees, and what is known of them.
  The law CoreNames: its closed trees in memory, and what core.Check says of each.
  The chapter's example of a substitution: core.Subst's answer, and core.Same of it.
-/
import Derived.Test.YtegdloenakachaaGreatDoorCN30
namespace Go.Proofs.YtegdloenakachaaGreatDoor
open Go.RowKit Go.Shelf Go.Maps
set_option linter.unusedVariables false

def lamV (gp M : Nat) : Value := .agg #[.int .i64 5, .string ⟨#[]⟩, .int .i64 0, .slice (some ⟨gp, 0, none⟩) 1 1, .slice none 0 0, .slice (some ⟨M, 0, none⟩) 1 1, .slice none 0 0]
theorem varAt {W : World} {B M off : Nat} {y : ByteArray} {cs : Array Value} {T : TypeId} (h : Blk W M cs T) (hc : ∀ q v, #[Value.int .i64 1, .string y, .int .i64 0, .slice none 0 0, .slice none 0 0, .slice none 0 0, .slice none 0 0][q]? = some v → cs[off + q]? = some v) (hM : M < B) : ExAt W B 1 (varT y) M off :=
  ⟨hM, h.cell _ _ (hc 0 _ rfl), h.cell _ _ (hc 1 _ rfl), h.cell _ _ (hc 2 _ rfl), ⟨none, 0, h.cell _ _ (hc 3 _ rfl), .inl rfl⟩, ⟨none, 0, h.cell _ _ (hc 4 _ rfl), .inl rfl⟩, ⟨none, 0, h.cell _ _ (hc 5 _ rfl), .inl rfl⟩, ⟨none, 0, h.cell _ _ (hc 6 _ rfl), .inl rfl⟩⟩
theorem lam_val {W : World} {gp M : Nat} {x y : ByteArray} {T1 T2 : TypeId} (h1 : Blk W gp #[.string x] T1) (h2 : Blk W M #[.int .i64 1, .string y, .int .i64 0, .slice none 0 0, .slice none 0 0, .slice none 0 0, .slice none 0 0] T2) : ExVal W W.heap.size 1 (lamT x y) (lamV gp M) := by
  refine ⟨_, _, none, 0, _, _, none, 0, rfl, ?_, .inl rfl, ?_, .inl rfl⟩
  · refine .inr ⟨gp, 0, rfl, h1.lt, fun k hk => ?_⟩
    have hk0 : k = 0 := Nat.lt_one_iff.1 hk
    subst hk0
    exact h1.cell 0 _ rfl
  · refine .inr ⟨M, 0, rfl, h2.lt, fun k hk => ?_⟩
    have hk0 : k = 0 := Nat.lt_one_iff.1 hk
    subst hk0
    exact varAt h2 (fun q v h => by simpa using h) h2.lt
/-- A value whose cells lie in a block, behind a name. -/
theorem ExVal.at1 {W : World} {B N d : Nat} {t : Tr (d + 1)} {u : Value} {c0 c1 c2 c3 c4 c5 c6 : Value} {T : TypeId} (h : ExVal W B d t (.agg #[c0, c1, c2, c3, c4, c5, c6])) (B' : Nat) (hB : B ≤ B') (hN : N < B') (hk : Blk W N #[u, c0, c1, c2, c3, c4, c5, c6] T) : ExAt W B' (d + 1) t N 1 := by
  obtain ⟨o3, c3', o4, c4', o5, c5', o6, c6', e, k3, k4, k5, k6⟩ := h
  cases e
  refine ⟨hN, hk.cell 1 _ rfl, hk.cell 2 _ rfl, hk.cell 3 _ rfl, ⟨o3, c3', hk.cell 4 _ rfl, k3.mono hB⟩, ⟨o4, c4', hk.cell 5 _ rfl, k4.up hB ?_⟩, ⟨o5, c5', hk.cell 6 _ rfl, k5.up hB ?_⟩, ⟨o6, c6', hk.cell 7 _ rfl, k6.up hB ?_⟩⟩
  · rintro x g off hg ⟨e1, e2⟩
    exact ⟨e1, ExAt.up hB d _ _ _ e2⟩
  · intro x g off hg e
    exact ExAt.up hB d _ _ _ e
  · rintro x g off hg ⟨e1, e2, e3, ⟨o, c, e4, e5⟩, e6⟩
    exact ⟨e1, e2, e3, ⟨o, c, e4, e5.mono hB⟩, ExAt.up hB d _ _ _ e6⟩
def numT (k : Int) : Tr 1 := (⟨2, ⟨#[]⟩, k, [], [], [], []⟩ : TrN (Tr 0))
def xB : ByteArray := ⟨#[120]⟩
def yB : ByteArray := ⟨#[121]⟩
theorem same_xy : sameM 2 (lamT xB xB) (lamT yB yB) [] [] = true := by kernel_rfl
theorem same_xx : sameM 2 (lamT xB xB) (lamT yB xB) [] [] = false := by kernel_rfl
theorem txt_xx : (⟨(txtB xB xB).toArray⟩ : ByteArray) = ⟨#[40, 92, 32, 120, 32, 45, 62, 32, 120, 41]⟩ := rfl
theorem ck_num : ckM 1 [(mainB, numT 1)] false = 0 := by kernel_rfl
theorem nm_var (y : ByteArray) (hy : y.size ≤ 100) : NmOK 1 (varT y) := by
  refine ⟨by show y.size ≤ _; unfold maxLen; omega, fun x hx => ?_, fun b hb => ?_, fun e he => ?_, fun a ha => ?_⟩
  · cases hx
  · cases hb
  · cases he
  · cases ha
theorem nm_lam (x y : ByteArray) (hx : x.size ≤ 100) (hy : y.size ≤ 100) : NmOK 2 (lamT x y) := by
  refine ⟨Nat.zero_le _, fun z hz => ?_, fun b hb => ?_, fun e he => ?_, fun a ha => ?_⟩
  · have : z = x := by simpa [bndM, lamT] using hz
    subst this; unfold maxLen; omega
  · cases hb
  · have : e = varT y := by simpa [lamT] using he
    subst this; exact nm_var y hy
  · cases ha
theorem nm_num (k : Int) : NmOK 1 (numT k) := by
  refine ⟨Nat.zero_le _, fun x hx => ?_, fun b hb => ?_, fun e he => ?_, fun a ha => ?_⟩
  · cases hx
  · cases hb
  · cases he
  · cases ha
theorem fit_num (k : Int) : Fit 1 (numT k) := by
  refine ⟨⟨Nat.zero_le _, ⟨Nat.zero_le _, fun x hx => by cases hx⟩, ⟨Nat.zero_le _, fun b hb => by cases hb⟩, Nat.zero_le _, Nat.zero_le _, fun a ha => by cases ha⟩, fun b hb => ?_, fun e he => ?_, fun a ha => ?_⟩
  · cases hb
  · cases he
  · cases ha
end Go.Proofs.YtegdloenakachaaGreatDoor

namespace Go.Proofs.YtegdloenakachaaGreatDoor
open Go.RowKit Go.Shelf Go.Maps
set_option linter.unusedVariables false

theorem ExVal.up {W : World} {B B' d : Nat} {t : Tr (d + 1)} {v : Value} (h : ExVal W B d t v) (hB : B ≤ B') : ExVal W B' d t v := by
  obtain ⟨o3, c3, o4, c4, o5, c5, o6, c6, e, k3, k4, k5, k6⟩ := h
  refine ⟨o3, c3, o4, c4, o5, c5, o6, c6, e, k3.mono hB, k4.up hB ?_, k5.up hB ?_, k6.up hB ?_⟩
  · rintro x g off hg ⟨e1, e2⟩
    exact ⟨e1, ExAt.up hB d _ _ _ e2⟩
  · intro x g off hg e
    exact ExAt.up hB d _ _ _ e
  · rintro x g off hg ⟨e1, e2, e3, ⟨o, c, e4, e5⟩, e6⟩
    exact ⟨e1, e2, e3, ⟨o, c, e4, e5.mono hB⟩, ExAt.up hB d _ _ _ e6⟩
theorem ExVal.grow {W W' : World} {d : Nat} {t : Tr (d + 1)} {v : Value} (h : ExVal W W.heap.size d t v) (hb : Below W.heap.size W W') : ExVal W' W'.heap.size d t v := (h.same (fun g off hg => cell_of_block (hb.block g hg) off)).up hb.size
/-- A program's check, whose one binding's value is known. -/
theorem ckProg_c (d : Nat) (t : Tr (d + 1)) (v : Value) (w : World) (hv : ExVal w w.heap.size d t v) (hFit : Fit (d + 1) t) (hN : NmOK (d + 1) t) (hd : d + 1 ≤ 4096) (hc : 1 + 2 * costM (d + 1) t ≤ 2000000) (hs : sizeM (d + 1) t ≤ 1048576)
    (hcp : ∀ (W : World) (M B : Nat), ExAt W B (d + 1) t M 1 → Below w.heap.size w W → (∃ c0 c1 c2 c3 c4 c5 c6 T, v = .agg #[c0, c1, c2, c3, c4, c5, c6] ∧ Blk W M #[.string mainB, c0, c1, c2, c3, c4, c5, c6] T) → CpAt W B (d + 1) t M 1)
    (R : Bool) (hR : R = true ↔ ∃ x, freeM (d + 1) t (dl [mainB]) x = true) :
    Calls Tryz.prog 18 #[v] w fun r w' => ∃ u, r = .returned u ∧ Below w.heap.size w w' ∧ Calls Tryz.prog 17 #[u] w' fun r w2 => r = .returned (.int .i64 (ckM (d + 1) [(mainB, t)] R)) ∧ Below w'.heap.size w' w2 := by
  obtain ⟨o3, c3, o4, c4, o5, c5, o6, c6, rfl, -⟩ := id hv
  refine (program_c _ _ _ _ _ _ _ _ _ _ _ _ _ _ _ w).mono ?_
  rintro r w' ⟨g, M, rfl, hg, hM, hk1, hk2, hb⟩
  refine ⟨_, rfl, hb, ?_⟩
  have hE : ExAt w' w'.heap.size (d + 1) t M 1 := (hv.same (fun g off hg => cell_of_block (hb.block g hg) off)).at1 w'.heap.size hb.size hk2.lt hk2
  have hl : RowIn w'.heap.size 8 (fun (b : ByteArray × Tr (d + 1)) g off => w'.cell? ⟨g, off, none⟩ = some (.string b.1) ∧ ExAt w' w'.heap.size (d + 1) b.2 g (off + 1)) (some ⟨M, 0, none⟩) [(mainB, t)] := by
    refine .inr ⟨M, 0, rfl, hk2.lt, fun k hk => ?_⟩
    have hk0 : k = 0 := Nat.lt_one_iff.1 hk
    subst hk0
    exact ⟨hk2.cell 0 _ rfl, hE⟩
  have h9 := Check_c (d + 1) [(mainB, t)] (by simp) g 5 (some ⟨M, 0, none⟩) 1 w'.heap.size w' hk1 hk1.lt hl (Nat.le_refl _) (by
    intro b hb
    have : b = (mainB, t) := by simpa using hb
    subst this; show (4 : Nat) ≤ _; unfold maxLen; omega) (by
    intro b hb
    have : b = (mainB, t) := by simpa using hb
    subst this; exact hFit) (by
    intro b hb
    have : b = (mainB, t) := by simpa using hb
    subst this; exact hN) hd (by simpa using hc) (by simpa using hs) (by
    intro k hk g' off' e hg'
    cases e
    have hk0 : k = 0 := Nat.lt_one_iff.1 hk
    subst hk0
    exact hcp w' M w'.heap.size hE hb ⟨_, _, _, _, _, _, _, _, rfl, hk2⟩) R (by
    rw [hR]
    constructor
    · rintro ⟨x, hx⟩
      exact ⟨x, by simpa using hx⟩
    · rintro ⟨x, hx⟩
      exact ⟨x, by simpa using hx⟩)
  exact h9
theorem num_val (k : Int) (W : World) : ExVal W W.heap.size 0 (numT k) (.agg #[.int .i64 2, .string ⟨#[]⟩, .int .i64 k, .slice none 0 0, .slice none 0 0, .slice none 0 0, .slice none 0 0]) :=
  ⟨none, 0, none, 0, none, 0, none, 0, rfl, .inl rfl, .inl rfl, .inl rfl, .inl rfl⟩
theorem ckNum_c (w : World) : Calls Tryz.prog 18 #[.agg #[.int .i64 2, .string ⟨#[]⟩, .int .i64 1, .slice none 0 0, .slice none 0 0, .slice none 0 0, .slice none 0 0]] w fun r w' => ∃ u, r = .returned u ∧ Below w.heap.size w w' ∧ Calls Tryz.prog 17 #[u] w' fun r w2 => r = .returned (.int .i64 0) ∧ Below w'.heap.size w' w2 := by
  have h9 := ckProg_c 0 (numT 1) _ w (num_val 1 w) (fit_num 1) (nm_num 1) (by decide) (by decide) (by decide) (by
    rintro W M B hE hb ⟨c0, c1, c2, c3, c4, c5, c6, T, e, hk⟩
    cases e
    refine ⟨fun o n c e => ?_, fun g' x' n c hg' e k hk => ?_, fun g' x' n c hg' e k hk => ?_, fun g' x' n c hg' e k hk => ?_⟩
    · have h1 := (hk.cell 7 _ rfl).symm.trans e
      cases h1; exact Nat.le_refl _
    · cases hk
    · cases hk
    · cases hk) false (by
    constructor
    · intro h; cases h
    · rintro ⟨x, hx⟩; cases hx)
  rw [ck_num] at h9
  exact h9
/-- The law's function of one name, step by step. -/
def LmPost (x y : ByteArray) (w : World) (r : Ending) (w' : World) : Prop := ∃ gp M, r = .returned (lamV gp M) ∧ ExVal w' w'.heap.size 1 (lamT x y) (lamV gp M) ∧ Below w.heap.size w w'
theorem lam1_c (x y : ByteArray) (w : World) : Calls Tryz.prog 13 #[.agg #[.int .i64 1, .string y, .int .i64 0, .slice none 0 0, .slice none 0 0, .slice none 0 0, .slice none 0 0], .slice (some ⟨w.heap.size, 0, none⟩) 1 1] (w.alloc (.cells #[.string x] 9)) fun r w' => LmPost x y w r w' := by
  refine (llam_c 1 y 0 none none none none 0 0 0 0 0 0 0 0 (some ⟨w.heap.size, 0, none⟩) 1 1 _).mono ?_
  rintro r w' ⟨M, rfl, hM, hk, hb⟩
  exact ⟨w.heap.size, M, rfl, lam_val ((Blk.new w _ _).below hb) hk, (below1 w _).trans (hb.mono (below1 w _).size)⟩
set_option maxRecDepth 100000 in
set_option maxHeartbeats 8000000 in
theorem lives_c (w : World) : Calls Tryz.prog 6 #[] w fun e w' => e = .returned (.bool true) ∧ Below w.heap.size w w' := by
  have HV : Hid (∀ s W, Calls Tryz.prog 10 #[.string s] W fun e w' => e = .returned (.agg #[.int .i64 1, .string s, .int .i64 0, .slice none 0 0, .slice none 0 0, .slice none 0 0, .slice none 0 0]) ∧ Below W.heap.size W w') := fun s W => lv_c s W
  have HL : Hid (∀ x y W, Calls Tryz.prog 13 #[.agg #[.int .i64 1, .string y, .int .i64 0, .slice none 0 0, .slice none 0 0, .slice none 0 0, .slice none 0 0], .slice (some ⟨W.heap.size, 0, none⟩) 1 1] (W.alloc (.cells #[.string x] 9)) fun r w' => LmPost x y W r w') := fun x y W => lam1_c x y W
  go_enter Tryz.func6, Tryz.ntmps6
  go_wp2_with (go_at_call 10; fail)
  refine (HV.out _ _).mono ?_
  rintro e w1 ⟨rfl, h1⟩
  have H1 : Hid (Below w.heap.size w w1) := h1
  clear h1
  go_wp2_with (go_at_call 13; fail)
  refine (HL.out _ _ _).mono ?_
  rintro e w2 ⟨gp, M, rfl, hE, h2⟩
  have H2 : Hid (Below w.heap.size w w2) := H1.out.trans (h2.mono H1.out.size)
  have HT : Hid (Calls Tryz.prog 29 #[lamV gp M] w2 fun e w' => e = .returned (.string ⟨#[40, 92, 32, 120, 32, 45, 62, 32, 120, 41]⟩) ∧ Below w2.heap.size w2 w') := by
    have h9 := TextLm_c xB xB _ w2.heap.size w2 hE (Nat.le_refl _) (by decide) (by decide)
    rw [txt_xx] at h9
    exact h9
  clear h2 hE H1
  unfold lamV at HT ⊢
  go_wp2_with (go_at_call 29; fail)
  refine HT.out.mono ?_
  rintro e w3 ⟨rfl, h3⟩
  have H3 : Hid (Below w.heap.size w w3) := H2.out.trans (h3.mono H2.out.size)
  clear h3 HT H2
  have HBw3 : Hid (Below w.heap.size w w3 ∧ Below w3.heap.size w3 w3) := ⟨H3.out, Below.refl _ _⟩
  go_wp2_with (go_at_call 10; fail)
  refine (HV.out _ _).mono ?_
  rintro e w4 ⟨rfl, h1⟩
  have HBw4 : Hid (Below w.heap.size w w4 ∧ Below w3.heap.size w3 w4) := ⟨HBw3.out.1.trans (h1.mono HBw3.out.1.size), h1⟩
  clear h1
  go_wp2_with (go_at_call 13; fail)
  refine (HL.out _ _ _).mono ?_
  rintro e w5 ⟨g5, M5, rfl, hE, h2⟩
  have HBw5 : Hid (Below w.heap.size w w5 ∧ Below w4.heap.size w4 w5) := ⟨HBw4.out.1.trans (h2.mono HBw4.out.1.size), h2⟩
  have HEw5 : Hid (ExVal w5 w5.heap.size 1 (lamT xB xB) (lamV g5 M5)) := hE
  clear h2 hE
  have HUw5 : Hid (lamV g5 M5 = lamV g5 M5) := rfl
  unfold lamV
  go_wp2_with (go_at_call 10; fail)
  refine (HV.out _ _).mono ?_
  rintro e w6 ⟨rfl, h1⟩
  have HBw6 : Hid (Below w.heap.size w w6 ∧ Below w5.heap.size w5 w6) := ⟨HBw5.out.1.trans (h1.mono HBw5.out.1.size), h1⟩
  clear h1
  go_wp2_with (go_at_call 13; fail)
  refine (HL.out _ _ _).mono ?_
  rintro e w7 ⟨g7, M7, rfl, hE, h2⟩
  have HBw7 : Hid (Below w.heap.size w w7 ∧ Below w6.heap.size w6 w7) := ⟨HBw6.out.1.trans (h2.mono HBw6.out.1.size), h2⟩
  have HEw7 : Hid (ExVal w7 w7.heap.size 1 (lamT yB yB) (lamV g7 M7)) := hE
  clear h2 hE
  have HUw7 : Hid (lamV g7 M7 = lamV g7 M7) := rfl
  unfold lamV
  have HSw8 : Hid (Calls Tryz.prog 16 #[lamV g5 M5, lamV g7 M7] w7 fun e w' => e = .returned (.bool true) ∧ Below w7.heap.size w7 w') := by
    have h9 := Same_c 1 (lamT xB xB) (lamT yB yB) _ _ w7.heap.size w7 ((HEw5.out.grow HBw6.out.2).grow HBw7.out.2) HEw7.out (Nat.le_refl _) (nm_lam xB xB (by decide) (by decide)) (nm_lam yB yB (by decide) (by decide)) (by decide) (by decide) (by decide) (by decide) (by decide)
    rw [same_xy] at h9
    exact h9
  unfold lamV at HSw8
  go_wp2_with (go_at_call 16; fail)
  refine HSw8.out.mono ?_
  rintro e w8 ⟨rfl, h1⟩
  have HBw8 : Hid (Below w.heap.size w w8 ∧ Below w7.heap.size w7 w8) := ⟨HBw7.out.1.trans (h1.mono HBw7.out.1.size), h1⟩
  clear h1 HSw8
  go_wp2_with (go_at_call 10; fail)
  refine (HV.out _ _).mono ?_
  rintro e w9 ⟨rfl, h1⟩
  have HBw9 : Hid (Below w.heap.size w w9 ∧ Below w8.heap.size w8 w9) := ⟨HBw8.out.1.trans (h1.mono HBw8.out.1.size), h1⟩
  clear h1
  go_wp2_with (go_at_call 13; fail)
  refine (HL.out _ _ _).mono ?_
  rintro e w10 ⟨g10, M10, rfl, hE, h2⟩
  have HBw10 : Hid (Below w.heap.size w w10 ∧ Below w9.heap.size w9 w10) := ⟨HBw9.out.1.trans (h2.mono HBw9.out.1.size), h2⟩
  have HEw10 : Hid (ExVal w10 w10.heap.size 1 (lamT xB xB) (lamV g10 M10)) := hE
  clear h2 hE
  have HUw10 : Hid (lamV g10 M10 = lamV g10 M10) := rfl
  unfold lamV
  go_wp2_with (go_at_call 10; fail)
  refine (HV.out _ _).mono ?_
  rintro e w11 ⟨rfl, h1⟩
  have HBw11 : Hid (Below w.heap.size w w11 ∧ Below w10.heap.size w10 w11) := ⟨HBw10.out.1.trans (h1.mono HBw10.out.1.size), h1⟩
  clear h1
  go_wp2_with (go_at_call 13; fail)
  refine (HL.out _ _ _).mono ?_
  rintro e w12 ⟨g12, M12, rfl, hE, h2⟩
  have HBw12 : Hid (Below w.heap.size w w12 ∧ Below w11.heap.size w11 w12) := ⟨HBw11.out.1.trans (h2.mono HBw11.out.1.size), h2⟩
  have HEw12 : Hid (ExVal w12 w12.heap.size 1 (lamT yB xB) (lamV g12 M12)) := hE
  clear h2 hE
  have HUw12 : Hid (lamV g12 M12 = lamV g12 M12) := rfl
  unfold lamV
  have HSw13 : Hid (Calls Tryz.prog 16 #[lamV g10 M10, lamV g12 M12] w12 fun e w' => e = .returned (.bool false) ∧ Below w12.heap.size w12 w') := by
    have h9 := Same_c 1 (lamT xB xB) (lamT yB xB) _ _ w12.heap.size w12 ((HEw10.out.grow HBw11.out.2).grow HBw12.out.2) HEw12.out (Nat.le_refl _) (nm_lam xB xB (by decide) (by decide)) (nm_lam yB xB (by decide) (by decide)) (by decide) (by decide) (by decide) (by decide) (by decide)
    rw [same_xx] at h9
    exact h9
  unfold lamV at HSw13
  go_wp2_with (go_at_call 16; fail)
  refine HSw13.out.mono ?_
  rintro e w13 ⟨rfl, h1⟩
  have HBw13 : Hid (Below w.heap.size w w13 ∧ Below w12.heap.size w12 w13) := ⟨HBw12.out.1.trans (h1.mono HBw12.out.1.size), h1⟩
  clear h1 HSw13
  have HNm : Hid (Calls Tryz.prog 11 #[.int .i64 1] w13 fun e w' => e = .returned (.agg #[.int .i64 2, .string ⟨#[]⟩, .int .i64 1, .slice none 0 0, .slice none 0 0, .slice none 0 0, .slice none 0 0]) ∧ Below w13.heap.size w13 w') := lnum_c 1 w13
  go_wp2_with (go_at_call 11; fail)
  refine HNm.out.mono ?_
  rintro e w14 ⟨rfl, h1⟩
  have HBw14 : Hid (Below w.heap.size w w14) := HBw13.out.1.trans (h1.mono HBw13.out.1.size)
  have HCk : Hid (Calls Tryz.prog 18 #[.agg #[.int .i64 2, .string ⟨#[]⟩, .int .i64 1, .slice none 0 0, .slice none 0 0, .slice none 0 0, .slice none 0 0]] w14 fun r w' => ∃ u, r = .returned u ∧ Below w14.heap.size w14 w' ∧ Calls Tryz.prog 17 #[u] w' fun r w2 => r = .returned (.int .i64 0) ∧ Below w'.heap.size w' w2) := ckNum_c w14
  clear h1 HNm
  go_wp2_with (go_at_call 18; fail)
  refine HCk.out.mono ?_
  rintro e w15 ⟨u, rfl, h1, h2⟩
  have HBw15 : Hid (Below w.heap.size w w15) := HBw14.out.trans (h1.mono HBw14.out.size)
  have HCk2 : Hid (Calls Tryz.prog 17 #[u] w15 fun r w2 => r = .returned (.int .i64 0) ∧ Below w15.heap.size w15 w2) := h2
  clear h1 h2 HCk
  go_wp2_with (go_at_call 17; fail)
  refine HCk2.out.mono ?_
  rintro e w16 ⟨rfl, h1⟩
  have HBw16 : Hid (Below w.heap.size w w16) := HBw15.out.trans (h1.mono HBw15.out.size)
  clear h1 HCk2
  go_wp2
  go_ret
  exact ⟨rfl, HBw16.out⟩
end Go.Proofs.YtegdloenakachaaGreatDoor

namespace Go.Proofs.YtegdloenakachaaGreatDoor
open Go.RowKit Go.Shelf Go.Maps
set_option linter.unusedVariables false
def consN : ByteArray := ⟨#[67, 111, 110, 115]⟩
def addN : ByteArray := ⟨#[97, 100, 100]⟩
def aB7 : ByteArray := ⟨#[97]⟩
def bB7 : ByteArray := ⟨#[98]⟩
def conT : Tr 2 := (⟨4, consN, 0, [], [], [numT 1], []⟩ : TrN (Tr 1))
def prmT : Tr 2 := (⟨9, addN, 0, [], [], [numT 1, numT 2, numT 3], []⟩ : TrN (Tr 1))
def twoT : Tr 2 := (⟨8, ⟨#[]⟩, 0, [], [], [numT 1], [(⟨2, ⟨#[]⟩, 1, []⟩, numT 1), (⟨2, ⟨#[]⟩, 1, []⟩, numT 2)]⟩ : TrN (Tr 1))
/-- let a = b 1; b = 2 in a. -/
def vN1 : Tr 2 := (⟨6, ⟨#[]⟩, 0, [], [], [varT bB7, numT 1], []⟩ : TrN (Tr 1))
def letT : Tr 3 := (⟨7, ⟨#[]⟩, 0, [], [(aB7, vN1), (bB7, lift1 1 (numT 2))], [lift1 1 (varT aB7)], []⟩ : TrN (Tr 2))
theorem ck_con : ckM 2 [(mainB, conT)] false = 9 := by kernel_rfl
theorem ck_prm : ckM 2 [(mainB, prmT)] false = 9 := by kernel_rfl
theorem ck_two : ckM 2 [(mainB, twoT)] false = 2 := by kernel_rfl
theorem ck_var : ckM 1 [(mainB, varT yB7)] true = 8 := by kernel_rfl
theorem ck_none : ckM 1 [] false = 10 := by kernel_rfl
theorem size_let : sizeM 3 letT = 6 := by kernel_rfl
theorem free_let (x : List UInt8) : freeM 3 letT [] x = decide (x ∈ ([] : List (List UInt8))) := by
  have h : freeM 3 letT [] x = false := by kernel_rfl
  rw [h]
  simp
theorem free_con (x : List UInt8) : freeM 2 conT (dl [mainB]) x = false := by
  kernel_rfl
theorem free_prm (x : List UInt8) : freeM 2 prmT (dl [mainB]) x = false := by
  kernel_rfl
theorem free_two (x : List UInt8) : freeM 2 twoT (dl [mainB]) x = false := by
  kernel_rfl
theorem free_var : freeM 1 (varT yB7) (dl [mainB]) [121] = true := by decide
end Go.Proofs.YtegdloenakachaaGreatDoor

namespace Go.Proofs.YtegdloenakachaaGreatDoor
open Go.RowKit Go.Shelf Go.Maps
set_option linter.unusedVariables false

theorem cp_leaf {W : World} {B : Nat} {t : Tr (0 + 1)} {g off : Nat} (h6 : ∃ o n c, W.cell? ⟨g, off + 6, none⟩ = some (.slice o n c) ∧ n ≤ c) (hb : TrN.binds t = []) (ha : TrN.args t = []) (hl : TrN.alts t = []) : CpAt W B (0 + 1) t g off := by
  refine ⟨fun o n c e => ?_, fun g' x' n c hg' e k hk => ?_, fun g' x' n c hg' e k hk => ?_, fun g' x' n c hg' e k hk => ?_⟩
  · obtain ⟨o', n', c', h, hle⟩ := h6
    have h1 := h.symm.trans e
    cases h1; exact hle
  · rw [hb] at hk; cases hk
  · rw [ha] at hk; cases hk
  · rw [hl] at hk; cases hk
theorem nm_leaf {t : Tr (0 + 1)} (hn : (TrN.name t).size ≤ maxLen) (hp : TrN.params t = []) (hb : TrN.binds t = []) (ha : TrN.args t = []) (hl : TrN.alts t = []) : NmOK (0 + 1) t := by
  refine ⟨hn, fun x hx => ?_, fun b h => ?_, fun e h => ?_, fun a h => ?_⟩
  · unfold bndM at hx; rw [hp, hb] at hx; cases hx
  · rw [hb] at h; cases h
  · rw [ha] at h; cases h
  · rw [hl] at h; cases h
theorem fit_var (y : ByteArray) (hy : y.size ≤ maxLen) : Fit 1 (varT y) := by
  refine ⟨⟨hy, ⟨Nat.zero_le _, fun x hx => by cases hx⟩, ⟨Nat.zero_le _, fun b hb => by cases hb⟩, Nat.zero_le _, Nat.zero_le _, fun a ha => by cases ha⟩, fun b hb => ?_, fun e he => ?_, fun a ha => ?_⟩
  · cases hb
  · cases he
  · cases ha
/-- An expression that has parts alone, each of which may be asked. -/
theorem fit_args {d : Nat} {t : Tr (d + 1)} (hn : (TrN.name t).size ≤ maxLen) (hp : TrN.params t = []) (hb : TrN.binds t = []) (hl : TrN.alts t = []) (hc : (TrN.args t).length ≤ 2000000) (ha : ∀ e ∈ TrN.args t, Fit d e) : Fit (d + 1) t := by
  refine ⟨⟨hn, ⟨by rw [hp]; exact Nat.zero_le _, fun x hx => by rw [hp] at hx; cases hx⟩, ⟨by rw [hb]; exact Nat.zero_le _, fun b h => by rw [hb] at h; cases h⟩, hc, by rw [hl]; exact Nat.zero_le _, fun a h => by rw [hl] at h; cases h⟩, fun b h => ?_, ha, fun a h => ?_⟩
  · rw [hb] at h; cases h
  · rw [hl] at h; cases h
theorem nm_args {d : Nat} {t : Tr (d + 1)} (hn : (TrN.name t).size ≤ maxLen) (hp : TrN.params t = []) (hb : TrN.binds t = []) (hl : TrN.alts t = []) (ha : ∀ e ∈ TrN.args t, NmOK d e) : NmOK (d + 1) t := by
  refine ⟨hn, fun x hx => ?_, fun b h => ?_, ha, fun a h => ?_⟩
  · unfold bndM at hx; rw [hp, hb] at hx; cases hx
  · rw [hb] at h; cases h
  · rw [hl] at h; cases h
theorem small_len {n : Nat} (h : n ≤ 1000) : n ≤ maxLen := by unfold maxLen; omega
theorem fit_con : Fit 2 conT := fit_args (d := 1) (small_len (by decide)) rfl rfl rfl (by decide) (fun e he => by
  have : e = numT 1 := by simpa [conT] using he
  subst this; exact fit_num 1)
theorem nm_con : NmOK 2 conT := nm_args (d := 1) (small_len (by decide)) rfl rfl rfl (fun e he => by
  have : e = numT 1 := by simpa [conT] using he
  subst this; exact nm_num 1)
theorem fit_prm : Fit 2 prmT := fit_args (d := 1) (small_len (by decide)) rfl rfl rfl (by decide) (fun e he => by
  have : e = numT 1 ∨ e = numT 2 ∨ e = numT 3 := by simpa [prmT] using he
  rcases this with rfl | rfl | rfl
  · exact fit_num 1
  · exact fit_num 2
  · exact fit_num 3)
theorem nm_prm : NmOK 2 prmT := nm_args (d := 1) (small_len (by decide)) rfl rfl rfl (fun e he => by
  have : e = numT 1 ∨ e = numT 2 ∨ e = numT 3 := by simpa [prmT] using he
  rcases this with rfl | rfl | rfl
  · exact nm_num 1
  · exact nm_num 2
  · exact nm_num 3)
theorem two_alt {a : AltH × Tr 1} (h : a ∈ TrN.alts (T := Tr 1) twoT) : a.1.name = ⟨#[]⟩ ∧ a.1.vars = [] ∧ a.1.num = 1 ∧ (a.2 = numT 1 ∨ a.2 = numT 2) := by
  have h2 : a = (⟨2, ⟨#[]⟩, 1, []⟩, numT 1) ∨ a = (⟨2, ⟨#[]⟩, 1, []⟩, numT 2) := by
    rcases List.mem_cons.1 h with h | h
    · exact .inl h
    · rcases List.mem_cons.1 h with h | h
      · exact .inr h
      · cases h
  rcases h2 with rfl | rfl
  · exact ⟨rfl, rfl, rfl, .inl rfl⟩
  · exact ⟨rfl, rfl, rfl, .inr rfl⟩
theorem two_arg {e : Tr 1} (h : e ∈ TrN.args (T := Tr 1) twoT) : e = numT 1 := by
  rcases List.mem_cons.1 h with h | h
  · exact h
  · cases h
theorem fit_two : Fit 2 twoT := by
  refine ⟨⟨Nat.zero_le _, ⟨Nat.zero_le _, fun x hx => by cases hx⟩, ⟨Nat.zero_le _, fun b hb => by cases hb⟩, by decide, by decide, fun a ha => ?_⟩, fun b hb => ?_, fun e he => ?_, fun a ha => ?_⟩
  · obtain ⟨h1, h2, h3, h4⟩ := two_alt ha
    rw [h1, h2, h3]
    exact ⟨Nat.zero_le _, Nat.zero_le _, (fun x hx => by cases hx), by decide⟩
  · cases hb
  · rw [two_arg he]; exact fit_num 1
  · rcases (two_alt ha).2.2.2 with h | h
    · rw [h]; exact fit_num 1
    · rw [h]; exact fit_num 2
theorem nm_two : NmOK 2 twoT := by
  refine ⟨Nat.zero_le _, fun x hx => ?_, fun b hb => ?_, fun e he => ?_, fun a ha => ?_⟩
  · cases hx
  · cases hb
  · rw [two_arg he]; exact nm_num 1
  · obtain ⟨h1, h2, h3, h4⟩ := two_alt ha
    refine ⟨(fun x hx => by rw [h2] at hx; cases hx), ?_⟩
    rcases h4 with h | h
    · rw [h]; exact nm_num 1
    · rw [h]; exact nm_num 2
theorem leaf_num (k : Int) {W : World} {B g off : Nat} (hg : g < B) (h0 : W.cell? ⟨g, off, none⟩ = some (.int .i64 2)) (h1 : W.cell? ⟨g, off + 1, none⟩ = some (.string ⟨#[]⟩)) (h2 : W.cell? ⟨g, off + 2, none⟩ = some (.int .i64 k)) (h3 : W.cell? ⟨g, off + 3, none⟩ = some (.slice none 0 0)) (h4 : W.cell? ⟨g, off + 4, none⟩ = some (.slice none 0 0)) (h5 : W.cell? ⟨g, off + 5, none⟩ = some (.slice none 0 0)) (h6 : W.cell? ⟨g, off + 6, none⟩ = some (.slice none 0 0)) : ExAt W B 1 (numT k) g off :=
  ⟨hg, h0, h1, h2, ⟨none, 0, h3, .inl rfl⟩, ⟨none, 0, h4, .inl rfl⟩, ⟨none, 0, h5, .inl rfl⟩, ⟨none, 0, h6, .inl rfl⟩⟩
theorem leaf_var (y : ByteArray) {W : World} {B g off : Nat} (hg : g < B) (h0 : W.cell? ⟨g, off, none⟩ = some (.int .i64 1)) (h1 : W.cell? ⟨g, off + 1, none⟩ = some (.string y)) (h2 : W.cell? ⟨g, off + 2, none⟩ = some (.int .i64 0)) (h3 : W.cell? ⟨g, off + 3, none⟩ = some (.slice none 0 0)) (h4 : W.cell? ⟨g, off + 4, none⟩ = some (.slice none 0 0)) (h5 : W.cell? ⟨g, off + 5, none⟩ = some (.slice none 0 0)) (h6 : W.cell? ⟨g, off + 6, none⟩ = some (.slice none 0 0)) : ExAt W B 1 (varT y) g off :=
  ⟨hg, h0, h1, h2, ⟨none, 0, h3, .inl rfl⟩, ⟨none, 0, h4, .inl rfl⟩, ⟨none, 0, h5, .inl rfl⟩, ⟨none, 0, h6, .inl rfl⟩⟩
theorem var_val (y : ByteArray) (W : World) : ExVal W W.heap.size 0 (varT y) (.agg #[.int .i64 1, .string y, .int .i64 0, .slice none 0 0, .slice none 0 0, .slice none 0 0, .slice none 0 0]) :=
  ⟨none, 0, none, 0, none, 0, none, 0, rfl, .inl rfl, .inl rfl, .inl rfl, .inl rfl⟩
/-- The value has its rows' blocks; what it says is wanted of a program that it stands in. -/
def MainIs (v : Value) (W : World) (M : Nat) : Prop := ∃ c0 c1 c2 c3 c4 c5 c6 T, v = .agg #[c0, c1, c2, c3, c4, c5, c6] ∧ Blk W M #[.string mainB, c0, c1, c2, c3, c4, c5, c6] T
theorem ckVar_c (w : World) : Calls Tryz.prog 18 #[.agg #[.int .i64 1, .string yB7, .int .i64 0, .slice none 0 0, .slice none 0 0, .slice none 0 0, .slice none 0 0]] w fun r w' => ∃ u, r = .returned u ∧ Below w.heap.size w w' ∧ Calls Tryz.prog 17 #[u] w' fun r w2 => r = .returned (.int .i64 8) ∧ Below w'.heap.size w' w2 := by
  have h9 := ckProg_c 0 (varT yB7) _ w (var_val yB7 w) (fit_var yB7 (small_len (by decide))) (nm_var yB7 (by decide)) (by decide) (by decide) (by decide) (by
    rintro W M B hE hb ⟨c0, c1, c2, c3, c4, c5, c6, T, e, hk⟩
    cases e
    exact cp_leaf ⟨_, _, _, hk.cell 7 _ rfl, Nat.le_refl _⟩ rfl rfl rfl) true (by
    constructor
    · intro _; exact ⟨_, free_var⟩
    · intro _; rfl)
  rw [ck_var] at h9
  exact h9
theorem con_val {W : World} {g : Nat} {T : TypeId} (h : Blk W g #[.int .i64 2, .string ⟨#[]⟩, .int .i64 1, .slice none 0 0, .slice none 0 0, .slice none 0 0, .slice none 0 0] T) : ExVal W W.heap.size 1 conT (.agg #[.int .i64 4, .string consN, .int .i64 0, .slice none 0 0, .slice none 0 0, .slice (some ⟨g, 0, none⟩) 1 1, .slice none 0 0]) := by
  refine ⟨none, 0, none, 0, _, _, none, 0, rfl, .inl rfl, .inl rfl, ?_, .inl rfl⟩
  refine .inr ⟨g, 0, rfl, h.lt, fun k hk => ?_⟩
  have hk9 : k < 1 := hk
  have hk0 : k = 0 := by omega
  subst hk0
  exact leaf_num 1 h.lt (h.cell 0 _ rfl) (h.cell 1 _ rfl) (h.cell 2 _ rfl) (h.cell 3 _ rfl) (h.cell 4 _ rfl) (h.cell 5 _ rfl) (h.cell 6 _ rfl)
theorem con_ck (g : Nat) (T : TypeId) (w : World) (h : Blk w g #[.int .i64 2, .string ⟨#[]⟩, .int .i64 1, .slice none 0 0, .slice none 0 0, .slice none 0 0, .slice none 0 0] T) : Calls Tryz.prog 18 #[.agg #[.int .i64 4, .string consN, .int .i64 0, .slice none 0 0, .slice none 0 0, .slice (some ⟨g, 0, none⟩) 1 1, .slice none 0 0]] w fun r w' => ∃ u, r = .returned u ∧ Below w.heap.size w w' ∧ Calls Tryz.prog 17 #[u] w' fun r w2 => r = .returned (.int .i64 9) ∧ Below w'.heap.size w' w2 := by
  have h9 := ckProg_c 1 conT _ w (con_val h) fit_con nm_con (by decide) (by decide) (by decide) (by
    rintro W M B hE hb ⟨c0, c1, c2, c3, c4, c5, c6, T', e, hk⟩
    cases e
    have hg := h.below hb
    refine ⟨fun o n c e => ?_, fun g' x' n c hg' e k hk9 => ?_, fun g' x' n c hg' e k hk9 => ?_, fun g' x' n c hg' e k hk9 => ?_⟩
    · have h1 := (hk.cell 7 _ rfl).symm.trans e
      cases h1; exact Nat.le_refl _
    · cases hk9
    · have h1 := (hk.cell 6 _ rfl).symm.trans e
      cases h1
      have hk8 : k < 1 := hk9
      have hk0 : k = 0 := by omega
      subst hk0
      exact cp_leaf ⟨_, _, _, hg.cell 6 _ rfl, Nat.le_refl _⟩ rfl rfl rfl
    · cases hk9) false (by
    constructor
    · intro h; cases h
    · rintro ⟨x, hx⟩
      rw [free_con] at hx; cases hx)
  rw [ck_con] at h9
  exact h9
theorem prm_val {W : World} {g : Nat} {T : TypeId} (h : Blk W g #[.int .i64 2, .string ⟨#[]⟩, .int .i64 1, .slice none 0 0, .slice none 0 0, .slice none 0 0, .slice none 0 0, .int .i64 2, .string ⟨#[]⟩, .int .i64 2, .slice none 0 0, .slice none 0 0, .slice none 0 0, .slice none 0 0, .int .i64 2, .string ⟨#[]⟩, .int .i64 3, .slice none 0 0, .slice none 0 0, .slice none 0 0, .slice none 0 0] T) : ExVal W W.heap.size 1 prmT (.agg #[.int .i64 9, .string addN, .int .i64 0, .slice none 0 0, .slice none 0 0, .slice (some ⟨g, 0, none⟩) 3 3, .slice none 0 0]) := by
  refine ⟨none, 0, none, 0, _, _, none, 0, rfl, .inl rfl, .inl rfl, ?_, .inl rfl⟩
  refine .inr ⟨g, 0, rfl, h.lt, fun k hk => ?_⟩
  have hk9 : k < 3 := hk
  rcases (by omega : k = 0 ∨ k = 1 ∨ k = 2) with rfl | rfl | rfl
  · exact leaf_num 1 h.lt (h.cell 0 _ rfl) (h.cell 1 _ rfl) (h.cell 2 _ rfl) (h.cell 3 _ rfl) (h.cell 4 _ rfl) (h.cell 5 _ rfl) (h.cell 6 _ rfl)
  · exact leaf_num 2 h.lt (h.cell 7 _ rfl) (h.cell 8 _ rfl) (h.cell 9 _ rfl) (h.cell 10 _ rfl) (h.cell 11 _ rfl) (h.cell 12 _ rfl) (h.cell 13 _ rfl)
  · exact leaf_num 3 h.lt (h.cell 14 _ rfl) (h.cell 15 _ rfl) (h.cell 16 _ rfl) (h.cell 17 _ rfl) (h.cell 18 _ rfl) (h.cell 19 _ rfl) (h.cell 20 _ rfl)
theorem prm_ck (g : Nat) (T : TypeId) (w : World) (h : Blk w g #[.int .i64 2, .string ⟨#[]⟩, .int .i64 1, .slice none 0 0, .slice none 0 0, .slice none 0 0, .slice none 0 0, .int .i64 2, .string ⟨#[]⟩, .int .i64 2, .slice none 0 0, .slice none 0 0, .slice none 0 0, .slice none 0 0, .int .i64 2, .string ⟨#[]⟩, .int .i64 3, .slice none 0 0, .slice none 0 0, .slice none 0 0, .slice none 0 0] T) : Calls Tryz.prog 18 #[.agg #[.int .i64 9, .string addN, .int .i64 0, .slice none 0 0, .slice none 0 0, .slice (some ⟨g, 0, none⟩) 3 3, .slice none 0 0]] w fun r w' => ∃ u, r = .returned u ∧ Below w.heap.size w w' ∧ Calls Tryz.prog 17 #[u] w' fun r w2 => r = .returned (.int .i64 9) ∧ Below w'.heap.size w' w2 := by
  have h9 := ckProg_c 1 prmT _ w (prm_val h) fit_prm nm_prm (by decide) (by decide) (by decide) (by
    rintro W M B hE hb ⟨c0, c1, c2, c3, c4, c5, c6, T', e, hk⟩
    cases e
    have hg := h.below hb
    refine ⟨fun o n c e => ?_, fun g' x' n c hg' e k hk9 => ?_, fun g' x' n c hg' e k hk9 => ?_, fun g' x' n c hg' e k hk9 => ?_⟩
    · have h1 := (hk.cell 7 _ rfl).symm.trans e
      cases h1; exact Nat.le_refl _
    · cases hk9
    · have h1 := (hk.cell 6 _ rfl).symm.trans e
      cases h1
      have hk8 : k < 3 := hk9
      rcases (by omega : k = 0 ∨ k = 1 ∨ k = 2) with rfl | rfl | rfl
      · exact cp_leaf ⟨_, _, _, hg.cell 6 _ rfl, Nat.le_refl _⟩ rfl rfl rfl
      · exact cp_leaf ⟨_, _, _, hg.cell 13 _ rfl, Nat.le_refl _⟩ rfl rfl rfl
      · exact cp_leaf ⟨_, _, _, hg.cell 20 _ rfl, Nat.le_refl _⟩ rfl rfl rfl
    · cases hk9) false (by
    constructor
    · intro h; cases h
    · rintro ⟨x, hx⟩
      rw [free_prm] at hx; cases hx)
  rw [ck_prm] at h9
  exact h9
theorem two_val {W : World} {g a : Nat} {T T2 : TypeId} (h : Blk W g #[.int .i64 2, .string ⟨#[]⟩, .int .i64 1, .slice none 0 0, .slice none 0 0, .slice none 0 0, .slice none 0 0] T) (h2 : Blk W a #[.int .i64 2, .string ⟨#[]⟩, .int .i64 1, .slice none 0 0, .int .i64 2, .string ⟨#[]⟩, .int .i64 1, .slice none 0 0, .slice none 0 0, .slice none 0 0, .slice none 0 0, .int .i64 2, .string ⟨#[]⟩, .int .i64 1, .slice none 0 0, .int .i64 2, .string ⟨#[]⟩, .int .i64 2, .slice none 0 0, .slice none 0 0, .slice none 0 0, .slice none 0 0] T2) : ExVal W W.heap.size 1 twoT (.agg #[.int .i64 8, .string ⟨#[]⟩, .int .i64 0, .slice none 0 0, .slice none 0 0, .slice (some ⟨g, 0, none⟩) 1 1, .slice (some ⟨a, 0, none⟩) 2 2]) := by
  refine ⟨none, 0, none, 0, _, _, _, _, rfl, .inl rfl, .inl rfl, ?_, ?_⟩
  · refine .inr ⟨g, 0, rfl, h.lt, fun k hk => ?_⟩
    have hk9 : k < 1 := hk
    have hk0 : k = 0 := by omega
    subst hk0
    exact leaf_num 1 h.lt (h.cell 0 _ rfl) (h.cell 1 _ rfl) (h.cell 2 _ rfl) (h.cell 3 _ rfl) (h.cell 4 _ rfl) (h.cell 5 _ rfl) (h.cell 6 _ rfl)
  · refine .inr ⟨a, 0, rfl, h2.lt, fun k hk => ?_⟩
    have hk9 : k < 2 := hk
    rcases (by omega : k = 0 ∨ k = 1) with rfl | rfl
    · exact ⟨h2.cell 0 _ rfl, h2.cell 1 _ rfl, h2.cell 2 _ rfl, ⟨none, 0, h2.cell 3 _ rfl, .inl rfl⟩, leaf_num 1 h2.lt (h2.cell 4 _ rfl) (h2.cell 5 _ rfl) (h2.cell 6 _ rfl) (h2.cell 7 _ rfl) (h2.cell 8 _ rfl) (h2.cell 9 _ rfl) (h2.cell 10 _ rfl)⟩
    · exact ⟨h2.cell 11 _ rfl, h2.cell 12 _ rfl, h2.cell 13 _ rfl, ⟨none, 0, h2.cell 14 _ rfl, .inl rfl⟩, leaf_num 2 h2.lt (h2.cell 15 _ rfl) (h2.cell 16 _ rfl) (h2.cell 17 _ rfl) (h2.cell 18 _ rfl) (h2.cell 19 _ rfl) (h2.cell 20 _ rfl) (h2.cell 21 _ rfl)⟩
theorem two_ck (g a : Nat) (T T2 : TypeId) (w : World) (h : Blk w g #[.int .i64 2, .string ⟨#[]⟩, .int .i64 1, .slice none 0 0, .slice none 0 0, .slice none 0 0, .slice none 0 0] T) (h2 : Blk w a #[.int .i64 2, .string ⟨#[]⟩, .int .i64 1, .slice none 0 0, .int .i64 2, .string ⟨#[]⟩, .int .i64 1, .slice none 0 0, .slice none 0 0, .slice none 0 0, .slice none 0 0, .int .i64 2, .string ⟨#[]⟩, .int .i64 1, .slice none 0 0, .int .i64 2, .string ⟨#[]⟩, .int .i64 2, .slice none 0 0, .slice none 0 0, .slice none 0 0, .slice none 0 0] T2) : Calls Tryz.prog 18 #[.agg #[.int .i64 8, .string ⟨#[]⟩, .int .i64 0, .slice none 0 0, .slice none 0 0, .slice (some ⟨g, 0, none⟩) 1 1, .slice (some ⟨a, 0, none⟩) 2 2]] w fun r w' => ∃ u, r = .returned u ∧ Below w.heap.size w w' ∧ Calls Tryz.prog 17 #[u] w' fun r w2 => r = .returned (.int .i64 2) ∧ Below w'.heap.size w' w2 := by
  have h9 := ckProg_c 1 twoT _ w (two_val h h2) fit_two nm_two (by decide) (by decide) (by decide) (by
    rintro W M B hE hb ⟨c0, c1, c2, c3, c4, c5, c6, T', e, hk⟩
    cases e
    have hg := h.below hb
    have ha := h2.below hb
    refine ⟨fun o n c e => ?_, fun g' x' n c hg' e k hk9 => ?_, fun g' x' n c hg' e k hk9 => ?_, fun g' x' n c hg' e k hk9 => ?_⟩
    · have h1 := (hk.cell 7 _ rfl).symm.trans e
      cases h1; exact Nat.le_refl _
    · cases hk9
    · have h1 := (hk.cell 6 _ rfl).symm.trans e
      cases h1
      have hk8 : k < 1 := hk9
      have hk0 : k = 0 := by omega
      subst hk0
      exact cp_leaf ⟨_, _, _, hg.cell 6 _ rfl, Nat.le_refl _⟩ rfl rfl rfl
    · have h1 := (hk.cell 7 _ rfl).symm.trans e
      cases h1
      have hk8 : k < 2 := hk9
      rcases (by omega : k = 0 ∨ k = 1) with rfl | rfl
      · exact cp_leaf ⟨_, _, _, ha.cell 10 _ rfl, Nat.le_refl _⟩ rfl rfl rfl
      · exact cp_leaf ⟨_, _, _, ha.cell 21 _ rfl, Nat.le_refl _⟩ rfl rfl rfl) false (by
    constructor
    · intro h; cases h
    · rintro ⟨x, hx⟩
      rw [free_two] at hx; cases hx)
  rw [ck_two] at h9
  exact h9
/-- A program without bindings. -/
theorem none_ck (g : Nat) (w : World) (h : Blk w g bi7V 59) : Calls Tryz.prog 17 #[.agg #[.slice (some ⟨g, 0, none⟩) 5 5, .slice none 0 0]] w fun r w2 => r = .returned (.int .i64 10) ∧ Below w.heap.size w w2 := by
  have h9 := Check_c 1 [] (Nat.zero_le _) g 5 none 0 w.heap.size w h h.lt (.inl rfl) (Nat.le_refl _) (fun b hb => by cases hb) (fun b hb => by cases hb) (fun b hb => by cases hb) (by decide) (by decide) (by decide) (fun k hk => by cases hk) false (by
    constructor
    · intro h; cases h
    · rintro ⟨x, hx⟩; cases hx)
  rw [ck_none] at h9
  exact h9
/-- let a = b 1; b = 2 in a. -/
theorem let_val {W : World} {gb ga gx : Nat} {T1 T2 T3 : TypeId} (h1 : Blk W gx #[.int .i64 1, .string bB7, .int .i64 0, .slice none 0 0, .slice none 0 0, .slice none 0 0, .slice none 0 0, .int .i64 2, .string ⟨#[]⟩, .int .i64 1, .slice none 0 0, .slice none 0 0, .slice none 0 0, .slice none 0 0] T1) (h2 : Blk W gb #[.string aB7, .int .i64 6, .string ⟨#[]⟩, .int .i64 0, .slice none 0 0, .slice none 0 0, .slice (some ⟨gx, 0, none⟩) 2 2, .slice none 0 0, .string bB7, .int .i64 2, .string ⟨#[]⟩, .int .i64 2, .slice none 0 0, .slice none 0 0, .slice none 0 0, .slice none 0 0] T2) (h3 : Blk W ga #[.int .i64 1, .string aB7, .int .i64 0, .slice none 0 0, .slice none 0 0, .slice none 0 0, .slice none 0 0] T3) :
    ExVal W W.heap.size 2 letT (.agg #[.int .i64 7, .string ⟨#[]⟩, .int .i64 0, .slice none 0 0, .slice (some ⟨gb, 0, none⟩) 2 2, .slice (some ⟨ga, 0, none⟩) 1 1, .slice none 0 0]) := by
  refine ⟨none, 0, _, _, _, _, none, 0, rfl, .inl rfl, ?_, ?_, .inl rfl⟩
  · refine .inr ⟨gb, 0, rfl, h2.lt, fun k hk => ?_⟩
    have hk9 : k < 2 := hk
    rcases (by omega : k = 0 ∨ k = 1) with rfl | rfl
    · refine ⟨h2.cell 0 _ rfl, ⟨h2.lt, h2.cell 1 _ rfl, h2.cell 2 _ rfl, h2.cell 3 _ rfl, ⟨none, 0, h2.cell 4 _ rfl, .inl rfl⟩, ⟨none, 0, h2.cell 5 _ rfl, .inl rfl⟩, ⟨_, _, h2.cell 6 _ rfl, ?_⟩, ⟨none, 0, h2.cell 7 _ rfl, .inl rfl⟩⟩⟩
      refine .inr ⟨gx, 0, rfl, h1.lt, fun k hk => ?_⟩
      have hk9 : k < 2 := hk
      rcases (by omega : k = 0 ∨ k = 1) with rfl | rfl
      · exact leaf_var bB7 h1.lt (h1.cell 0 _ rfl) (h1.cell 1 _ rfl) (h1.cell 2 _ rfl) (h1.cell 3 _ rfl) (h1.cell 4 _ rfl) (h1.cell 5 _ rfl) (h1.cell 6 _ rfl)
      · exact leaf_num 1 h1.lt (h1.cell 7 _ rfl) (h1.cell 8 _ rfl) (h1.cell 9 _ rfl) (h1.cell 10 _ rfl) (h1.cell 11 _ rfl) (h1.cell 12 _ rfl) (h1.cell 13 _ rfl)
    · exact ⟨h2.cell 8 _ rfl, ⟨h2.lt, h2.cell 9 _ rfl, h2.cell 10 _ rfl, h2.cell 11 _ rfl, ⟨none, 0, h2.cell 12 _ rfl, .inl rfl⟩, ⟨none, 0, h2.cell 13 _ rfl, .inl rfl⟩, ⟨none, 0, h2.cell 14 _ rfl, .inl rfl⟩, ⟨none, 0, h2.cell 15 _ rfl, .inl rfl⟩⟩⟩
  · refine .inr ⟨ga, 0, rfl, h3.lt, fun k hk => ?_⟩
    have hk9 : k < 1 := hk
    have hk0 : k = 0 := by omega
    subst hk0
    exact ⟨h3.lt, h3.cell 0 _ rfl, h3.cell 1 _ rfl, h3.cell 2 _ rfl, ⟨none, 0, h3.cell 3 _ rfl, .inl rfl⟩, ⟨none, 0, h3.cell 4 _ rfl, .inl rfl⟩, ⟨none, 0, h3.cell 5 _ rfl, .inl rfl⟩, ⟨none, 0, h3.cell 6 _ rfl, .inl rfl⟩⟩
/-- \\ p -> x y. -/
theorem la_val {W : World} {gp gm ga : Nat} {T1 T2 T3 : TypeId} {p x y : ByteArray} (h1 : Blk W gp #[.string p] T1) (h2 : Blk W gm #[.int .i64 6, .string ⟨#[]⟩, .int .i64 0, .slice none 0 0, .slice none 0 0, .slice (some ⟨ga, 0, none⟩) 2 2, .slice none 0 0] T2) (h3 : Blk W ga #[.int .i64 1, .string x, .int .i64 0, .slice none 0 0, .slice none 0 0, .slice none 0 0, .slice none 0 0, .int .i64 1, .string y, .int .i64 0, .slice none 0 0, .slice none 0 0, .slice none 0 0, .slice none 0 0] T3) :
    ExVal W W.heap.size 2 (laT p x y) (.agg #[.int .i64 5, .string ⟨#[]⟩, .int .i64 0, .slice (some ⟨gp, 0, none⟩) 1 1, .slice none 0 0, .slice (some ⟨gm, 0, none⟩) 1 1, .slice none 0 0]) := by
  refine ⟨_, _, none, 0, _, _, none, 0, rfl, ?_, .inl rfl, ?_, .inl rfl⟩
  · refine .inr ⟨gp, 0, rfl, h1.lt, fun k hk => ?_⟩
    have hk9 : k < 1 := hk
    have hk0 : k = 0 := by omega
    subst hk0
    exact h1.cell 0 _ rfl
  · refine .inr ⟨gm, 0, rfl, h2.lt, fun k hk => ?_⟩
    have hk9 : k < 1 := hk
    have hk0 : k = 0 := by omega
    subst hk0
    refine ⟨h2.lt, h2.cell 0 _ rfl, h2.cell 1 _ rfl, h2.cell 2 _ rfl, ⟨none, 0, h2.cell 3 _ rfl, .inl rfl⟩, ⟨none, 0, h2.cell 4 _ rfl, .inl rfl⟩, ⟨_, _, h2.cell 5 _ rfl, ?_⟩, ⟨none, 0, h2.cell 6 _ rfl, .inl rfl⟩⟩
    refine .inr ⟨ga, 0, rfl, h3.lt, fun k hk => ?_⟩
    have hk9 : k < 2 := hk
    rcases (by omega : k = 0 ∨ k = 1) with rfl | rfl
    · exact leaf_var x h3.lt (h3.cell 0 _ rfl) (h3.cell 1 _ rfl) (h3.cell 2 _ rfl) (h3.cell 3 _ rfl) (h3.cell 4 _ rfl) (h3.cell 5 _ rfl) (h3.cell 6 _ rfl)
    · exact leaf_var y h3.lt (h3.cell 7 _ rfl) (h3.cell 8 _ rfl) (h3.cell 9 _ rfl) (h3.cell 10 _ rfl) (h3.cell 11 _ rfl) (h3.cell 12 _ rfl) (h3.cell 13 _ rfl)
end Go.Proofs.YtegdloenakachaaGreatDoor

namespace Go.Proofs.YtegdloenakachaaGreatDoor
open Go.RowKit Go.Shelf Go.Maps
set_option linter.unusedVariables false
theorem nm_la {t : Tr (3 + 1)} {p x y : ByteArray} (h : IsLa t p x y) (hp : p.size ≤ maxLen) (hx : x.size ≤ maxLen) (hy : y.size ≤ maxLen) : NmOK (3 + 1) t := by
  obtain ⟨u, e, k, n, m, q, b, l, a, c, f, ⟨g1, g2, g3, g4, g5, g6, g7⟩, ⟨i1, i2, i3, i4, i5, i6, i7⟩⟩ := h.body
  have leaf : ∀ v : Tr (1 + 1), (TrN.name v).size ≤ maxLen → TrN.params v = [] → TrN.binds v = [] → TrN.args v = [] → TrN.alts v = [] → NmOK (1 + 1) v := by
    intro v h1 h2 h3 h4 h5
    refine ⟨h1, fun x hx => ?_, fun b hb => ?_, fun e he => ?_, fun a ha => ?_⟩
    · unfold bndM at hx; rw [h2, h3] at hx; cases hx
    · rw [h3] at hb; cases hb
    · rw [h4] at he; cases he
    · rw [h5] at ha; cases ha
  have hA : NmOK (1 + 1) a := leaf a (by rw [g2]; exact hx) g4 g5 g6 g7
  have hC : NmOK (1 + 1) c := leaf c (by rw [i2]; exact hy) i4 i5 i6 i7
  have hU : NmOK (2 + 1) u := by
    refine ⟨by rw [n]; exact Nat.zero_le _, fun x hx => ?_, fun b' hb => ?_, fun e he => ?_, fun a ha => ?_⟩
    · unfold bndM at hx; rw [q, b] at hx; cases hx
    · rw [b] at hb; cases hb
    · rw [f] at he
      rcases List.mem_cons.1 he with rfl | he
      · exact hA
      · rcases List.mem_cons.1 he with rfl | he
        · exact hC
        · cases he
    · rw [l] at ha; cases ha
  refine ⟨by rw [h.name]; exact Nat.zero_le _, fun x hx => ?_, fun b' hb => ?_, fun e' he => ?_, fun a ha => ?_⟩
  · unfold bndM at hx; rw [h.params, h.binds] at hx
    rcases List.mem_cons.1 hx with rfl | hx
    · exact hp
    · cases hx
  · rw [h.binds] at hb; cases hb
  · rw [e] at he
    rcases List.mem_cons.1 he with rfl | he
    · exact hU
    · cases he
  · rw [h.alts] at ha; cases ha
theorem cost_la {t : Tr (3 + 1)} {p x y : ByteArray} (h : IsLa t p x y) : costM (3 + 1) t = 1 ∧ sizeM (3 + 1) t = 4 := by
  obtain ⟨u, e, k, n, m, q, b, l, a, c, f, ⟨g1, g2, g3, g4, g5, g6, g7⟩, ⟨i1, i2, i3, i4, i5, i6, i7⟩⟩ := h.body
  have leaf : ∀ v : Tr (1 + 1), TrN.params v = [] → TrN.binds v = [] → TrN.args v = [] → TrN.alts v = [] → costM (1 + 1) v = 0 ∧ sizeM (1 + 1) v = 1 := by
    intro v h2 h3 h4 h5
    constructor
    · unfold costM bndM; rw [h2, h3, h4, h5]; rfl
    · unfold sizeM; rw [h3, h4, h5]; rfl
  obtain ⟨a1, a2⟩ := leaf a g4 g5 g6 g7
  obtain ⟨c1, c2⟩ := leaf c i4 i5 i6 i7
  have hU : costM (2 + 1) u = 0 ∧ sizeM (2 + 1) u = 3 := by
    constructor
    · unfold costM bndM; rw [q, b, f, l]
      show (0 + 0 + (costM (1 + 1) a + (costM (1 + 1) c + 0)) + 0) = 0
      rw [a1, c1]
    · unfold sizeM; rw [b, f, l]
      show (1 + 0 + (sizeM (1 + 1) a + (sizeM (1 + 1) c + 0)) + 0) = 3
      rw [a2, c2]
  constructor
  · unfold costM bndM; rw [h.params, h.binds, e, h.alts]
    show (1 + 0 + (costM (2 + 1) u + 0) + 0) = 1
    rw [hU.1]
  · unfold sizeM; rw [h.binds, e, h.alts]
    show (1 + 0 + (sizeM (2 + 1) u + 0) + 0) = 4
    rw [hU.2]
theorem is_la (p x y : ByteArray) : IsLa (lift1 3 (laT p x y)) p x y := ⟨rfl, rfl, rfl, rfl, rfl, rfl, ⟨lift1 2 (apT x y), rfl, rfl, rfl, rfl, rfl, rfl, rfl, lift1 1 (varT x), lift1 1 (varT y), rfl, ⟨rfl, rfl, rfl, rfl, rfl, rfl, rfl⟩, ⟨rfl, rfl, rfl, rfl, rfl, rfl, rfl⟩⟩⟩
/-- What Subst answers there, as a value. -/
def SubEx (W : World) (v : Value) : Prop := ∃ (n : Nat) (t : Tr (3 + 1)), n ≤ 1000000000000000 ∧ yB7.data.toList ≠ (numB n).data.toList ∧ IsLa t (numB n) yB7 (numB n) ∧ ExVal W W.heap.size 3 t v
theorem SubEx.grow {W W' : World} {v : Value} (h : SubEx W v) (hb : Below W.heap.size W W') : SubEx W' v := by
  obtain ⟨n, t, h1, h2, h3, h4⟩ := h
  exact ⟨n, t, h1, h2, h3, h4.grow hb⟩
def exL : List (List UInt8) := [[121], [120]]
theorem exL_ok (x : List UInt8) : decide (x ∈ exL) = (decide (x ∈ allN ownN (2 + 1) (laT yB7 xB7 yB7)) || freeM (0 + 1) (varT yB7) [] x) := by
  have e : allN ownN (2 + 1) (laT yB7 xB7 yB7) = [[121], [120], [121]] := by decide
  rw [e]
  have f : freeM (0 + 1) (varT yB7) [] x = (x == [121]) := by
    show ((((1 : Int) == 1) && (!(([] : List (List UInt8))).contains yB7.data.toList) && (x == yB7.data.toList)) || false || false || false) = _
    have : yB7.data.toList = [121] := rfl
    rw [this]; simp
  rw [f]
  unfold exL
  by_cases h1 : x = [121]
  · subst h1; decide
  · by_cases h2 : x = [120]
    · subst h2; decide
    · simp [h1, h2]
theorem fit_ap (x y : ByteArray) (hx : x.size ≤ 1000) (hy : y.size ≤ 1000) : Fit 2 (apT x y) := fit_args (d := 1) (Nat.zero_le _) rfl rfl rfl (by show 2 ≤ 2000000; omega) (fun e he => by
  rcases List.mem_cons.1 he with rfl | he
  · exact fit_var x (small_len hx)
  · rcases List.mem_cons.1 he with rfl | he
    · exact fit_var y (small_len hy)
    · cases he)
theorem fit_la (p x y : ByteArray) (hp : p.size ≤ 1000) (hx : x.size ≤ 1000) (hy : y.size ≤ 1000) : Fit 3 (laT p x y) := by
  refine ⟨⟨Nat.zero_le _, ⟨by show 1 ≤ 2000000; omega, fun z hz => ?_⟩, ⟨Nat.zero_le _, fun b hb => by cases hb⟩, by show 1 ≤ 2000000; omega, Nat.zero_le _, fun a ha => by cases ha⟩, fun b hb => ?_, fun e he => ?_, fun a ha => ?_⟩
  · rcases List.mem_cons.1 hz with rfl | hz
    · exact small_len hp
    · cases hz
  · cases hb
  · rcases List.mem_cons.1 he with rfl | he
    · exact fit_ap x y hx hy
    · cases he
  · cases ha
theorem nm_laT (p x y : ByteArray) (hp : p.size ≤ 100) (hx : x.size ≤ 100) (hy : y.size ≤ 100) : NmOK 3 (laT p x y) := by
  refine ⟨Nat.zero_le _, fun z hz => ?_, fun b hb => ?_, fun e he => ?_, fun a ha => ?_⟩
  · rcases List.mem_cons.1 hz with rfl | hz
    · exact small_len (by omega)
    · cases hz
  · cases hb
  · rcases List.mem_cons.1 he with rfl | he
    · refine nm_args (d := 1) (t := apT x y) (Nat.zero_le _) rfl rfl rfl (fun e he => ?_)
      rcases List.mem_cons.1 he with rfl | he
      · exact nm_var x hx
      · rcases List.mem_cons.1 he with rfl | he
        · exact nm_var y hy
        · cases he
    · cases he
  · cases ha
theorem substEx_c (va vb : Value) (w : World) (ha : ExVal w w.heap.size 2 (laT yB7 xB7 yB7) va) (hb : ExVal w w.heap.size 0 (varT yB7) vb) (hgt : GT w) : Calls Tryz.prog 12 #[va, .string xB7, vb] w fun r w' => ∃ v, r = .returned v ∧ SubEx w' v ∧ Below w.heap.size w w' := by
  refine (Subst_c 2 (laT yB7 xB7 yB7) 0 (varT yB7) xB7 va vb w.heap.size w ha hb (Nat.le_refl _) (by decide) (by decide) (by decide) (by decide) (fit_la _ _ _ (by decide) (by decide) (by decide)) (nm_laT _ _ _ (by decide) (by decide) (by decide)) (by decide) (small_len (by decide)) (by decide) exL (fit_var yB7 (small_len (by decide))) (nm_var yB7 (by decide)) (by decide) (by decide) exL_ok hgt (by unfold Bnd; decide)).mono ?_
  rintro r w' ⟨v, rfl, h⟩
  obtain ⟨φ', t', h1, ⟨last, h2, h3⟩, h4, h5⟩ := h.val
  obtain ⟨hn, hL⟩ := sub_ex h1
  refine ⟨v, rfl, ⟨φ' [121], t', Nat.le_trans (h2.le _) h3, ?_, hL, h4⟩, h5⟩
  intro e
  have := h2.new [121] hn
  unfold nmL at this
  rw [← e] at this
  exact this (by decide)
theorem numB_small {n : Nat} (h : n ≤ 1000000000000000) : (numB n).size ≤ maxLen := by
  have := numB_size n (by omega)
  unfold maxLen; omega
theorem RowIn.map {α β : Type} {B n : Nat} {P : α → Nat → Nat → Prop} {Q : β → Nat → Nat → Prop} {o : Option Addr} {l : List α} {f : α → β} (h : RowIn B n P o l) (hpq : ∀ x g off, P x g off → Q (f x) g off) : RowIn B n Q o (l.map f) := by
  rcases h with h | ⟨g, off, e, hg, h⟩
  · exact .inl (by rw [h]; rfl)
  · refine .inr ⟨g, off, e, hg, fun k hk => ?_⟩
    rw [List.getElem_map]
    exact hpq _ _ _ (h k (by rw [List.length_map] at hk; exact hk))
theorem ExAt.lift1 {W : World} {B : Nat} : ∀ (d : Nat) (t : Tr d) (g off : Nat), ExAt W B d t g off → ExAt W B (d + 1) (YtegdloenakachaaGreatDoor.lift1 d t) g off
  | 0, t, _, _, _ => nomatch t
  | d + 1, t, g, off, h => by
    obtain ⟨hg, h0, h1, h2, ⟨o3, c3, h3, k3⟩, ⟨o4, c4, h4, k4⟩, ⟨o5, c5, h5, k5⟩, ⟨o6, c6, h6, k6⟩⟩ := h
    refine ⟨hg, h0, h1, h2, ⟨o3, c3, h3, k3⟩, ⟨o4, c4, ?_, ?_⟩, ⟨o5, c5, ?_, ?_⟩, ⟨o6, c6, ?_, ?_⟩⟩
    · show (_ : Option Value) = some (Value.slice o4 ((TrN.binds t).map _).length c4)
      rw [List.length_map]; exact h4
    · refine k4.map (f := fun (b : ByteArray × Tr d) => (b.1, YtegdloenakachaaGreatDoor.lift1 d b.2)) ?_
      rintro x g off ⟨e1, e2⟩
      exact ⟨e1, ExAt.lift1 d _ _ _ e2⟩
    · show (_ : Option Value) = some (Value.slice o5 ((TrN.args t).map _).length c5)
      rw [List.length_map]; exact h5
    · refine k5.map (f := YtegdloenakachaaGreatDoor.lift1 d) ?_
      intro x g off e
      exact ExAt.lift1 d _ _ _ e
    · show (_ : Option Value) = some (Value.slice o6 ((TrN.alts t).map _).length c6)
      rw [List.length_map]; exact h6
    · refine k6.map (f := fun (a : AltH × Tr d) => (a.1, YtegdloenakachaaGreatDoor.lift1 d a.2)) ?_
      rintro x g off ⟨e1, e2, e3, e4, e6⟩
      exact ⟨e1, e2, e3, e4, ExAt.lift1 d _ _ _ e6⟩
theorem ExVal.lift {W : World} {B d : Nat} {t : Tr (d + 1)} {v : Value} (h : ExVal W B d t v) : ExVal W B (d + 1) (YtegdloenakachaaGreatDoor.lift1 (d + 1) t) v := by
  obtain ⟨o3, c3, o4, c4, o5, c5, o6, c6, e, k3, k4, k5, k6⟩ := h
  refine ⟨o3, c3, o4, c4, o5, c5, o6, c6, ?_, k3, ?_, ?_, ?_⟩
  · rw [e]
    show _ = Value.agg #[_, _, _, _, .slice o4 ((TrN.binds t).map _).length c4, .slice o5 ((TrN.args t).map _).length c5, .slice o6 ((TrN.alts t).map _).length c6]
    rw [List.length_map, List.length_map, List.length_map]; rfl
  · refine k4.map (f := fun (b : ByteArray × Tr d) => (b.1, YtegdloenakachaaGreatDoor.lift1 d b.2)) ?_
    rintro x g off ⟨e1, e2⟩
    exact ⟨e1, ExAt.lift1 d _ _ _ e2⟩
  · refine k5.map (f := YtegdloenakachaaGreatDoor.lift1 d) ?_
    intro x g off e
    exact ExAt.lift1 d _ _ _ e
  · refine k6.map (f := fun (a : AltH × Tr d) => (a.1, YtegdloenakachaaGreatDoor.lift1 d a.2)) ?_
    rintro x g off ⟨e1, e2, e3, e4, e6⟩
    exact ⟨e1, e2, e3, e4, ExAt.lift1 d _ _ _ e6⟩
theorem sameEx_c (v1 v2 : Value) (w : World) (h1 : SubEx w v1) (h2 : ExVal w w.heap.size 2 (laT zB7 yB7 zB7) v2) : Calls Tryz.prog 16 #[v1, v2] w fun r w' => r = .returned (.bool true) ∧ Below w.heap.size w w' := by
  obtain ⟨n, t, hn, hne, hL, hV⟩ := h1
  have hL2 := is_la zB7 yB7 zB7
  have hV2 : ExVal w w.heap.size 3 (lift1 3 (laT zB7 yB7 zB7)) v2 := h2.lift
  have hS := same_la hL hL2 hne (by decide)
  have h9 := Same_c 3 t (lift1 3 (laT zB7 yB7 zB7)) v1 v2 w.heap.size w hV hV2 (Nat.le_refl _) (nm_la hL (numB_small hn) (small_len (by decide)) (numB_small hn)) (nm_la hL2 (small_len (by decide)) (small_len (by decide)) (small_len (by decide))) (by rw [(cost_la hL).1]; decide) (by rw [(cost_la hL2).1]; decide) (by rw [(cost_la hL).2]; decide) (by rw [(cost_la hL2).2]; decide) (by decide)
  rw [hS] at h9
  exact h9
end Go.Proofs.YtegdloenakachaaGreatDoor
