/-
  shaped, by a contract.
-/
import Derived.Test.YtegdloenakachaaGreatDoorCN12
import Derived.Deep.RegionHeld3
namespace Go.Proofs.YtegdloenakachaaGreatDoor
open Go.RowKit Go.Shelf Go.Maps
set_option linter.unusedVariables false

theorem drew_below (w : World) : Below w.heap.size w w.drew := ⟨rfl, rfl, rfl, Nat.le_refl _, fun _ _ => rfl⟩
theorem dqb (w : World) (n : Nat) : Below w.heap.size w (w.drewN n) := ⟨rfl, rfl, rfl, Nat.le_refl _, fun _ _ => rfl⟩
/-- Has an alternative as many names as its constructor has parts? -/
def altShB (fs : List CT) (a : AltH) : Bool := !(decide (a.kind = 1)) || takesM fs a.name.data.toList a.vars.length
/-- Has an expression as many parts as its constructor or primitive? -/
def shN (fs : List CT) {T : Type} (t : TrN T) : Bool := if t.kind = 4 then takesM fs t.name.data.toList t.args.length else if t.kind = 9 then decide (arM t.name.toList = (t.args.length : Int)) else t.alts.all (fun a => altShB fs a.1)
set_option maxRecDepth 100000 in
set_option maxHeartbeats 4000000 in
theorem shaped_con (fs : List CT) (m c : Nat) (d : Nat) (t : Tr (d + 1)) (B g off : Nat) (w : World) (hC : CtSt w m c fs) (hE : ExAt w B (d + 1) t g off) (hw : B ≤ w.heap.size) (hF : FitN t) (hk : TrN.kind t = 4) :
    Calls Tryz.prog 85 #[.map (some m), .pointer (some ⟨g, off, none⟩)] w fun e w' => e = .returned (.bool (shN fs t)) ∧ Below w.heap.size w w' := by
  have HR : Hid (shN fs t = takesM fs (TrN.name t).data.toList (TrN.args t).length) := by show _ = _; unfold shN; rw [if_pos hk]
  have HT : Hid (Calls Tryz.prog 126 #[.map (some m), .string (TrN.name t), .int .i64 ((TrN.args t).length : Int)] w.drew fun e w' => e = .returned (.bool (takesM fs (TrN.name t).data.toList (TrN.args t).length)) ∧ Below w.heap.size w w') := by
    refine (takes_c fs m c _ _ w.drew (hC.below (drew_below w)) hF.1).mono ?_
    rintro e w' ⟨rfl, h9⟩
    exact ⟨rfl, (drew_below w).trans h9⟩
  obtain ⟨hg, h0, h1, h2, ⟨o3, c3, h3, k3⟩, ⟨o4, c4, h4, k4⟩, ⟨o5, c5, h5, k5⟩, ⟨o6, c6, h6, k6⟩⟩ := hE
  have hgw : g < w.heap.size := by omega
  have hln : ((TrN.args t).length : Int) ≤ 2000000 := by have := hF.2.2.2.1; omega
  rw [hk] at h0
  generalize (TrN.args t).length = n at HR HT h5 hln
  generalize TrN.name t = nm at HR HT h1
  generalize takesM fs nm.data.toList n = R at HR HT
  clear hC hw hF hk k3 k4 k5 k6 h2 h3 h4 h6 hg
  go_enter Tryz.func85, Tryz.ntmps85
  go_wp2
  go_region_with ((go_at_call 126; (with_reducible refine HT.out.mono ?_); rintro e w1 ⟨rfl, hk1⟩; have HK1 : Hid (Below w.heap.size w w1) := hk1; clear hk1))
  all_goals
    go_wp2
    go_ret
    exact ⟨by rw [HR.out]; rfl, HK1.out⟩
set_option maxRecDepth 100000 in
set_option maxHeartbeats 4000000 in
theorem shaped_prim (fs : List CT) (m : Nat) (d : Nat) (t : Tr (d + 1)) (B g off : Nat) (w : World) (hE : ExAt w B (d + 1) t g off) (hw : B ≤ w.heap.size) (hF : FitN t) (hk : TrN.kind t = 9) :
    Calls Tryz.prog 85 #[.map (some m), .pointer (some ⟨g, off, none⟩)] w fun e w' => e = .returned (.bool (shN fs t)) ∧ Below w.heap.size w w' := by
  have HR : Hid (shN fs t = decide (arM (TrN.name t).toList = ((TrN.args t).length : Int))) := by show _ = _; unfold shN; rw [if_neg (by rw [hk]; decide), if_pos hk]
  obtain ⟨hg, h0, h1, h2, ⟨o3, c3, h3, k3⟩, ⟨o4, c4, h4, k4⟩, ⟨o5, c5, h5, k5⟩, ⟨o6, c6, h6, k6⟩⟩ := hE
  have hgw : g < w.heap.size := by omega
  have hln : ((TrN.args t).length : Int) ≤ 2000000 := by have := hF.2.2.2.1; omega
  rw [hk] at h0
  generalize (TrN.args t).length = n at HR h5 hln
  generalize TrN.name t = nm at HR h1
  have HA : Hid (∀ W, Calls Tryz.prog 8 #[.string nm] W fun e w' => e = .returned (.int .i64 (arM nm.toList)) ∧ w' = W) := fun W => arity_c nm W
  generalize arM nm.toList = a at HR HA
  clear hw hF hk k3 k4 k5 k6 h2 h3 h4 h6 hg
  by_cases e : a = (n : Int)
  · have e1 : (a == (n : Int)) = true := by simpa using e
    have e2 : decide (a = (n : Int)) = true := by simpa using e
    have HR2 : Hid (shN fs t = true) := HR.out.trans e2
    clear e HR
    go_enter Tryz.func85, Tryz.ntmps85
    go_wp2
    go_big_quiet ((go_at_call 8; exact Calls.quiet_of_same (HA.out _)))
    go_wp2
    go_ret
    exact ⟨by rw [HR2.out]; rfl, dqb w _⟩
  · have e1 : (a == (n : Int)) = false := by simpa using e
    have e2 : decide (a = (n : Int)) = false := by simpa using e
    have HR2 : Hid (shN fs t = false) := HR.out.trans e2
    clear e HR
    go_enter Tryz.func85, Tryz.ntmps85
    go_wp2
    go_big_quiet ((go_at_call 8; exact Calls.quiet_of_same (HA.out _)))
    go_wp2
    go_ret
    exact ⟨by rw [HR2.out]; rfl, dqb w _⟩
set_option maxRecDepth 100000 in
set_option maxHeartbeats 4000000 in
theorem shaped_alts (fs : List CT) (m c : Nat) (d : Nat) (t : Tr (d + 1)) (B g off : Nat) (w : World) (hC : CtSt w m c fs) (hE : ExAt w B (d + 1) t g off) (hw : B ≤ w.heap.size) (hF : FitN t) (hk4 : TrN.kind t ≠ 4) (hk9 : TrN.kind t ≠ 9) :
    Calls Tryz.prog 85 #[.map (some m), .pointer (some ⟨g, off, none⟩)] w fun e w' => e = .returned (.bool (shN fs t)) ∧ Below w.heap.size w w' := by
  have HR : Hid (shN fs t = (TrN.alts t).all (fun a => altShB fs a.1)) := by show _ = _; unfold shN; rw [if_neg hk4, if_neg hk9]
  have e4 : (TrN.kind t == 4) = false := by simpa using hk4
  have e9 : (TrN.kind t == 9) = false := by simpa using hk9
  obtain ⟨hg, h0, h1, h2, ⟨o3, c3, h3, k3⟩, ⟨o4, c4, h4, k4⟩, ⟨o5, c5, h5, k5⟩, ⟨o6, c6, h6, k6⟩⟩ := hE
  have hgw : g < w.heap.size := by omega
  obtain ⟨n, hn⟩ : ∃ n, (TrN.alts t).length = n := ⟨_, rfl⟩
  obtain ⟨l, hl⟩ : ∃ l, TrN.alts t = l := ⟨_, rfl⟩
  have hni : (n : Int) ≤ 2000000 := by have := hF.2.2.2.2.1; omega
  have HL : Hid (l.length = n ∧ RowIn B 11 (AltAt w B d) o6 l ∧ CtSt w m c fs ∧ B ≤ w.heap.size ∧ ∀ a ∈ l, a.1.name.size ≤ maxLen ∧ a.1.vars.length ≤ 2000000) := ⟨by rw [← hl]; exact hn, by rw [← hl]; exact k6, hC, hw, by rw [← hl]; exact fun a ha => ⟨(hF.2.2.2.2.2 a ha).1, (hF.2.2.2.2.2 a ha).2.1⟩⟩
  rw [hl] at HR
  rw [hn] at h6
  have H6 : Hid (w.cell? ⟨g, off + 6, none⟩ = some (.slice o6 n c6) ∧ g < w.heap.size) := ⟨h6, hgw⟩
  generalize TrN.kind t = kd at e4 e9 h0
  clear hC hw hF k3 k4 k5 k6 h1 h2 h3 h4 h5 hg hk4 hk9 hn hl
  go_enter Tryz.func85, Tryz.ntmps85
  go_wp2
  go_loopw [42] (fun i wr => ∃ k : Nat, k ≤ n ∧ i = .int .i64 k ∧ Hid ((l.take k).all (fun a => altShB fs a.1) = true ∧ Below w.heap.size w wr)) (fun i _ => n - (intOf i).toNat)
  case atStart => exact ⟨0, Nat.zero_le _, rfl, ⟨rfl, Below.refl _ _⟩⟩
  case round =>
    obtain ⟨k, hk, rfl, hS⟩ := hrel
    clear h0 h6 hgw
    have h6r : wr.cell? ⟨g, off + 6, none⟩ = some (.slice o6 n c6) := (hS.out.2.cell (p := ⟨g, off + 6, none⟩) H6.out.2).trans H6.out.1
    have hgr : g < wr.heap.size := Nat.lt_of_lt_of_le H6.out.2 hS.out.2.size
    by_cases hkn : k < n
    · have hkl : k < l.length := by rw [HL.out.1]; exact hkn
      obtain ⟨ga, oa, rfl, hga, hA⟩ : ∃ g off, o6 = some ⟨g, off, none⟩ ∧ g < B ∧ AltAt w B d l[k] g (off + k * 11) := by
        rcases HL.out.2.1 with h9 | ⟨g, off, e, hg, h9⟩
        · rw [h9] at hkl; exact absurd hkl (Nat.not_lt_zero _)
        · exact ⟨g, off, e, hg, h9 k hkl⟩
      have hgaw : ga < w.heap.size := by have := HL.out.2.2.2.1; omega
      have hgar : ga < wr.heap.size := Nat.lt_of_lt_of_le hgaw hS.out.2.size
      have hcl : ∀ j, wr.cell? ⟨ga, j, none⟩ = w.cell? ⟨ga, j, none⟩ := fun j => cell_of_block (hS.out.2.block ga hgaw) j
      obtain ⟨a0, a1, a2, ⟨oo, cc, a3, -⟩, -⟩ := hA
      have b0 := (hcl _).trans a0
      have b1 := (hcl _).trans a1
      have b3 := (hcl _).trans a3
      have hfit := HL.out.2.2.2.2 _ (List.getElem_mem hkl)
      have HT : Hid (∀ b, altShB fs l[k].1 = b → (l.take (k + 1)).all (fun a => altShB fs a.1) = b ∧ (b = false → l.all (fun a => altShB fs a.1) = false)) := by
        intro b hb
        refine ⟨by rw [List.take_succ_eq_append_getElem hkl, List.all_append, hS.out.1]; simp [hb], fun e => ?_⟩
        subst e
        cases e : l.all (fun a => altShB fs a.1) with
        | false => rfl
        | true => have := List.all_eq_true.1 e _ (List.getElem_mem hkl); rw [hb] at this; cases this
      have HW : Hid (Below w.heap.size w wr ∧ k < n) := ⟨hS.out.2, hkn⟩
      have hvi : ((l[k].1.vars).length : Int) ≤ 2000000 := by have := hfit.2; omega
      have HTk : Hid (Calls Tryz.prog 126 #[.map (some m), .string l[k].1.name, .int .i64 ((l[k].1.vars).length : Int)] wr.drew fun e w' => e = .returned (.bool (takesM fs l[k].1.name.data.toList (l[k].1.vars).length)) ∧ Below w.heap.size w w' ∧ ∀ j, w'.cell? ⟨ga, j, none⟩ = wr.cell? ⟨ga, j, none⟩) := by
        refine (takes_c fs m c _ _ wr.drew ((HL.out.2.2.1.same (hS.out.2.block m HL.out.2.2.1.lt)).below (drew_below wr)) hfit.1).mono ?_
        rintro e w' ⟨rfl, h9⟩
        exact ⟨rfl, hS.out.2.trans (((drew_below wr).trans h9).mono hS.out.2.size), fun j => cell_of_block (((drew_below wr).trans h9).block ga hgar) j⟩
      by_cases hk1 : l[k].1.kind = 1
      · have HV : Hid (altShB fs l[k].1 = takesM fs l[k].1.name.data.toList (l[k].1.vars).length) := by show _ = _; unfold altShB; rw [hk1]; rfl
        rw [hk1] at b0
        generalize altShB fs l[k].1 = R at HT HV
        generalize takesM fs l[k].1.name.data.toList (l[k].1.vars).length = R2 at HTk HV
        obtain rfl : R = R2 := HV.out
        generalize l[k].1.name = nm at b1 HTk
        generalize (l[k].1.vars).length = nv at b3 HTk hvi
        clear HV hk1 hfit a0 a1 a2 a3 hcl hkl hS hk HL hga hgaw
        have hki : (k : Int) < (n : Int) := by omega
        have HS0 : (wr.cell? ⟨ga, oa + k * 11, none⟩ = some (.int .i64 1) ∧ wr.cell? ⟨ga, oa + k * 11 + 1, none⟩ = some (.string nm) ∧ wr.cell? ⟨ga, oa + k * 11 + 3, none⟩ = some (.slice oo nv cc)) := ⟨b0, b1, b3⟩
        have hm : Tryz.prog.follows Departure.mixedOrders = true := by kernel_rfl
        cases R with
        | true =>
          go_wp2
          go_region_held3 (fun X : World => X.cell? ⟨ga, oa + k * 11, none⟩ = some (.int .i64 1) ∧ X.cell? ⟨ga, oa + k * 11 + 1, none⟩ = some (.string nm) ∧ X.cell? ⟨ga, oa + k * 11 + 3, none⟩ = some (.slice oo nv cc))
            (first | with_reducible exact HS0 | with_reducible exact HS1 | go_keep)
            ((go_at_call 126; (with_reducible refine HTk.out.mono ?_); rintro e w1 ⟨rfl, hk1, hk2⟩; have HK1 : Hid (Below w.heap.size w w1) := hk1; have HS1 : (w1.cell? ⟨ga, oa + k * 11, none⟩ = some (.int .i64 1) ∧ w1.cell? ⟨ga, oa + k * 11 + 1, none⟩ = some (.string nm) ∧ w1.cell? ⟨ga, oa + k * 11 + 3, none⟩ = some (.slice oo nv cc)) := ⟨(hk2 _).trans b0, (hk2 _).trans b1, (hk2 _).trans b3⟩; clear hk1 hk2))
          all_goals
            go_wp2
            go_roundw
            case rel => exact ⟨k + 1, HW.out.2, by go_num, ⟨(HT.out true rfl).1, HK1.out⟩⟩
            case measure => simp [intOf]; omega
        | false =>
          go_wp2
          go_region_held3 (fun X : World => X.cell? ⟨ga, oa + k * 11, none⟩ = some (.int .i64 1) ∧ X.cell? ⟨ga, oa + k * 11 + 1, none⟩ = some (.string nm) ∧ X.cell? ⟨ga, oa + k * 11 + 3, none⟩ = some (.slice oo nv cc))
            (first | with_reducible exact HS0 | with_reducible exact HS1 | go_keep)
            ((go_at_call 126; (with_reducible refine HTk.out.mono ?_); rintro e w1 ⟨rfl, hk1, hk2⟩; have HK1 : Hid (Below w.heap.size w w1) := hk1; have HS1 : (w1.cell? ⟨ga, oa + k * 11, none⟩ = some (.int .i64 1) ∧ w1.cell? ⟨ga, oa + k * 11 + 1, none⟩ = some (.string nm) ∧ w1.cell? ⟨ga, oa + k * 11 + 3, none⟩ = some (.slice oo nv cc)) := ⟨(hk2 _).trans b0, (hk2 _).trans b1, (hk2 _).trans b3⟩; clear hk1 hk2))
          all_goals
            go_wp2
            go_ret
            exact ⟨by rw [HR.out, (HT.out false rfl).2 rfl]; rfl, HK1.out⟩
      · have HV : Hid (altShB fs l[k].1 = true) := by show _ = _; unfold altShB; rw [decide_eq_false hk1]; rfl
        have ek : (l[k].1.kind == 1) = false := by simpa using hk1
        generalize altShB fs l[k].1 = R at HT HV
        obtain rfl : R = true := HV.out
        generalize l[k].1.kind = kk at b0 ek
        generalize l[k].1.name = nm at b1
        generalize (l[k].1.vars).length = nv at b3 hvi
        clear HV hk1 hfit a0 a1 a2 a3 hcl hkl hS hk HL hga hgaw HTk
        have hki : (k : Int) < (n : Int) := by omega
        go_wp2
        go_big_quiet (fail)
        go_wp2
        go_roundw
        case rel => exact ⟨k + 1, HW.out.2, by go_num, ⟨(HT.out true rfl).1, HW.out.1.trans ((dqb wr _).mono HW.out.1.size)⟩⟩
        case measure => simp [intOf]; omega
    · have HFn : Hid (l.all (fun a => altShB fs a.1) = true ∧ Below w.heap.size w wr) := by
        have e : l.take k = l := List.take_of_length_le (by rw [HL.out.1]; omega)
        have h3 := hS.out
        rw [e] at h3
        exact h3
      clear hS HL
      go_wp2
      go_ret
      exact ⟨by rw [HR.out, HFn.out.1]; rfl, HFn.out.2⟩
theorem shaped_c (fs : List CT) (m c : Nat) (d : Nat) (t : Tr (d + 1)) (B g off : Nat) (w : World) (hC : CtSt w m c fs) (hE : ExAt w B (d + 1) t g off) (hw : B ≤ w.heap.size) (hF : FitN t) :
    Calls Tryz.prog 85 #[.map (some m), .pointer (some ⟨g, off, none⟩)] w fun e w' => e = .returned (.bool (shN fs t)) ∧ Below w.heap.size w w' := by
  by_cases h4 : TrN.kind t = 4
  · exact shaped_con fs m c d t B g off w hC hE hw hF h4
  · by_cases h9 : TrN.kind t = 9
    · exact shaped_prim fs m d t B g off w hE hw hF h9
    · exact shaped_alts fs m c d t B g off w hC hE hw hF h4 h9
end Go.Proofs.YtegdloenakachaaGreatDoor
