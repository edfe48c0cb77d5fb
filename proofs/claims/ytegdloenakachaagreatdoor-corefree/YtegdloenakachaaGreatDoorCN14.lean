/-
  mayBeAlt, by a contract.
-/
import Derived.Test.YtegdloenakachaaGreatDoorCN13
namespace Go.Proofs.YtegdloenakachaaGreatDoor
open Go.RowKit Go.Shelf Go.Maps
set_option linter.unusedVariables false

/-- May an alternative's own fields be? -/
def altB (a : AltH) : Bool := if a.kind = 1 then nameB a.name.data.toList && (decide (a.num = 0) && areB a.vars) else if a.kind = 2 then a.name.toList.isEmpty && decide (a.vars.length = 0) else if a.kind = 3 then a.name.toList.isEmpty && (decide (a.vars.length = 0) && (decide (0 ≤ a.num) && decide (a.num ≤ 255))) else if a.kind = 4 then a.name.toList.isEmpty && (decide (a.num = 0) && (decide (a.vars.length ≤ 1) && areB a.vars)) else false
set_option maxRecDepth 100000 in
set_option maxHeartbeats 4000000 in
theorem mayBeAlt_c (a : AltH) (B g off : Nat) (w : World) (ov : Option Addr) (cv : Nat) (hgw : g < w.heap.size) (h0 : w.cell? ⟨g, off, none⟩ = some (.int .i64 a.kind)) (h1 : w.cell? ⟨g, off + 1, none⟩ = some (.string a.name)) (h2 : w.cell? ⟨g, off + 2, none⟩ = some (.int .i64 a.num)) (h3 : w.cell? ⟨g, off + 3, none⟩ = some (.slice ov a.vars.length cv)) (hv : TxIn w B ov a.vars) (hw : B ≤ w.heap.size) (hF : a.name.size ≤ maxLen ∧ a.vars.length ≤ 2000000 ∧ ∀ x ∈ a.vars, x.size ≤ maxLen) :
    Calls Tryz.prog 156 #[.pointer (some ⟨g, off, none⟩)] w fun e w' => e = .returned (.bool (altB a)) ∧ Below w.heap.size w w' := by
  obtain ⟨kd, nm, num, vs⟩ := a
  simp only at h0 h1 h2 h3 hv hF
  have HI : Hid (Calls Tryz.prog 77 #[.string nm] w fun e w' => e = .returned (.bool (nameB nm.data.toList)) ∧ w' = w) := isName_c nm (by have := hF.1; unfold maxLen at this; omega) w
  have HA : Hid (Calls Tryz.prog 79 #[.slice ov vs.length cv] w fun e w' => e = .returned (.bool (areB vs)) ∧ Below w.heap.size w w') := areNames_c vs ov cv B w hv hw hF.2.1 hF.2.2
  have HC : Hid (Calls Tryz.prog 124 #[.int .i64 num] w fun e w' => e = .returned (.bool (decide (0 ≤ num) && decide (num ≤ 255))) ∧ w' = w) := isChar_c num w
  have hvi : (vs.length : Int) ≤ 2000000 := by have := hF.2.1; omega
  have HR : Hid (altB ⟨kd, nm, num, vs⟩ = if kd = 1 then nameB nm.data.toList && (decide (num = 0) && areB vs) else if kd = 2 then nm.toList.isEmpty && decide (vs.length = 0) else if kd = 3 then nm.toList.isEmpty && (decide (vs.length = 0) && (decide (0 ≤ num) && decide (num ≤ 255))) else if kd = 4 then nm.toList.isEmpty && (decide (num = 0) && (decide (vs.length ≤ 1) && areB vs)) else false) := rfl
  generalize altB ⟨kd, nm, num, vs⟩ = R at HR ⊢
  generalize areB vs = RA at HA HR
  generalize nameB nm.data.toList = RI at HI HR
  generalize (decide (0 ≤ num) && decide (num ≤ 255)) = RC at HC HR
  generalize vs.length = n at h3 HA hvi HR
  clear hv hw hF
  by_cases k1 : kd = 1
  · subst k1
    have HR2 : Hid (R = (RI && (decide (num = 0) && RA))) := HR.out
    clear HR HC
    go_enter Tryz.func156, Tryz.ntmps156
    go_wp2_with (go_at_call 77; fail)
    refine HI.out.mono ?_
    rintro e w1 ⟨rfl, hw1⟩
    have hw2 := hw1.symm
    subst hw2
    clear hw1 HI
    cases RI with
    | false =>
      go_wp2
      go_ret
      exact ⟨by rw [HR2.out]; rfl, Below.refl _ _⟩
    | true =>
      by_cases hn : num = 0
      · subst hn
        go_wp2_with (go_at_call 79; fail)
        refine HA.out.mono ?_
        rintro e w2 ⟨rfl, hb⟩
        have HB : Hid (Below w.heap.size w w2) := hb
        clear hb
        go_wp2
        go_ret
        exact ⟨by rw [HR2.out]; rfl, HB.out⟩
      · have e1 : (num == 0) = false := by simpa using hn
        have HR3 : Hid (R = false) := by show _ = _; rw [HR2.out, decide_eq_false hn]; rfl
        clear hn
        go_wp2
        go_ret
        exact ⟨by rw [HR3.out]; rfl, Below.refl _ _⟩
  have d1 : (kd == 1) = false := by simpa using k1
  by_cases k2 : kd = 2
  · subst k2
    have HR2 : Hid (R = (nm.toList.isEmpty && decide (n = 0))) := HR.out
    clear HR HC HA HI k1 d1
    cases hE : nm.toList.isEmpty with
    | false =>
      have HR3 : Hid (R = false) := by show _ = _; rw [HR2.out, hE]; rfl
      clear HR2
      go_enter Tryz.func156, Tryz.ntmps156
      go_wp2
      go_ret
      exact ⟨by rw [HR3.out]; rfl, Below.refl _ _⟩
    | true =>
      by_cases hn : n = 0
      · subst hn
        have HR3 : Hid (R = true) := by show _ = _; rw [HR2.out, hE]; rfl
        clear HR2
        go_enter Tryz.func156, Tryz.ntmps156
        go_wp2
        go_ret
        exact ⟨by rw [HR3.out]; rfl, Below.refl _ _⟩
      · have e1 : ((n : Int) == 0) = false := by simpa using hn
        have e2 : decide (n = 0) = false := by simpa using hn
        have HR3 : Hid (R = false) := by show _ = _; rw [HR2.out, hE, e2]; rfl
        clear HR2
        go_enter Tryz.func156, Tryz.ntmps156
        go_wp2
        go_ret
        exact ⟨by rw [HR3.out]; rfl, Below.refl _ _⟩
  have d2 : (kd == 2) = false := by simpa using k2
  by_cases k3 : kd = 3
  · subst k3
    have HR2 : Hid (R = (nm.toList.isEmpty && (decide (n = 0) && RC))) := HR.out
    clear HR HA HI k1 d1 k2 d2
    cases hE : nm.toList.isEmpty with
    | false =>
      have HR3 : Hid (R = false) := by show _ = _; rw [HR2.out, hE]; rfl
      clear HR2
      go_enter Tryz.func156, Tryz.ntmps156
      go_wp2
      go_ret
      exact ⟨by rw [HR3.out]; rfl, Below.refl _ _⟩
    | true =>
      by_cases hn : n = 0
      · subst hn
        have HR3 : Hid (R = RC) := by show _ = _; rw [HR2.out, hE]; rfl
        clear HR2
        go_enter Tryz.func156, Tryz.ntmps156
        go_wp2_with (go_at_call 124; fail)
        refine HC.out.mono ?_
        rintro e w1 ⟨rfl, hw1⟩
        have hw2 := hw1.symm
        subst hw2
        clear hw1 HC
        go_wp2
        go_ret
        exact ⟨by rw [HR3.out]; rfl, Below.refl _ _⟩
      · have e1 : ((n : Int) == 0) = false := by simpa using hn
        have e2 : decide (n = 0) = false := by simpa using hn
        have HR3 : Hid (R = false) := by show _ = _; rw [HR2.out, hE, e2]; rfl
        clear HR2
        go_enter Tryz.func156, Tryz.ntmps156
        go_wp2
        go_ret
        exact ⟨by rw [HR3.out]; rfl, Below.refl _ _⟩
  have d3 : (kd == 3) = false := by simpa using k3
  by_cases k4 : kd = 4
  · subst k4
    have HR2 : Hid (R = (nm.toList.isEmpty && (decide (num = 0) && (decide (n ≤ 1) && RA)))) := HR.out
    clear HR HC HI k1 d1 k2 d2 k3 d3
    cases hE : nm.toList.isEmpty with
    | false =>
      have HR3 : Hid (R = false) := by show _ = _; rw [HR2.out, hE]; rfl
      clear HR2
      go_enter Tryz.func156, Tryz.ntmps156
      go_wp2
      go_ret
      exact ⟨by rw [HR3.out]; rfl, Below.refl _ _⟩
    | true =>
      by_cases hn : num = 0
      · subst hn
        by_cases h1n : n ≤ 1
        · have e2 : decide (n ≤ 1) = true := by simpa using h1n
          have e3 : (n : Int) ≤ 1 := by omega
          have HR3 : Hid (R = RA) := by show _ = _; rw [HR2.out, hE, e2]; rfl
          clear HR2
          go_enter Tryz.func156, Tryz.ntmps156
          go_wp2_with (go_at_call 79; fail)
          refine HA.out.mono ?_
          rintro e w2 ⟨rfl, hb⟩
          have HB : Hid (Below w.heap.size w w2) := hb
          clear hb
          go_wp2
          go_ret
          exact ⟨by rw [HR3.out]; rfl, HB.out⟩
        · have e2 : decide (n ≤ 1) = false := by simpa using h1n
          have e3 : ¬ (n : Int) ≤ 1 := by omega
          have HR3 : Hid (R = false) := by show _ = _; rw [HR2.out, hE, e2]; rfl
          clear HR2
          go_enter Tryz.func156, Tryz.ntmps156
          go_wp2
          go_ret
          exact ⟨by rw [HR3.out]; rfl, Below.refl _ _⟩
      · have e1 : (num == 0) = false := by simpa using hn
        have HR3 : Hid (R = false) := by show _ = _; rw [HR2.out, hE, decide_eq_false hn]; rfl
        clear hn HR2
        go_enter Tryz.func156, Tryz.ntmps156
        go_wp2
        go_ret
        exact ⟨by rw [HR3.out]; rfl, Below.refl _ _⟩
  have d4 : (kd == 4) = false := by simpa using k4
  have HR3 : Hid (R = false) := by show _ = _; rw [HR.out, if_neg k1, if_neg k2, if_neg k3, if_neg k4]
  clear HR HC HA HI k1 k2 k3 k4
  go_enter Tryz.func156, Tryz.ntmps156
  go_wp2
  go_ret
  exact ⟨by rw [HR3.out]; rfl, Below.refl _ _⟩
end Go.Proofs.YtegdloenakachaaGreatDoor
