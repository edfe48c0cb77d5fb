/-
  Two expressions side by side: two alternatives, by a contract.
-/
import Derived.Test.YtegdloenakachaaGreatDoorCN04
namespace Go.Proofs.YtegdloenakachaaGreatDoor
open Go.RowKit Go.Shelf Go.Maps
set_option linter.unusedVariables false

/-- Alternatives of the same make. -/
def headM (a b : AltH) : Bool := ((a.kind == b.kind) && (a.name.toList == b.name.toList)) && ((a.num == b.num) && (a.vars.length == b.vars.length))
set_option maxRecDepth 100000 in
set_option maxHeartbeats 4000000 in
theorem pair_alt_walk (ka kb ua ub : Int) (na nb : ByteArray) (va vb : Nat) (ga xa gb xb P : Nat) (v : Bool) (tpa tpb : Option Addr) (R : World → Prop) (o1 o2 : Option Addr) (c1 c2 : Nat) (w : World) (hva : (va : Int) ≤ 2000000) (hvb : (vb : Int) ≤ 2000000)
    (a0 : w.cell? ⟨ga, xa, none⟩ = some (.int .i64 ka)) (a1 : w.cell? ⟨ga, xa + 1, none⟩ = some (.string na)) (a2 : w.cell? ⟨ga, xa + 2, none⟩ = some (.int .i64 ua)) (a3 : w.cell? ⟨ga, xa + 3, none⟩ = some (.slice o1 va c1))
    (b0 : w.cell? ⟨gb, xb, none⟩ = some (.int .i64 kb)) (b1 : w.cell? ⟨gb, xb + 1, none⟩ = some (.string nb)) (b2 : w.cell? ⟨gb, xb + 2, none⟩ = some (.int .i64 ub)) (b3 : w.cell? ⟨gb, xb + 3, none⟩ = some (.slice o2 vb c2))
    (ia : w.cell? ⟨P, 0, none⟩ = some (.pointer tpa)) (ib : w.cell? ⟨P, 2, none⟩ = some (.pointer tpb)) (lP : P < w.heap.size) (la : ga < w.heap.size) (lb : gb < w.heap.size) (hR : ∀ n, R (w.drewN n))
    (hC : ∀ n, Calls Tryz.prog 86 #[.pointer (some ⟨P, 0, none⟩), .slice o1 va c1] (w.drewN n) fun e w1 => e = .returned (.tuple #[]) ∧ PaB P ga xa gb xb (.slice o2 vb c2) v (.pointer tpa) (.pointer tpb) R w1) :
    Calls Tryz.prog 155 #[.pointer (some ⟨P, 0, none⟩), .pointer (some ⟨ga, xa, none⟩), .pointer (some ⟨gb, xb, none⟩)] w fun e w' => e = .returned (.bool ((((ka == kb) && (na.toList == nb.toList)) && ((ua == ub) && (va == vb))) && v)) ∧ R w' := by
  have HR : Hid (∀ n, R (w.drewN n)) := hR
  have HC : Hid (∀ n, Calls Tryz.prog 86 #[.pointer (some ⟨P, 0, none⟩), .slice o1 va c1] (w.drewN n) fun e w1 => e = .returned (.tuple #[]) ∧ PaB P ga xa gb xb (.slice o2 vb c2) v (.pointer tpa) (.pointer tpb) R w1) := hC
  clear hR hC
  by_cases hk : ka = kb
  · subst hk
    rw [beq_self_eq_true, Bool.true_and]
    cases hn : (na.toList == nb.toList) with
    | false =>
      rw [Bool.false_and, Bool.false_and]
      go_enter Tryz.func155, Tryz.ntmps155
      go_wp2
      go_big_quiet (fail)
      go_wp2
      go_ret
      exact ⟨rfl, HR.out _⟩
    | true =>
      rw [Bool.true_and]
      by_cases hu : ua = ub
      · subst hu
        rw [beq_self_eq_true, Bool.true_and]
        by_cases hv : va = vb
        · subst hv
          rw [beq_self_eq_true, Bool.true_and]
          go_enter Tryz.func155, Tryz.ntmps155
          go_wp2
          go_big_quiet (fail)
          have a3q : (w.drewN nq).cell? ⟨ga, xa + 3, none⟩ = some (.slice o1 va c1) := a3
          have iaq : (w.drewN nq).cell? ⟨P, 0, none⟩ = some (.pointer tpa) := ia
          have ibq : (w.drewN nq).cell? ⟨P, 2, none⟩ = some (.pointer tpb) := ib
          have lPq : P < (w.drewN nq).heap.size := lP
          have laq : ga < (w.drewN nq).heap.size := la
          have lbq : gb < (w.drewN nq).heap.size := lb
          have HCq : Hid (∀ n, Calls Tryz.prog 86 #[.pointer (some ⟨P, 0, none⟩), .slice o1 va c1] ((w.drewN nq).drewN n) fun e w1 => e = .returned (.tuple #[]) ∧ PaB P ga xa gb xb (.slice o2 va c2) v (.pointer tpa) (.pointer tpb) R w1) := fun n => by rw [World.drewN_drewN]; exact HC.out _
          generalize w.drewN nq = w2 at a3q iaq ibq lPq laq lbq HCq ⊢
          clear a0 a1 a2 a3 b0 b1 b2 b3 ia ib lP la lb HC HR hn
          go_wp2
          go_big_quiet (fail)
          have a3p : (w2.drewN nq).cell? ⟨ga, xa + 3, none⟩ = some (.slice o1 va c1) := a3q
          have lPp : P < (w2.drewN nq).heap.size := lPq
          have lap : ga < (w2.drewN nq).heap.size := laq
          have lbp : gb < (w2.drewN nq).heap.size := lbq
          have HCp : Hid (∀ n, Calls Tryz.prog 86 #[.pointer (some ⟨P, 0, none⟩), .slice o1 va c1] ((w2.drewN nq).drewN n) fun e w1 => e = .returned (.tuple #[]) ∧ PaB P ga xa gb xb (.slice o2 va c2) v (.pointer tpa) (.pointer tpb) R w1) := fun n => by rw [World.drewN_drewN]; exact HCq.out _
          generalize w2.drewN nq = w3 at a3p lPp lap lbp HCp ⊢
          clear a3q iaq ibq lPq laq lbq HCq
          have HC3 : Hid (Calls Tryz.prog 86 #[.pointer (some ⟨P, 0, none⟩), .slice o1 va c1] w3.drew fun e w1 => e = .returned (.tuple #[]) ∧ PaB P ga xa gb xb (.slice o2 va c2) v (.pointer tpa) (.pointer tpb) R w1) := HCp.out 1
          clear HCp
          go_wp2
          go_region_with ((go_at_call 86; (with_reducible refine HC3.out.mono ?_); rintro e w4 ⟨rfl, hk1⟩; have HK1 : Hid (PaB P ga xa gb xb (.slice o2 va c2) v (.pointer tpa) (.pointer tpb) R w4) := hk1; clear hk1))
          all_goals
            obtain ⟨⟨m1, m2, m3⟩, m4, m5⟩ := HK1.out
            have HC4 : Hid (Calls Tryz.prog 86 #[.pointer (some ⟨P, 2, none⟩), .slice o2 va c2] w4.drew fun e w2 => e = .returned (.tuple #[]) ∧ PaC P ga (xa + 4) gb (xb + 4) v (.pointer tpa) (.pointer tpb) R w2) := m5 1
            clear HK1 m5 HC3 a3p lPp lap lbp
            go_wp2
            go_region_with ((go_at_call 86; (with_reducible refine HC4.out.mono ?_); rintro e w5 ⟨rfl, hk1⟩; have HK2 : Hid (PaC P ga (xa + 4) gb (xb + 4) v (.pointer tpa) (.pointer tpb) R w5) := hk1; clear hk1))
            all_goals
              obtain ⟨⟨n1, n2, n3⟩, n4⟩ := HK2.out
              have HC5 : Hid (Calls Tryz.prog 76 #[.pointer (some ⟨P, 0, none⟩), .pointer (some ⟨ga, xa + 4, none⟩), .pointer (some ⟨gb, xb + 4, none⟩)] w5.drew fun e w3 => e = .returned (.bool v) ∧ PaD P (.pointer tpa) (.pointer tpb) R w3) := n4 1
              clear HK2 n4 HC4 m1 m2 m3 m4
              go_wp2
              go_region_with ((go_at_call 76; (with_reducible refine HC5.out.mono ?_); rintro e w6 ⟨rfl, hk1⟩; have HK3 : Hid (PaD P (.pointer tpa) (.pointer tpb) R w6) := hk1; clear hk1))
              all_goals
                obtain ⟨p1, p2⟩ := HK3.out
                have HC6 : Hid (Calls Tryz.prog 69 #[.pointer (some ⟨P, 0, none⟩), .pointer tpa] w6 fun e w4 => e = .returned (.tuple #[]) ∧ PaE P (.pointer tpb) R w4) := p2
                clear HK3 p2 HC5 n1 n2 n3
                go_wp2_with (go_at_call 69; fail)
                refine HC6.out.mono ?_
                rintro e w7 ⟨rfl, q1, q2⟩
                have HC7 : Hid (Calls Tryz.prog 69 #[.pointer (some ⟨P, 2, none⟩), .pointer tpb] w7 fun e w5 => e = .returned (.tuple #[]) ∧ R w5) := q2
                clear q2 HC6 p1
                go_wp2_with (go_at_call 69; fail)
                refine HC7.out.mono ?_
                rintro e w8 ⟨rfl, hr⟩
                have HR8 : Hid (R w8) := hr
                clear hr HC7
                go_wp2
                go_ret
                exact ⟨rfl, HR8.out⟩
        · have hd : decide ((va : Int) = (vb : Int)) = false := decide_eq_false (by omega)
          have hd2 : ((va : Int) == (vb : Int)) = false := beq_eq_false_iff_ne.2 (by omega)
          have hd3 : decide (va = vb) = false := decide_eq_false hv
          rw [beq_eq_false_iff_ne.2 hv, Bool.false_and]
          go_enter Tryz.func155, Tryz.ntmps155
          go_wp2
          go_big_quiet (fail)
          go_wp2
          go_ret
          exact ⟨rfl, HR.out _⟩
      · have hd : decide (ua = ub) = false := decide_eq_false hu
        have hd2 : (ua != ub) = true := bne_iff_ne.2 hu
        rw [beq_eq_false_iff_ne.2 hu, Bool.false_and, Bool.false_and]
        go_enter Tryz.func155, Tryz.ntmps155
        go_wp2
        go_big_quiet (fail)
        go_wp2
        go_ret
        exact ⟨rfl, HR.out _⟩
  · have hd : decide (ka = kb) = false := decide_eq_false hk
    have hd2 : (ka != kb) = true := bne_iff_ne.2 hk
    rw [beq_eq_false_iff_ne.2 hk, Bool.false_and, Bool.false_and, Bool.false_and]
    go_enter Tryz.func155, Tryz.ntmps155
    go_wp2
    go_big_quiet (fail)
    go_wp2
    go_ret
    exact ⟨rfl, HR.out _⟩
end Go.Proofs.YtegdloenakachaaGreatDoor
