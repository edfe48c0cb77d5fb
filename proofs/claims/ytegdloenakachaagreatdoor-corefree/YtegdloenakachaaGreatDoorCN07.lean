/-
  Two expressions side by side: one step, walked.
-/
import Derived.Test.YtegdloenakachaaGreatDoorCN06
import Derived.Deep.RegionHeld3
namespace Go.Proofs.YtegdloenakachaaGreatDoor
open Go.RowKit Go.Shelf Go.Maps
set_option linter.unusedVariables false

/-- The cells that the step reads between its calls. -/
def XS (P ga xa gb xb : Nat) (s4 t4 s5 t5 s6 t6 : Value) (w : World) : Prop := (P < w.heap.size ∧ ga < w.heap.size ∧ gb < w.heap.size) ∧ w.cell? ⟨ga, xa + 4, none⟩ = some s4 ∧ w.cell? ⟨gb, xb + 4, none⟩ = some t4 ∧ w.cell? ⟨ga, xa + 5, none⟩ = some s5 ∧ w.cell? ⟨gb, xb + 5, none⟩ = some t5 ∧ w.cell? ⟨ga, xa + 6, none⟩ = some s6 ∧ w.cell? ⟨gb, xb + 6, none⟩ = some t6
/-- Rows of parts are held side by side, then N holds. -/
def XC (fn : FuncId) (P ga xa gb xb : Nat) (s4 t4 s5 t5 s6 t6 : Value) (sa sb : Value) (v : Bool) (N : World → Prop) (w : World) : Prop := Calls Tryz.prog fn #[.pointer (some ⟨P, 0, none⟩), sa, sb] w fun e w' => e = .returned (.bool v) ∧ XS P ga xa gb xb s4 t4 s5 t5 s6 t6 w' ∧ N w'
/-- From the names on. -/
def XN (P ga xa gb xb : Nat) (s4 t4 s5 t5 s6 t6 : Value) (v1 v2 v3 v4 : Bool) (D : World → Prop) (w : World) : Prop := XS P ga xa gb xb s4 t4 s5 t5 s6 t6 w ∧ Calls Tryz.prog 117 #[.pointer (some ⟨P, 0, none⟩), .pointer (some ⟨ga, xa, none⟩), .pointer (some ⟨gb, xb, none⟩)] w.drew fun e w1 => e = .returned (.bool v1) ∧ XS P ga xa gb xb s4 t4 s5 t5 s6 t6 w1 ∧
  match v1 with
  | false => D w1
  | true => XC 118 P ga xa gb xb s4 t4 s5 t5 s6 t6 s4 t4 v2 (match v2 with
    | false => D
    | true => XC 119 P ga xa gb xb s4 t4 s5 t5 s6 t6 s5 t5 v3 (match v3 with
      | false => D
      | true => XC 120 P ga xa gb xb s4 t4 s5 t5 s6 t6 s6 t6 v4 D)) w1
/-- From the second's entering on. -/
def XE (P ga xa gb xb : Nat) (s4 t4 s5 t5 s6 t6 : Value) (v1 v2 v3 v4 : Bool) (D : World → Prop) (w : World) : Prop := (P < w.heap.size ∧ ga < w.heap.size ∧ gb < w.heap.size) ∧ Calls Tryz.prog 63 #[.pointer (some ⟨P, 2, none⟩), .pointer (some ⟨gb, xb, none⟩)] w fun e w1 => e = .returned (.tuple #[]) ∧ XN P ga xa gb xb s4 t4 s5 t5 s6 t6 v1 v2 v3 v4 D w1
set_option maxRecDepth 100000 in
set_option maxHeartbeats 16000000 in
theorem pair_expr_walk (ka kb ua ub : Int) (pa pb ba bb : Nat) (ga xa gb xb P : Nat) (v1 v2 v3 v4 : Bool) (tpa tpb : Option Addr) (R : World → Prop) (o1 o2 o4 p4 o5 p5 o6 p6 : Option Addr) (c1 c2 c4 d4 n5 c5 m5 d5 n6 c6 m6 d6 : Nat) (w : World) (hpa : (pa : Int) ≤ 2000000) (hpb : (pb : Int) ≤ 2000000) (hba : (ba : Int) ≤ 2000000) (hbb : (bb : Int) ≤ 2000000)
    (a0 : w.cell? ⟨ga, xa, none⟩ = some (.int .i64 ka)) (a2 : w.cell? ⟨ga, xa + 2, none⟩ = some (.int .i64 ua)) (a3 : w.cell? ⟨ga, xa + 3, none⟩ = some (.slice o1 pa c1)) (a4 : w.cell? ⟨ga, xa + 4, none⟩ = some (.slice o4 ba c4))
    (b0 : w.cell? ⟨gb, xb, none⟩ = some (.int .i64 kb)) (b2 : w.cell? ⟨gb, xb + 2, none⟩ = some (.int .i64 ub)) (b3 : w.cell? ⟨gb, xb + 3, none⟩ = some (.slice o2 pb c2)) (b4 : w.cell? ⟨gb, xb + 4, none⟩ = some (.slice p4 bb d4))
    (ia : w.cell? ⟨P, 0, none⟩ = some (.pointer tpa)) (ib : w.cell? ⟨P, 2, none⟩ = some (.pointer tpb)) (lP : P < w.heap.size) (la : ga < w.heap.size) (lb : gb < w.heap.size) (hR : ∀ n, R (w.drewN n))
    (hC : pa = pb → ba = bb → ∀ n, Calls Tryz.prog 63 #[.pointer (some ⟨P, 0, none⟩), .pointer (some ⟨ga, xa, none⟩)] (w.drewN n) fun e w1 => e = .returned (.tuple #[]) ∧ XE P ga xa gb xb (.slice o4 ba c4) (.slice p4 bb d4) (.slice o5 n5 c5) (.slice p5 m5 d5) (.slice o6 n6 c6) (.slice p6 m6 d6) v1 v2 v3 v4 (PaD P (.pointer tpa) (.pointer tpb) R) w1) :
    Calls Tryz.prog 76 #[.pointer (some ⟨P, 0, none⟩), .pointer (some ⟨ga, xa, none⟩), .pointer (some ⟨gb, xb, none⟩)] w fun e w' => e = .returned (.bool ((((ka == kb) && (ua == ub)) && ((pa == pb) && (ba == bb))) && (v1 && (v2 && (v3 && v4))))) ∧ R w' := by
  have HR : Hid (∀ n, R (w.drewN n)) := hR
  have HC : Hid (pa = pb → ba = bb → ∀ n, Calls Tryz.prog 63 #[.pointer (some ⟨P, 0, none⟩), .pointer (some ⟨ga, xa, none⟩)] (w.drewN n) fun e w1 => e = .returned (.tuple #[]) ∧ XE P ga xa gb xb (.slice o4 ba c4) (.slice p4 bb d4) (.slice o5 n5 c5) (.slice p5 m5 d5) (.slice o6 n6 c6) (.slice p6 m6 d6) v1 v2 v3 v4 (PaD P (.pointer tpa) (.pointer tpb) R) w1) := hC
  clear hR hC
  by_cases hk : ka = kb
  · subst hk
    rw [beq_self_eq_true, Bool.true_and]
    by_cases hu : ua = ub
    · subst hu
      rw [beq_self_eq_true, Bool.true_and]
      by_cases hp : pa = pb
      · subst hp
        rw [beq_self_eq_true, Bool.true_and]
        by_cases hb : ba = bb
        · subst hb
          rw [beq_self_eq_true, Bool.true_and]
          go_enter Tryz.func76, Tryz.ntmps76
          go_wp2
          go_big_quiet (fail)
          have iaq : (w.drewN nq).cell? ⟨P, 0, none⟩ = some (.pointer tpa) := ia
          have ibq : (w.drewN nq).cell? ⟨P, 2, none⟩ = some (.pointer tpb) := ib
          have lPq : P < (w.drewN nq).heap.size := lP
          have laq : ga < (w.drewN nq).heap.size := la
          have lbq : gb < (w.drewN nq).heap.size := lb
          have HCq : Hid (∀ n, Calls Tryz.prog 63 #[.pointer (some ⟨P, 0, none⟩), .pointer (some ⟨ga, xa, none⟩)] ((w.drewN nq).drewN n) fun e w1 => e = .returned (.tuple #[]) ∧ XE P ga xa gb xb (.slice o4 ba c4) (.slice p4 ba d4) (.slice o5 n5 c5) (.slice p5 m5 d5) (.slice o6 n6 c6) (.slice p6 m6 d6) v1 v2 v3 v4 (PaD P (.pointer tpa) (.pointer tpb) R) w1) := fun n => by rw [World.drewN_drewN]; exact HC.out trivial trivial _
          generalize w.drewN nq = w2 at iaq ibq lPq laq lbq HCq ⊢
          clear a0 a2 a3 a4 b0 b2 b3 b4 ia ib lP la lb HC HR
          go_wp2
          go_big_quiet (fail)
          have lPp : P < (w2.drewN nq).heap.size := lPq
          have lap : ga < (w2.drewN nq).heap.size := laq
          have lbp : gb < (w2.drewN nq).heap.size := lbq
          have HC3 : Hid (Calls Tryz.prog 63 #[.pointer (some ⟨P, 0, none⟩), .pointer (some ⟨ga, xa, none⟩)] (w2.drewN nq) fun e w1 => e = .returned (.tuple #[]) ∧ XE P ga xa gb xb (.slice o4 ba c4) (.slice p4 ba d4) (.slice o5 n5 c5) (.slice p5 m5 d5) (.slice o6 n6 c6) (.slice p6 m6 d6) v1 v2 v3 v4 (PaD P (.pointer tpa) (.pointer tpb) R) w1) := HCq.out _
          generalize w2.drewN nq = w3 at lPp lap lbp HC3 ⊢
          clear iaq ibq lPq laq lbq HCq
          go_wp2_with (go_at_call 63; fail)
          refine Calls.mono HC3.out ?_
          rintro e w4 ⟨rfl, ⟨m1, m2, m3⟩, hk4⟩
          have HC4 : Hid (Calls Tryz.prog 63 #[.pointer (some ⟨P, 2, none⟩), .pointer (some ⟨gb, xb, none⟩)] w4 fun e w1 => e = .returned (.tuple #[]) ∧ XN P ga xa gb xb (.slice o4 ba c4) (.slice p4 ba d4) (.slice o5 n5 c5) (.slice p5 m5 d5) (.slice o6 n6 c6) (.slice p6 m6 d6) v1 v2 v3 v4 (PaD P (.pointer tpa) (.pointer tpb) R) w1) := hk4
          clear hk4 HC3 lPp lap lbp
          go_wp2_with (go_at_call 63; fail)
          refine Calls.mono HC4.out ?_
          rintro e w5 ⟨rfl, ⟨⟨n1, n2, n3⟩, s5⟩, hk5⟩
          have s5d : w5.drew.cell? ⟨ga, xa + 4, none⟩ = some (.slice o4 ba c4) ∧ w5.drew.cell? ⟨gb, xb + 4, none⟩ = some (.slice p4 ba d4) ∧ w5.drew.cell? ⟨ga, xa + 5, none⟩ = some (.slice o5 n5 c5) ∧ w5.drew.cell? ⟨gb, xb + 5, none⟩ = some (.slice p5 m5 d5) ∧ w5.drew.cell? ⟨ga, xa + 6, none⟩ = some (.slice o6 n6 c6) ∧ w5.drew.cell? ⟨gb, xb + 6, none⟩ = some (.slice p6 m6 d6) := s5
          clear HC4 m1 m2 m3
          cases v1 with
          | false =>
            have HK0 : Hid (Calls Tryz.prog 117 #[.pointer (some ⟨P, 0, none⟩), .pointer (some ⟨ga, xa, none⟩), .pointer (some ⟨gb, xb, none⟩)] w5.drew fun e w1 => e = .returned (.bool false) ∧ XS P ga xa gb xb (.slice o4 ba c4) (.slice p4 ba d4) (.slice o5 n5 c5) (.slice p5 m5 d5) (.slice o6 n6 c6) (.slice p6 m6 d6) w1 ∧ (PaD P (.pointer tpa) (.pointer tpb) R) w1) := hk5
            clear hk5
            go_wp2
            refine wp_region_held_drew (S := fun X : World => X.cell? ⟨ga, xa + 4, none⟩ = some (.slice o4 ba c4) ∧ X.cell? ⟨gb, xb + 4, none⟩ = some (.slice p4 ba d4) ∧ X.cell? ⟨ga, xa + 5, none⟩ = some (.slice o5 n5 c5) ∧ X.cell? ⟨gb, xb + 5, none⟩ = some (.slice p5 m5 d5) ∧ X.cell? ⟨ga, xa + 6, none⟩ = some (.slice o6 n6 c6) ∧ X.cell? ⟨gb, xb + 6, none⟩ = some (.slice p6 m6 d6)) (by kernel_rfl) s5d (fun hHeld => ?_)
            clear s5 s5d
            refine wpAnyH_take (i := 0) (v := .pointer (some ⟨P, 0, none⟩)) rfl (by kernel_rfl) (by kernel_rfl) (by kernel_rfl) (fun _ _ _ h => h) (Or.inl ⟨by kernel_rfl, fun X hX => ?_⟩) (by assumption) ?_
            · (try dsimp only at hX); go_simp
            try simp only [Act.put, List.setIfInBounds_toArray]
            refine wpAnyH_take (i := 1) (v := .pointer (some ⟨ga, xa, none⟩)) rfl (by kernel_rfl) (by kernel_rfl) (by kernel_rfl) (fun _ _ _ h => h) (Or.inl ⟨by kernel_rfl, fun X hX => ?_⟩) (by assumption) ?_
            · (try dsimp only at hX); go_simp
            try simp only [Act.put]
            refine wpAnyH_take (i := 2) (v := .pointer (some ⟨gb, xb, none⟩)) rfl (by kernel_rfl) (by kernel_rfl) (by kernel_rfl) (fun _ _ _ h => h) (Or.inl ⟨by kernel_rfl, fun X hX => ?_⟩) (by assumption) ?_
            · (try dsimp only at hX); go_simp
            try simp only [Act.put]
            refine wpAnyH_ready (rs := [3]) (by kernel_rfl) (by simp) ?_
            refine AllReadyH.cons (o := _) rfl (fun K hK => ?_) AllReadyH.nil
            go_simp
            go_at_call 117
            refine HK0.out.mono ?_
            rintro e x0 ⟨rfl, ⟨-, g0⟩, hn0⟩
            have HKd : Hid ((PaD P (.pointer tpa) (.pointer tpb) R) x0) := hn0
            refine hK.out _ _ g0 (fun hHeld0 => ?_)
            clear hK K hn0 g0 HK0 hHeld
            try simp only [Act.put, List.setIfInBounds_toArray, List.set_cons_zero, List.set_cons_succ]
            refine wpAnyH_take (i := 4) (v := .bool false) rfl (by kernel_rfl) (by kernel_rfl) (by kernel_rfl) (fun _ _ _ h => h) (Or.inl ⟨by kernel_rfl, fun X hX => ?_⟩) (by assumption) ?_
            · (try dsimp only at hX); go_simp
            try simp only [Act.put, List.setIfInBounds_toArray]
            refine wpAnyH_take (i := 5) (v := undef) rfl (by kernel_rfl) (by kernel_rfl) (by kernel_rfl) (fun _ _ _ h => h) (Or.inr ⟨by kernel_rfl, rfl⟩) (by assumption) ?_
            simp only [Act.put, List.getElem_toArray, List.getElem_cons_succ, List.getElem_cons_zero, List.setIfInBounds_toArray, List.set_cons_zero, List.set_cons_succ]
            refine wpAnyH_take (i := 6) (v := undef) rfl (by kernel_rfl) (by kernel_rfl) (by kernel_rfl) (fun _ _ _ h => h) (Or.inr ⟨by kernel_rfl, rfl⟩) (by assumption) ?_
            simp only [Act.put, List.getElem_toArray, List.getElem_cons_succ, List.getElem_cons_zero, List.setIfInBounds_toArray, List.set_cons_zero, List.set_cons_succ]
            refine wpAnyH_take (i := 7) (v := undef) rfl (by kernel_rfl) (by kernel_rfl) (by kernel_rfl) (fun _ _ _ h => h) (Or.inr ⟨by kernel_rfl, rfl⟩) (by assumption) ?_
            simp only [Act.put, List.getElem_toArray, List.getElem_cons_succ, List.getElem_cons_zero, List.setIfInBounds_toArray, List.set_cons_zero, List.set_cons_succ]
            refine wpAnyH_take (i := 8) (v := undef) rfl (by kernel_rfl) (by kernel_rfl) (by kernel_rfl) (fun _ _ _ h => h) (Or.inr ⟨by kernel_rfl, rfl⟩) (by assumption) ?_
            simp only [Act.put, List.getElem_toArray, List.getElem_cons_succ, List.getElem_cons_zero, List.setIfInBounds_toArray, List.set_cons_zero, List.set_cons_succ]
            refine wpAnyH_take (i := 9) (v := undef) rfl (by kernel_rfl) (by kernel_rfl) (by kernel_rfl) (fun _ _ _ h => h) (Or.inr ⟨by kernel_rfl, rfl⟩) (by assumption) ?_
            simp only [Act.put, List.getElem_toArray, List.getElem_cons_succ, List.getElem_cons_zero, List.setIfInBounds_toArray, List.set_cons_zero, List.set_cons_succ]
            refine wpAnyH_take (i := 10) (v := undef) rfl (by kernel_rfl) (by kernel_rfl) (by kernel_rfl) (fun _ _ _ h => h) (Or.inr ⟨by kernel_rfl, rfl⟩) (by assumption) ?_
            simp only [Act.put, List.getElem_toArray, List.getElem_cons_succ, List.getElem_cons_zero, List.setIfInBounds_toArray, List.set_cons_zero, List.set_cons_succ]
            refine wpAnyH_take (i := 11) (v := undef) rfl (by kernel_rfl) (by kernel_rfl) (by kernel_rfl) (fun _ _ _ h => h) (Or.inr ⟨by kernel_rfl, rfl⟩) (by assumption) ?_
            simp only [Act.put, List.getElem_toArray, List.getElem_cons_succ, List.getElem_cons_zero, List.setIfInBounds_toArray, List.set_cons_zero, List.set_cons_succ]
            refine wpAnyH_take (i := 12) (v := undef) rfl (by kernel_rfl) (by kernel_rfl) (by kernel_rfl) (fun _ _ _ h => h) (Or.inr ⟨by kernel_rfl, rfl⟩) (by assumption) ?_
            simp only [Act.put, List.getElem_toArray, List.getElem_cons_succ, List.getElem_cons_zero, List.setIfInBounds_toArray, List.set_cons_zero, List.set_cons_succ]
            refine wpAnyH_take (i := 13) (v := undef) rfl (by kernel_rfl) (by kernel_rfl) (by kernel_rfl) (fun _ _ _ h => h) (Or.inr ⟨by kernel_rfl, rfl⟩) (by assumption) ?_
            simp only [Act.put, List.getElem_toArray, List.getElem_cons_succ, List.getElem_cons_zero, List.setIfInBounds_toArray, List.set_cons_zero, List.set_cons_succ]
            refine wpAnyH_take (i := 14) (v := undef) rfl (by kernel_rfl) (by kernel_rfl) (by kernel_rfl) (fun _ _ _ h => h) (Or.inr ⟨by kernel_rfl, rfl⟩) (by assumption) ?_
            simp only [Act.put, List.getElem_toArray, List.getElem_cons_succ, List.getElem_cons_zero, List.setIfInBounds_toArray, List.set_cons_zero, List.set_cons_succ]
            refine wpAnyH_take (i := 15) (v := .bool false) rfl (by kernel_rfl) (by kernel_rfl) (by kernel_rfl) (fun _ _ _ h => h) (Or.inl ⟨by kernel_rfl, fun X hX => ?_⟩) (by assumption) ?_
            · (try dsimp only at hX); go_simp
            try simp only [Act.put, List.setIfInBounds_toArray]
            refine wpAnyH_take (i := 16) (v := .bool false) rfl (by kernel_rfl) (by kernel_rfl) (by kernel_rfl) (fun _ _ _ h => h) (Or.inl ⟨by kernel_rfl, fun X hX => ?_⟩) (by assumption) ?_
            · (try dsimp only at hX); go_simp
            try simp only [Act.put]
            refine wpAnyH_take (i := 17) (v := undef) rfl (by kernel_rfl) (by kernel_rfl) (by kernel_rfl) (fun _ _ _ h => h) (Or.inr ⟨by kernel_rfl, rfl⟩) (by assumption) ?_
            simp only [Act.put, List.getElem_toArray, List.getElem_cons_succ, List.getElem_cons_zero, List.setIfInBounds_toArray, List.set_cons_zero, List.set_cons_succ]
            refine wpAnyH_take (i := 18) (v := undef) rfl (by kernel_rfl) (by kernel_rfl) (by kernel_rfl) (fun _ _ _ h => h) (Or.inr ⟨by kernel_rfl, rfl⟩) (by assumption) ?_
            simp only [Act.put, List.getElem_toArray, List.getElem_cons_succ, List.getElem_cons_zero, List.setIfInBounds_toArray, List.set_cons_zero, List.set_cons_succ]
            refine wpAnyH_take (i := 19) (v := undef) rfl (by kernel_rfl) (by kernel_rfl) (by kernel_rfl) (fun _ _ _ h => h) (Or.inr ⟨by kernel_rfl, rfl⟩) (by assumption) ?_
            simp only [Act.put, List.getElem_toArray, List.getElem_cons_succ, List.getElem_cons_zero, List.setIfInBounds_toArray, List.set_cons_zero, List.set_cons_succ]
            refine wpAnyH_take (i := 20) (v := undef) rfl (by kernel_rfl) (by kernel_rfl) (by kernel_rfl) (fun _ _ _ h => h) (Or.inr ⟨by kernel_rfl, rfl⟩) (by assumption) ?_
            simp only [Act.put, List.getElem_toArray, List.getElem_cons_succ, List.getElem_cons_zero, List.setIfInBounds_toArray, List.set_cons_zero, List.set_cons_succ]
            refine wpAnyH_take (i := 21) (v := undef) rfl (by kernel_rfl) (by kernel_rfl) (by kernel_rfl) (fun _ _ _ h => h) (Or.inr ⟨by kernel_rfl, rfl⟩) (by assumption) ?_
            simp only [Act.put, List.getElem_toArray, List.getElem_cons_succ, List.getElem_cons_zero, List.setIfInBounds_toArray, List.set_cons_zero, List.set_cons_succ]
            refine wpAnyH_take (i := 22) (v := undef) rfl (by kernel_rfl) (by kernel_rfl) (by kernel_rfl) (fun _ _ _ h => h) (Or.inr ⟨by kernel_rfl, rfl⟩) (by assumption) ?_
            simp only [Act.put, List.getElem_toArray, List.getElem_cons_succ, List.getElem_cons_zero, List.setIfInBounds_toArray, List.set_cons_zero, List.set_cons_succ]
            refine wpAnyH_take (i := 23) (v := undef) rfl (by kernel_rfl) (by kernel_rfl) (by kernel_rfl) (fun _ _ _ h => h) (Or.inr ⟨by kernel_rfl, rfl⟩) (by assumption) ?_
            simp only [Act.put, List.getElem_toArray, List.getElem_cons_succ, List.getElem_cons_zero, List.setIfInBounds_toArray, List.set_cons_zero, List.set_cons_succ]
            refine wpAnyH_take (i := 24) (v := undef) rfl (by kernel_rfl) (by kernel_rfl) (by kernel_rfl) (fun _ _ _ h => h) (Or.inr ⟨by kernel_rfl, rfl⟩) (by assumption) ?_
            simp only [Act.put, List.getElem_toArray, List.getElem_cons_succ, List.getElem_cons_zero, List.setIfInBounds_toArray, List.set_cons_zero, List.set_cons_succ]
            refine wpAnyH_take (i := 25) (v := undef) rfl (by kernel_rfl) (by kernel_rfl) (by kernel_rfl) (fun _ _ _ h => h) (Or.inr ⟨by kernel_rfl, rfl⟩) (by assumption) ?_
            simp only [Act.put, List.getElem_toArray, List.getElem_cons_succ, List.getElem_cons_zero, List.setIfInBounds_toArray, List.set_cons_zero, List.set_cons_succ]
            refine wpAnyH_take (i := 26) (v := undef) rfl (by kernel_rfl) (by kernel_rfl) (by kernel_rfl) (fun _ _ _ h => h) (Or.inr ⟨by kernel_rfl, rfl⟩) (by assumption) ?_
            simp only [Act.put, List.getElem_toArray, List.getElem_cons_succ, List.getElem_cons_zero, List.setIfInBounds_toArray, List.set_cons_zero, List.set_cons_succ]
            refine wpAnyH_take (i := 27) (v := .bool false) rfl (by kernel_rfl) (by kernel_rfl) (by kernel_rfl) (fun _ _ _ h => h) (Or.inl ⟨by kernel_rfl, fun X hX => ?_⟩) (by assumption) ?_
            · (try dsimp only at hX); go_simp
            try simp only [Act.put, List.setIfInBounds_toArray]
            refine wpAnyH_take (i := 28) (v := .bool false) rfl (by kernel_rfl) (by kernel_rfl) (by kernel_rfl) (fun _ _ _ h => h) (Or.inl ⟨by kernel_rfl, fun X hX => ?_⟩) (by assumption) ?_
            · (try dsimp only at hX); go_simp
            try simp only [Act.put]
            refine wpAnyH_take (i := 29) (v := undef) rfl (by kernel_rfl) (by kernel_rfl) (by kernel_rfl) (fun _ _ _ h => h) (Or.inr ⟨by kernel_rfl, rfl⟩) (by assumption) ?_
            simp only [Act.put, List.getElem_toArray, List.getElem_cons_succ, List.getElem_cons_zero, List.setIfInBounds_toArray, List.set_cons_zero, List.set_cons_succ]
            refine wpAnyH_take (i := 30) (v := undef) rfl (by kernel_rfl) (by kernel_rfl) (by kernel_rfl) (fun _ _ _ h => h) (Or.inr ⟨by kernel_rfl, rfl⟩) (by assumption) ?_
            simp only [Act.put, List.getElem_toArray, List.getElem_cons_succ, List.getElem_cons_zero, List.setIfInBounds_toArray, List.set_cons_zero, List.set_cons_succ]
            refine wpAnyH_take (i := 31) (v := undef) rfl (by kernel_rfl) (by kernel_rfl) (by kernel_rfl) (fun _ _ _ h => h) (Or.inr ⟨by kernel_rfl, rfl⟩) (by assumption) ?_
            simp only [Act.put, List.getElem_toArray, List.getElem_cons_succ, List.getElem_cons_zero, List.setIfInBounds_toArray, List.set_cons_zero, List.set_cons_succ]
            refine wpAnyH_take (i := 32) (v := undef) rfl (by kernel_rfl) (by kernel_rfl) (by kernel_rfl) (fun _ _ _ h => h) (Or.inr ⟨by kernel_rfl, rfl⟩) (by assumption) ?_
            simp only [Act.put, List.getElem_toArray, List.getElem_cons_succ, List.getElem_cons_zero, List.setIfInBounds_toArray, List.set_cons_zero, List.set_cons_succ]
            refine wpAnyH_take (i := 33) (v := undef) rfl (by kernel_rfl) (by kernel_rfl) (by kernel_rfl) (fun _ _ _ h => h) (Or.inr ⟨by kernel_rfl, rfl⟩) (by assumption) ?_
            simp only [Act.put, List.getElem_toArray, List.getElem_cons_succ, List.getElem_cons_zero, List.setIfInBounds_toArray, List.set_cons_zero, List.set_cons_succ]
            refine wpAnyH_take (i := 34) (v := undef) rfl (by kernel_rfl) (by kernel_rfl) (by kernel_rfl) (fun _ _ _ h => h) (Or.inr ⟨by kernel_rfl, rfl⟩) (by assumption) ?_
            simp only [Act.put, List.getElem_toArray, List.getElem_cons_succ, List.getElem_cons_zero, List.setIfInBounds_toArray, List.set_cons_zero, List.set_cons_succ]
            refine wpAnyH_take (i := 35) (v := undef) rfl (by kernel_rfl) (by kernel_rfl) (by kernel_rfl) (fun _ _ _ h => h) (Or.inr ⟨by kernel_rfl, rfl⟩) (by assumption) ?_
            simp only [Act.put, List.getElem_toArray, List.getElem_cons_succ, List.getElem_cons_zero, List.setIfInBounds_toArray, List.set_cons_zero, List.set_cons_succ]
            refine wpAnyH_take (i := 36) (v := undef) rfl (by kernel_rfl) (by kernel_rfl) (by kernel_rfl) (fun _ _ _ h => h) (Or.inr ⟨by kernel_rfl, rfl⟩) (by assumption) ?_
            simp only [Act.put, List.getElem_toArray, List.getElem_cons_succ, List.getElem_cons_zero, List.setIfInBounds_toArray, List.set_cons_zero, List.set_cons_succ]
            refine wpAnyH_take (i := 37) (v := undef) rfl (by kernel_rfl) (by kernel_rfl) (by kernel_rfl) (fun _ _ _ h => h) (Or.inr ⟨by kernel_rfl, rfl⟩) (by assumption) ?_
            simp only [Act.put, List.getElem_toArray, List.getElem_cons_succ, List.getElem_cons_zero, List.setIfInBounds_toArray, List.set_cons_zero, List.set_cons_succ]
            refine wpAnyH_take (i := 38) (v := undef) rfl (by kernel_rfl) (by kernel_rfl) (by kernel_rfl) (fun _ _ _ h => h) (Or.inr ⟨by kernel_rfl, rfl⟩) (by assumption) ?_
            simp only [Act.put, List.getElem_toArray, List.getElem_cons_succ, List.getElem_cons_zero, List.setIfInBounds_toArray, List.set_cons_zero, List.set_cons_succ]
            refine wpAnyH_take (i := 39) (v := .bool false) rfl (by kernel_rfl) (by kernel_rfl) (by kernel_rfl) (fun _ _ _ h => h) (Or.inl ⟨by kernel_rfl, fun X hX => ?_⟩) (by assumption) ?_
            · (try dsimp only at hX); go_simp
            try simp only [Act.put, List.setIfInBounds_toArray]
            refine wpAnyH_take (i := 40) (v := .bool false) rfl (by kernel_rfl) (by kernel_rfl) (by kernel_rfl) (fun _ _ _ h => h) (Or.inl ⟨by kernel_rfl, fun X hX => ?_⟩) (by assumption) ?_
            · (try dsimp only at hX); go_simp
            try simp only [Act.put]
            refine wpAnyH_done (by kernel_rfl) ?_ _
            all_goals (
              obtain ⟨p1, p2⟩ := HKd.out
              have HC6 : Hid (Calls Tryz.prog 69 #[.pointer (some ⟨P, 0, none⟩), .pointer tpa] x0 fun e w4 => e = .returned (.tuple #[]) ∧ PaE P (.pointer tpb) R w4) := p2
              clear HKd p2 n1 n2 n3
              go_wp2_with (go_at_call 69; fail)
              refine HC6.out.mono ?_
              rintro e w17 ⟨rfl, q1, q2⟩
              have HC7 : Hid (Calls Tryz.prog 69 #[.pointer (some ⟨P, 2, none⟩), .pointer tpb] w17 fun e w5 => e = .returned (.tuple #[]) ∧ R w5) := q2
              clear q2 HC6 p1
              go_wp2_with (go_at_call 69; fail)
              refine HC7.out.mono ?_
              rintro e w18 ⟨rfl, hr⟩
              have HR8 : Hid (R w18) := hr
              clear hr HC7
              go_wp2
              go_ret
              exact ⟨rfl, HR8.out⟩)
          | true =>
            cases v2 with
            | false =>
              have HK0 : Hid (Calls Tryz.prog 117 #[.pointer (some ⟨P, 0, none⟩), .pointer (some ⟨ga, xa, none⟩), .pointer (some ⟨gb, xb, none⟩)] w5.drew fun e w1 => e = .returned (.bool true) ∧ XS P ga xa gb xb (.slice o4 ba c4) (.slice p4 ba d4) (.slice o5 n5 c5) (.slice p5 m5 d5) (.slice o6 n6 c6) (.slice p6 m6 d6) w1 ∧ (XC 118 P ga xa gb xb (.slice o4 ba c4) (.slice p4 ba d4) (.slice o5 n5 c5) (.slice p5 m5 d5) (.slice o6 n6 c6) (.slice p6 m6 d6) (.slice o4 ba c4) (.slice p4 ba d4) false (PaD P (.pointer tpa) (.pointer tpb) R)) w1) := hk5
              clear hk5
              go_wp2
              refine wp_region_held_drew (S := fun X : World => X.cell? ⟨ga, xa + 4, none⟩ = some (.slice o4 ba c4) ∧ X.cell? ⟨gb, xb + 4, none⟩ = some (.slice p4 ba d4) ∧ X.cell? ⟨ga, xa + 5, none⟩ = some (.slice o5 n5 c5) ∧ X.cell? ⟨gb, xb + 5, none⟩ = some (.slice p5 m5 d5) ∧ X.cell? ⟨ga, xa + 6, none⟩ = some (.slice o6 n6 c6) ∧ X.cell? ⟨gb, xb + 6, none⟩ = some (.slice p6 m6 d6)) (by kernel_rfl) s5d (fun hHeld => ?_)
              clear s5 s5d
              refine wpAnyH_take (i := 0) (v := .pointer (some ⟨P, 0, none⟩)) rfl (by kernel_rfl) (by kernel_rfl) (by kernel_rfl) (fun _ _ _ h => h) (Or.inl ⟨by kernel_rfl, fun X hX => ?_⟩) (by assumption) ?_
              · (try dsimp only at hX); go_simp
              try simp only [Act.put, List.setIfInBounds_toArray]
              refine wpAnyH_take (i := 1) (v := .pointer (some ⟨ga, xa, none⟩)) rfl (by kernel_rfl) (by kernel_rfl) (by kernel_rfl) (fun _ _ _ h => h) (Or.inl ⟨by kernel_rfl, fun X hX => ?_⟩) (by assumption) ?_
              · (try dsimp only at hX); go_simp
              try simp only [Act.put]
              refine wpAnyH_take (i := 2) (v := .pointer (some ⟨gb, xb, none⟩)) rfl (by kernel_rfl) (by kernel_rfl) (by kernel_rfl) (fun _ _ _ h => h) (Or.inl ⟨by kernel_rfl, fun X hX => ?_⟩) (by assumption) ?_
              · (try dsimp only at hX); go_simp
              try simp only [Act.put]
              refine wpAnyH_ready (rs := [3]) (by kernel_rfl) (by simp) ?_
              refine AllReadyH.cons (o := _) rfl (fun K hK => ?_) AllReadyH.nil
              go_simp
              go_at_call 117
              refine HK0.out.mono ?_
              rintro e x0 ⟨rfl, ⟨-, g0⟩, hn0⟩
              have HK1 : Hid (Calls Tryz.prog 118 #[.pointer (some ⟨P, 0, none⟩), (.slice o4 ba c4), (.slice p4 ba d4)] x0 fun e w' => e = .returned (.bool false) ∧ XS P ga xa gb xb (.slice o4 ba c4) (.slice p4 ba d4) (.slice o5 n5 c5) (.slice p5 m5 d5) (.slice o6 n6 c6) (.slice p6 m6 d6) w' ∧ (PaD P (.pointer tpa) (.pointer tpb) R) w') := hn0
              refine hK.out _ _ g0 (fun hHeld0 => ?_)
              clear hK K hn0 g0 HK0 hHeld
              try simp only [Act.put, List.setIfInBounds_toArray, List.set_cons_zero, List.set_cons_succ]
              refine wpAnyH_take (i := 4) (v := .bool true) rfl (by kernel_rfl) (by kernel_rfl) (by kernel_rfl) (fun _ _ _ h => h) (Or.inl ⟨by kernel_rfl, fun X hX => ?_⟩) (by assumption) ?_
              · (try dsimp only at hX); go_simp
              try simp only [Act.put, List.setIfInBounds_toArray]
              refine wpAnyH_take (i := 5) (v := .pointer (some ⟨P, 0, none⟩)) rfl (by kernel_rfl) (by kernel_rfl) (by kernel_rfl) (fun _ _ _ h => h) (Or.inl ⟨by kernel_rfl, fun X hX => ?_⟩) (by assumption) ?_
              · (try dsimp only at hX); go_simp
              try simp only [Act.put]
              refine wpAnyH_take (i := 6) (v := .pointer (some ⟨ga, xa, none⟩)) rfl (by kernel_rfl) (by kernel_rfl) (by kernel_rfl) (fun _ _ _ h => h) (Or.inl ⟨by kernel_rfl, fun X hX => ?_⟩) (by assumption) ?_
              · (try dsimp only at hX); go_simp
              try simp only [Act.put]
              refine wpAnyH_take (i := 7) (v := .pointer (some ⟨ga, xa, none⟩)) rfl (by kernel_rfl) (by kernel_rfl) (by kernel_rfl) (fun _ _ _ h => h) (Or.inl ⟨by kernel_rfl, fun X hX => ?_⟩) (by assumption) ?_
              · (try dsimp only at hX); go_simp
              try simp only [Act.put]
              refine wpAnyH_take (i := 8) (v := .pointer (some ⟨ga, xa + 4, none⟩)) rfl (by kernel_rfl) (by kernel_rfl) (by kernel_rfl) (fun _ _ _ h => h) (Or.inl ⟨by kernel_rfl, fun X hX => ?_⟩) (by assumption) ?_
              · (try dsimp only at hX); go_simp
              try simp only [Act.put]
              refine wpAnyH_take (i := 9) (v := (.slice o4 ba c4)) rfl (by kernel_rfl) (by kernel_rfl) (by kernel_rfl) (fun _ _ _ h => h) (Or.inl ⟨by kernel_rfl, fun X hX => ?_⟩) (by assumption) ?_
              · (try dsimp only at hX); go_simp
              try simp only [Act.put]
              refine wpAnyH_take (i := 10) (v := .pointer (some ⟨gb, xb, none⟩)) rfl (by kernel_rfl) (by kernel_rfl) (by kernel_rfl) (fun _ _ _ h => h) (Or.inl ⟨by kernel_rfl, fun X hX => ?_⟩) (by assumption) ?_
              · (try dsimp only at hX); go_simp
              try simp only [Act.put]
              refine wpAnyH_take (i := 11) (v := .pointer (some ⟨gb, xb, none⟩)) rfl (by kernel_rfl) (by kernel_rfl) (by kernel_rfl) (fun _ _ _ h => h) (Or.inl ⟨by kernel_rfl, fun X hX => ?_⟩) (by assumption) ?_
              · (try dsimp only at hX); go_simp
              try simp only [Act.put]
              refine wpAnyH_take (i := 12) (v := .pointer (some ⟨gb, xb + 4, none⟩)) rfl (by kernel_rfl) (by kernel_rfl) (by kernel_rfl) (fun _ _ _ h => h) (Or.inl ⟨by kernel_rfl, fun X hX => ?_⟩) (by assumption) ?_
              · (try dsimp only at hX); go_simp
              try simp only [Act.put]
              refine wpAnyH_take (i := 13) (v := (.slice p4 ba d4)) rfl (by kernel_rfl) (by kernel_rfl) (by kernel_rfl) (fun _ _ _ h => h) (Or.inl ⟨by kernel_rfl, fun X hX => ?_⟩) (by assumption) ?_
              · (try dsimp only at hX); go_simp
              try simp only [Act.put]
              refine wpAnyH_ready (rs := [14]) (by kernel_rfl) (by simp) ?_
              refine AllReadyH.cons (o := _) rfl (fun K hK => ?_) AllReadyH.nil
              go_simp
              go_at_call 118
              refine HK1.out.mono ?_
              rintro e x1 ⟨rfl, ⟨-, g1⟩, hn1⟩
              have HKd : Hid ((PaD P (.pointer tpa) (.pointer tpb) R) x1) := hn1
              refine hK.out _ _ g1 (fun hHeld1 => ?_)
              clear hK K hn1 g1 HK1 hHeld0
              try simp only [Act.put, List.setIfInBounds_toArray, List.set_cons_zero, List.set_cons_succ]
              refine wpAnyH_take (i := 15) (v := .bool false) rfl (by kernel_rfl) (by kernel_rfl) (by kernel_rfl) (fun _ _ _ h => h) (Or.inl ⟨by kernel_rfl, fun X hX => ?_⟩) (by assumption) ?_
              · (try dsimp only at hX); go_simp
              try simp only [Act.put, List.setIfInBounds_toArray]
              refine wpAnyH_take (i := 16) (v := .bool false) rfl (by kernel_rfl) (by kernel_rfl) (by kernel_rfl) (fun _ _ _ h => h) (Or.inl ⟨by kernel_rfl, fun X hX => ?_⟩) (by assumption) ?_
              · (try dsimp only at hX); go_simp
              try simp only [Act.put]
              refine wpAnyH_take (i := 17) (v := undef) rfl (by kernel_rfl) (by kernel_rfl) (by kernel_rfl) (fun _ _ _ h => h) (Or.inr ⟨by kernel_rfl, rfl⟩) (by assumption) ?_
              simp only [Act.put, List.getElem_toArray, List.getElem_cons_succ, List.getElem_cons_zero, List.setIfInBounds_toArray, List.set_cons_zero, List.set_cons_succ]
              refine wpAnyH_take (i := 18) (v := undef) rfl (by kernel_rfl) (by kernel_rfl) (by kernel_rfl) (fun _ _ _ h => h) (Or.inr ⟨by kernel_rfl, rfl⟩) (by assumption) ?_
              simp only [Act.put, List.getElem_toArray, List.getElem_cons_succ, List.getElem_cons_zero, List.setIfInBounds_toArray, List.set_cons_zero, List.set_cons_succ]
              refine wpAnyH_take (i := 19) (v := undef) rfl (by kernel_rfl) (by kernel_rfl) (by kernel_rfl) (fun _ _ _ h => h) (Or.inr ⟨by kernel_rfl, rfl⟩) (by assumption) ?_
              simp only [Act.put, List.getElem_toArray, List.getElem_cons_succ, List.getElem_cons_zero, List.setIfInBounds_toArray, List.set_cons_zero, List.set_cons_succ]
              refine wpAnyH_take (i := 20) (v := undef) rfl (by kernel_rfl) (by kernel_rfl) (by kernel_rfl) (fun _ _ _ h => h) (Or.inr ⟨by kernel_rfl, rfl⟩) (by assumption) ?_
              simp only [Act.put, List.getElem_toArray, List.getElem_cons_succ, List.getElem_cons_zero, List.setIfInBounds_toArray, List.set_cons_zero, List.set_cons_succ]
              refine wpAnyH_take (i := 21) (v := undef) rfl (by kernel_rfl) (by kernel_rfl) (by kernel_rfl) (fun _ _ _ h => h) (Or.inr ⟨by kernel_rfl, rfl⟩) (by assumption) ?_
              simp only [Act.put, List.getElem_toArray, List.getElem_cons_succ, List.getElem_cons_zero, List.setIfInBounds_toArray, List.set_cons_zero, List.set_cons_succ]
              refine wpAnyH_take (i := 22) (v := undef) rfl (by kernel_rfl) (by kernel_rfl) (by kernel_rfl) (fun _ _ _ h => h) (Or.inr ⟨by kernel_rfl, rfl⟩) (by assumption) ?_
              simp only [Act.put, List.getElem_toArray, List.getElem_cons_succ, List.getElem_cons_zero, List.setIfInBounds_toArray, List.set_cons_zero, List.set_cons_succ]
              refine wpAnyH_take (i := 23) (v := undef) rfl (by kernel_rfl) (by kernel_rfl) (by kernel_rfl) (fun _ _ _ h => h) (Or.inr ⟨by kernel_rfl, rfl⟩) (by assumption) ?_
              simp only [Act.put, List.getElem_toArray, List.getElem_cons_succ, List.getElem_cons_zero, List.setIfInBounds_toArray, List.set_cons_zero, List.set_cons_succ]
              refine wpAnyH_take (i := 24) (v := undef) rfl (by kernel_rfl) (by kernel_rfl) (by kernel_rfl) (fun _ _ _ h => h) (Or.inr ⟨by kernel_rfl, rfl⟩) (by assumption) ?_
              simp only [Act.put, List.getElem_toArray, List.getElem_cons_succ, List.getElem_cons_zero, List.setIfInBounds_toArray, List.set_cons_zero, List.set_cons_succ]
              refine wpAnyH_take (i := 25) (v := undef) rfl (by kernel_rfl) (by kernel_rfl) (by kernel_rfl) (fun _ _ _ h => h) (Or.inr ⟨by kernel_rfl, rfl⟩) (by assumption) ?_
              simp only [Act.put, List.getElem_toArray, List.getElem_cons_succ, List.getElem_cons_zero, List.setIfInBounds_toArray, List.set_cons_zero, List.set_cons_succ]
              refine wpAnyH_take (i := 26) (v := undef) rfl (by kernel_rfl) (by kernel_rfl) (by kernel_rfl) (fun _ _ _ h => h) (Or.inr ⟨by kernel_rfl, rfl⟩) (by assumption) ?_
              simp only [Act.put, List.getElem_toArray, List.getElem_cons_succ, List.getElem_cons_zero, List.setIfInBounds_toArray, List.set_cons_zero, List.set_cons_succ]
              refine wpAnyH_take (i := 27) (v := .bool false) rfl (by kernel_rfl) (by kernel_rfl) (by kernel_rfl) (fun _ _ _ h => h) (Or.inl ⟨by kernel_rfl, fun X hX => ?_⟩) (by assumption) ?_
              · (try dsimp only at hX); go_simp
              try simp only [Act.put, List.setIfInBounds_toArray]
              refine wpAnyH_take (i := 28) (v := .bool false) rfl (by kernel_rfl) (by kernel_rfl) (by kernel_rfl) (fun _ _ _ h => h) (Or.inl ⟨by kernel_rfl, fun X hX => ?_⟩) (by assumption) ?_
              · (try dsimp only at hX); go_simp
              try simp only [Act.put]
              refine wpAnyH_take (i := 29) (v := undef) rfl (by kernel_rfl) (by kernel_rfl) (by kernel_rfl) (fun _ _ _ h => h) (Or.inr ⟨by kernel_rfl, rfl⟩) (by assumption) ?_
              simp only [Act.put, List.getElem_toArray, List.getElem_cons_succ, List.getElem_cons_zero, List.setIfInBounds_toArray, List.set_cons_zero, List.set_cons_succ]
              refine wpAnyH_take (i := 30) (v := undef) rfl (by kernel_rfl) (by kernel_rfl) (by kernel_rfl) (fun _ _ _ h => h) (Or.inr ⟨by kernel_rfl, rfl⟩) (by assumption) ?_
              simp only [Act.put, List.getElem_toArray, List.getElem_cons_succ, List.getElem_cons_zero, List.setIfInBounds_toArray, List.set_cons_zero, List.set_cons_succ]
              refine wpAnyH_take (i := 31) (v := undef) rfl (by kernel_rfl) (by kernel_rfl) (by kernel_rfl) (fun _ _ _ h => h) (Or.inr ⟨by kernel_rfl, rfl⟩) (by assumption) ?_
              simp only [Act.put, List.getElem_toArray, List.getElem_cons_succ, List.getElem_cons_zero, List.setIfInBounds_toArray, List.set_cons_zero, List.set_cons_succ]
              refine wpAnyH_take (i := 32) (v := undef) rfl (by kernel_rfl) (by kernel_rfl) (by kernel_rfl) (fun _ _ _ h => h) (Or.inr ⟨by kernel_rfl, rfl⟩) (by assumption) ?_
              simp only [Act.put, List.getElem_toArray, List.getElem_cons_succ, List.getElem_cons_zero, List.setIfInBounds_toArray, List.set_cons_zero, List.set_cons_succ]
              refine wpAnyH_take (i := 33) (v := undef) rfl (by kernel_rfl) (by kernel_rfl) (by kernel_rfl) (fun _ _ _ h => h) (Or.inr ⟨by kernel_rfl, rfl⟩) (by assumption) ?_
              simp only [Act.put, List.getElem_toArray, List.getElem_cons_succ, List.getElem_cons_zero, List.setIfInBounds_toArray, List.set_cons_zero, List.set_cons_succ]
              refine wpAnyH_take (i := 34) (v := undef) rfl (by kernel_rfl) (by kernel_rfl) (by kernel_rfl) (fun _ _ _ h => h) (Or.inr ⟨by kernel_rfl, rfl⟩) (by assumption) ?_
              simp only [Act.put, List.getElem_toArray, List.getElem_cons_succ, List.getElem_cons_zero, List.setIfInBounds_toArray, List.set_cons_zero, List.set_cons_succ]
              refine wpAnyH_take (i := 35) (v := undef) rfl (by kernel_rfl) (by kernel_rfl) (by kernel_rfl) (fun _ _ _ h => h) (Or.inr ⟨by kernel_rfl, rfl⟩) (by assumption) ?_
              simp only [Act.put, List.getElem_toArray, List.getElem_cons_succ, List.getElem_cons_zero, List.setIfInBounds_toArray, List.set_cons_zero, List.set_cons_succ]
              refine wpAnyH_take (i := 36) (v := undef) rfl (by kernel_rfl) (by kernel_rfl) (by kernel_rfl) (fun _ _ _ h => h) (Or.inr ⟨by kernel_rfl, rfl⟩) (by assumption) ?_
              simp only [Act.put, List.getElem_toArray, List.getElem_cons_succ, List.getElem_cons_zero, List.setIfInBounds_toArray, List.set_cons_zero, List.set_cons_succ]
              refine wpAnyH_take (i := 37) (v := undef) rfl (by kernel_rfl) (by kernel_rfl) (by kernel_rfl) (fun _ _ _ h => h) (Or.inr ⟨by kernel_rfl, rfl⟩) (by assumption) ?_
              simp only [Act.put, List.getElem_toArray, List.getElem_cons_succ, List.getElem_cons_zero, List.setIfInBounds_toArray, List.set_cons_zero, List.set_cons_succ]
              refine wpAnyH_take (i := 38) (v := undef) rfl (by kernel_rfl) (by kernel_rfl) (by kernel_rfl) (fun _ _ _ h => h) (Or.inr ⟨by kernel_rfl, rfl⟩) (by assumption) ?_
              simp only [Act.put, List.getElem_toArray, List.getElem_cons_succ, List.getElem_cons_zero, List.setIfInBounds_toArray, List.set_cons_zero, List.set_cons_succ]
              refine wpAnyH_take (i := 39) (v := .bool false) rfl (by kernel_rfl) (by kernel_rfl) (by kernel_rfl) (fun _ _ _ h => h) (Or.inl ⟨by kernel_rfl, fun X hX => ?_⟩) (by assumption) ?_
              · (try dsimp only at hX); go_simp
              try simp only [Act.put, List.setIfInBounds_toArray]
              refine wpAnyH_take (i := 40) (v := .bool false) rfl (by kernel_rfl) (by kernel_rfl) (by kernel_rfl) (fun _ _ _ h => h) (Or.inl ⟨by kernel_rfl, fun X hX => ?_⟩) (by assumption) ?_
              · (try dsimp only at hX); go_simp
              try simp only [Act.put]
              refine wpAnyH_done (by kernel_rfl) ?_ _
              all_goals (
                obtain ⟨p1, p2⟩ := HKd.out
                have HC6 : Hid (Calls Tryz.prog 69 #[.pointer (some ⟨P, 0, none⟩), .pointer tpa] x1 fun e w4 => e = .returned (.tuple #[]) ∧ PaE P (.pointer tpb) R w4) := p2
                clear HKd p2 n1 n2 n3
                go_wp2_with (go_at_call 69; fail)
                refine HC6.out.mono ?_
                rintro e w17 ⟨rfl, q1, q2⟩
                have HC7 : Hid (Calls Tryz.prog 69 #[.pointer (some ⟨P, 2, none⟩), .pointer tpb] w17 fun e w5 => e = .returned (.tuple #[]) ∧ R w5) := q2
                clear q2 HC6 p1
                go_wp2_with (go_at_call 69; fail)
                refine HC7.out.mono ?_
                rintro e w18 ⟨rfl, hr⟩
                have HR8 : Hid (R w18) := hr
                clear hr HC7
                go_wp2
                go_ret
                exact ⟨rfl, HR8.out⟩)
            | true =>
              cases v3 with
              | false =>
                have HK0 : Hid (Calls Tryz.prog 117 #[.pointer (some ⟨P, 0, none⟩), .pointer (some ⟨ga, xa, none⟩), .pointer (some ⟨gb, xb, none⟩)] w5.drew fun e w1 => e = .returned (.bool true) ∧ XS P ga xa gb xb (.slice o4 ba c4) (.slice p4 ba d4) (.slice o5 n5 c5) (.slice p5 m5 d5) (.slice o6 n6 c6) (.slice p6 m6 d6) w1 ∧ (XC 118 P ga xa gb xb (.slice o4 ba c4) (.slice p4 ba d4) (.slice o5 n5 c5) (.slice p5 m5 d5) (.slice o6 n6 c6) (.slice p6 m6 d6) (.slice o4 ba c4) (.slice p4 ba d4) true (XC 119 P ga xa gb xb (.slice o4 ba c4) (.slice p4 ba d4) (.slice o5 n5 c5) (.slice p5 m5 d5) (.slice o6 n6 c6) (.slice p6 m6 d6) (.slice o5 n5 c5) (.slice p5 m5 d5) false (PaD P (.pointer tpa) (.pointer tpb) R))) w1) := hk5
                clear hk5
                go_wp2
                refine wp_region_held_drew (S := fun X : World => X.cell? ⟨ga, xa + 4, none⟩ = some (.slice o4 ba c4) ∧ X.cell? ⟨gb, xb + 4, none⟩ = some (.slice p4 ba d4) ∧ X.cell? ⟨ga, xa + 5, none⟩ = some (.slice o5 n5 c5) ∧ X.cell? ⟨gb, xb + 5, none⟩ = some (.slice p5 m5 d5) ∧ X.cell? ⟨ga, xa + 6, none⟩ = some (.slice o6 n6 c6) ∧ X.cell? ⟨gb, xb + 6, none⟩ = some (.slice p6 m6 d6)) (by kernel_rfl) s5d (fun hHeld => ?_)
                clear s5 s5d
                refine wpAnyH_take (i := 0) (v := .pointer (some ⟨P, 0, none⟩)) rfl (by kernel_rfl) (by kernel_rfl) (by kernel_rfl) (fun _ _ _ h => h) (Or.inl ⟨by kernel_rfl, fun X hX => ?_⟩) (by assumption) ?_
                · (try dsimp only at hX); go_simp
                try simp only [Act.put, List.setIfInBounds_toArray]
                refine wpAnyH_take (i := 1) (v := .pointer (some ⟨ga, xa, none⟩)) rfl (by kernel_rfl) (by kernel_rfl) (by kernel_rfl) (fun _ _ _ h => h) (Or.inl ⟨by kernel_rfl, fun X hX => ?_⟩) (by assumption) ?_
                · (try dsimp only at hX); go_simp
                try simp only [Act.put]
                refine wpAnyH_take (i := 2) (v := .pointer (some ⟨gb, xb, none⟩)) rfl (by kernel_rfl) (by kernel_rfl) (by kernel_rfl) (fun _ _ _ h => h) (Or.inl ⟨by kernel_rfl, fun X hX => ?_⟩) (by assumption) ?_
                · (try dsimp only at hX); go_simp
                try simp only [Act.put]
                refine wpAnyH_ready (rs := [3]) (by kernel_rfl) (by simp) ?_
                refine AllReadyH.cons (o := _) rfl (fun K hK => ?_) AllReadyH.nil
                go_simp
                go_at_call 117
                refine HK0.out.mono ?_
                rintro e x0 ⟨rfl, ⟨-, g0⟩, hn0⟩
                have HK1 : Hid (Calls Tryz.prog 118 #[.pointer (some ⟨P, 0, none⟩), (.slice o4 ba c4), (.slice p4 ba d4)] x0 fun e w' => e = .returned (.bool true) ∧ XS P ga xa gb xb (.slice o4 ba c4) (.slice p4 ba d4) (.slice o5 n5 c5) (.slice p5 m5 d5) (.slice o6 n6 c6) (.slice p6 m6 d6) w' ∧ (XC 119 P ga xa gb xb (.slice o4 ba c4) (.slice p4 ba d4) (.slice o5 n5 c5) (.slice p5 m5 d5) (.slice o6 n6 c6) (.slice p6 m6 d6) (.slice o5 n5 c5) (.slice p5 m5 d5) false (PaD P (.pointer tpa) (.pointer tpb) R)) w') := hn0
                refine hK.out _ _ g0 (fun hHeld0 => ?_)
                clear hK K hn0 g0 HK0 hHeld
                try simp only [Act.put, List.setIfInBounds_toArray, List.set_cons_zero, List.set_cons_succ]
                refine wpAnyH_take (i := 4) (v := .bool true) rfl (by kernel_rfl) (by kernel_rfl) (by kernel_rfl) (fun _ _ _ h => h) (Or.inl ⟨by kernel_rfl, fun X hX => ?_⟩) (by assumption) ?_
                · (try dsimp only at hX); go_simp
                try simp only [Act.put, List.setIfInBounds_toArray]
                refine wpAnyH_take (i := 5) (v := .pointer (some ⟨P, 0, none⟩)) rfl (by kernel_rfl) (by kernel_rfl) (by kernel_rfl) (fun _ _ _ h => h) (Or.inl ⟨by kernel_rfl, fun X hX => ?_⟩) (by assumption) ?_
                · (try dsimp only at hX); go_simp
                try simp only [Act.put]
                refine wpAnyH_take (i := 6) (v := .pointer (some ⟨ga, xa, none⟩)) rfl (by kernel_rfl) (by kernel_rfl) (by kernel_rfl) (fun _ _ _ h => h) (Or.inl ⟨by kernel_rfl, fun X hX => ?_⟩) (by assumption) ?_
                · (try dsimp only at hX); go_simp
                try simp only [Act.put]
                refine wpAnyH_take (i := 7) (v := .pointer (some ⟨ga, xa, none⟩)) rfl (by kernel_rfl) (by kernel_rfl) (by kernel_rfl) (fun _ _ _ h => h) (Or.inl ⟨by kernel_rfl, fun X hX => ?_⟩) (by assumption) ?_
                · (try dsimp only at hX); go_simp
                try simp only [Act.put]
                refine wpAnyH_take (i := 8) (v := .pointer (some ⟨ga, xa + 4, none⟩)) rfl (by kernel_rfl) (by kernel_rfl) (by kernel_rfl) (fun _ _ _ h => h) (Or.inl ⟨by kernel_rfl, fun X hX => ?_⟩) (by assumption) ?_
                · (try dsimp only at hX); go_simp
                try simp only [Act.put]
                refine wpAnyH_take (i := 9) (v := (.slice o4 ba c4)) rfl (by kernel_rfl) (by kernel_rfl) (by kernel_rfl) (fun _ _ _ h => h) (Or.inl ⟨by kernel_rfl, fun X hX => ?_⟩) (by assumption) ?_
                · (try dsimp only at hX); go_simp
                try simp only [Act.put]
                refine wpAnyH_take (i := 10) (v := .pointer (some ⟨gb, xb, none⟩)) rfl (by kernel_rfl) (by kernel_rfl) (by kernel_rfl) (fun _ _ _ h => h) (Or.inl ⟨by kernel_rfl, fun X hX => ?_⟩) (by assumption) ?_
                · (try dsimp only at hX); go_simp
                try simp only [Act.put]
                refine wpAnyH_take (i := 11) (v := .pointer (some ⟨gb, xb, none⟩)) rfl (by kernel_rfl) (by kernel_rfl) (by kernel_rfl) (fun _ _ _ h => h) (Or.inl ⟨by kernel_rfl, fun X hX => ?_⟩) (by assumption) ?_
                · (try dsimp only at hX); go_simp
                try simp only [Act.put]
                refine wpAnyH_take (i := 12) (v := .pointer (some ⟨gb, xb + 4, none⟩)) rfl (by kernel_rfl) (by kernel_rfl) (by kernel_rfl) (fun _ _ _ h => h) (Or.inl ⟨by kernel_rfl, fun X hX => ?_⟩) (by assumption) ?_
                · (try dsimp only at hX); go_simp
                try simp only [Act.put]
                refine wpAnyH_take (i := 13) (v := (.slice p4 ba d4)) rfl (by kernel_rfl) (by kernel_rfl) (by kernel_rfl) (fun _ _ _ h => h) (Or.inl ⟨by kernel_rfl, fun X hX => ?_⟩) (by assumption) ?_
                · (try dsimp only at hX); go_simp
                try simp only [Act.put]
                refine wpAnyH_ready (rs := [14]) (by kernel_rfl) (by simp) ?_
                refine AllReadyH.cons (o := _) rfl (fun K hK => ?_) AllReadyH.nil
                go_simp
                go_at_call 118
                refine HK1.out.mono ?_
                rintro e x1 ⟨rfl, ⟨-, g1⟩, hn1⟩
                have HK2 : Hid (Calls Tryz.prog 119 #[.pointer (some ⟨P, 0, none⟩), (.slice o5 n5 c5), (.slice p5 m5 d5)] x1 fun e w' => e = .returned (.bool false) ∧ XS P ga xa gb xb (.slice o4 ba c4) (.slice p4 ba d4) (.slice o5 n5 c5) (.slice p5 m5 d5) (.slice o6 n6 c6) (.slice p6 m6 d6) w' ∧ (PaD P (.pointer tpa) (.pointer tpb) R) w') := hn1
                refine hK.out _ _ g1 (fun hHeld1 => ?_)
                clear hK K hn1 g1 HK1 hHeld0
                try simp only [Act.put, List.setIfInBounds_toArray, List.set_cons_zero, List.set_cons_succ]
                refine wpAnyH_take (i := 15) (v := .bool true) rfl (by kernel_rfl) (by kernel_rfl) (by kernel_rfl) (fun _ _ _ h => h) (Or.inl ⟨by kernel_rfl, fun X hX => ?_⟩) (by assumption) ?_
                · (try dsimp only at hX); go_simp
                try simp only [Act.put, List.setIfInBounds_toArray]
                refine wpAnyH_take (i := 16) (v := .bool true) rfl (by kernel_rfl) (by kernel_rfl) (by kernel_rfl) (fun _ _ _ h => h) (Or.inl ⟨by kernel_rfl, fun X hX => ?_⟩) (by assumption) ?_
                · (try dsimp only at hX); go_simp
                try simp only [Act.put]
                refine wpAnyH_take (i := 17) (v := .pointer (some ⟨P, 0, none⟩)) rfl (by kernel_rfl) (by kernel_rfl) (by kernel_rfl) (fun _ _ _ h => h) (Or.inl ⟨by kernel_rfl, fun X hX => ?_⟩) (by assumption) ?_
                · (try dsimp only at hX); go_simp
                try simp only [Act.put]
                refine wpAnyH_take (i := 18) (v := .pointer (some ⟨ga, xa, none⟩)) rfl (by kernel_rfl) (by kernel_rfl) (by kernel_rfl) (fun _ _ _ h => h) (Or.inl ⟨by kernel_rfl, fun X hX => ?_⟩) (by assumption) ?_
                · (try dsimp only at hX); go_simp
                try simp only [Act.put]
                refine wpAnyH_take (i := 19) (v := .pointer (some ⟨ga, xa, none⟩)) rfl (by kernel_rfl) (by kernel_rfl) (by kernel_rfl) (fun _ _ _ h => h) (Or.inl ⟨by kernel_rfl, fun X hX => ?_⟩) (by assumption) ?_
                · (try dsimp only at hX); go_simp
                try simp only [Act.put]
                refine wpAnyH_take (i := 20) (v := .pointer (some ⟨ga, xa + 5, none⟩)) rfl (by kernel_rfl) (by kernel_rfl) (by kernel_rfl) (fun _ _ _ h => h) (Or.inl ⟨by kernel_rfl, fun X hX => ?_⟩) (by assumption) ?_
                · (try dsimp only at hX); go_simp
                try simp only [Act.put]
                refine wpAnyH_take (i := 21) (v := (.slice o5 n5 c5)) rfl (by kernel_rfl) (by kernel_rfl) (by kernel_rfl) (fun _ _ _ h => h) (Or.inl ⟨by kernel_rfl, fun X hX => ?_⟩) (by assumption) ?_
                · (try dsimp only at hX); go_simp
                try simp only [Act.put]
                refine wpAnyH_take (i := 22) (v := .pointer (some ⟨gb, xb, none⟩)) rfl (by kernel_rfl) (by kernel_rfl) (by kernel_rfl) (fun _ _ _ h => h) (Or.inl ⟨by kernel_rfl, fun X hX => ?_⟩) (by assumption) ?_
                · (try dsimp only at hX); go_simp
                try simp only [Act.put]
                refine wpAnyH_take (i := 23) (v := .pointer (some ⟨gb, xb, none⟩)) rfl (by kernel_rfl) (by kernel_rfl) (by kernel_rfl) (fun _ _ _ h => h) (Or.inl ⟨by kernel_rfl, fun X hX => ?_⟩) (by assumption) ?_
                · (try dsimp only at hX); go_simp
                try simp only [Act.put]
                refine wpAnyH_take (i := 24) (v := .pointer (some ⟨gb, xb + 5, none⟩)) rfl (by kernel_rfl) (by kernel_rfl) (by kernel_rfl) (fun _ _ _ h => h) (Or.inl ⟨by kernel_rfl, fun X hX => ?_⟩) (by assumption) ?_
                · (try dsimp only at hX); go_simp
                try simp only [Act.put]
                refine wpAnyH_take (i := 25) (v := (.slice p5 m5 d5)) rfl (by kernel_rfl) (by kernel_rfl) (by kernel_rfl) (fun _ _ _ h => h) (Or.inl ⟨by kernel_rfl, fun X hX => ?_⟩) (by assumption) ?_
                · (try dsimp only at hX); go_simp
                try simp only [Act.put]
                refine wpAnyH_ready (rs := [26]) (by kernel_rfl) (by simp) ?_
                refine AllReadyH.cons (o := _) rfl (fun K hK => ?_) AllReadyH.nil
                go_simp
                go_at_call 119
                refine HK2.out.mono ?_
                rintro e x2 ⟨rfl, ⟨-, g2⟩, hn2⟩
                have HKd : Hid ((PaD P (.pointer tpa) (.pointer tpb) R) x2) := hn2
                refine hK.out _ _ g2 (fun hHeld2 => ?_)
                clear hK K hn2 g2 HK2 hHeld1
                try simp only [Act.put, List.setIfInBounds_toArray, List.set_cons_zero, List.set_cons_succ]
                refine wpAnyH_take (i := 27) (v := .bool false) rfl (by kernel_rfl) (by kernel_rfl) (by kernel_rfl) (fun _ _ _ h => h) (Or.inl ⟨by kernel_rfl, fun X hX => ?_⟩) (by assumption) ?_
                · (try dsimp only at hX); go_simp
                try simp only [Act.put, List.setIfInBounds_toArray]
                refine wpAnyH_take (i := 28) (v := .bool false) rfl (by kernel_rfl) (by kernel_rfl) (by kernel_rfl) (fun _ _ _ h => h) (Or.inl ⟨by kernel_rfl, fun X hX => ?_⟩) (by assumption) ?_
                · (try dsimp only at hX); go_simp
                try simp only [Act.put]
                refine wpAnyH_take (i := 29) (v := undef) rfl (by kernel_rfl) (by kernel_rfl) (by kernel_rfl) (fun _ _ _ h => h) (Or.inr ⟨by kernel_rfl, rfl⟩) (by assumption) ?_
                simp only [Act.put, List.getElem_toArray, List.getElem_cons_succ, List.getElem_cons_zero, List.setIfInBounds_toArray, List.set_cons_zero, List.set_cons_succ]
                refine wpAnyH_take (i := 30) (v := undef) rfl (by kernel_rfl) (by kernel_rfl) (by kernel_rfl) (fun _ _ _ h => h) (Or.inr ⟨by kernel_rfl, rfl⟩) (by assumption) ?_
                simp only [Act.put, List.getElem_toArray, List.getElem_cons_succ, List.getElem_cons_zero, List.setIfInBounds_toArray, List.set_cons_zero, List.set_cons_succ]
                refine wpAnyH_take (i := 31) (v := undef) rfl (by kernel_rfl) (by kernel_rfl) (by kernel_rfl) (fun _ _ _ h => h) (Or.inr ⟨by kernel_rfl, rfl⟩) (by assumption) ?_
                simp only [Act.put, List.getElem_toArray, List.getElem_cons_succ, List.getElem_cons_zero, List.setIfInBounds_toArray, List.set_cons_zero, List.set_cons_succ]
                refine wpAnyH_take (i := 32) (v := undef) rfl (by kernel_rfl) (by kernel_rfl) (by kernel_rfl) (fun _ _ _ h => h) (Or.inr ⟨by kernel_rfl, rfl⟩) (by assumption) ?_
                simp only [Act.put, List.getElem_toArray, List.getElem_cons_succ, List.getElem_cons_zero, List.setIfInBounds_toArray, List.set_cons_zero, List.set_cons_succ]
                refine wpAnyH_take (i := 33) (v := undef) rfl (by kernel_rfl) (by kernel_rfl) (by kernel_rfl) (fun _ _ _ h => h) (Or.inr ⟨by kernel_rfl, rfl⟩) (by assumption) ?_
                simp only [Act.put, List.getElem_toArray, List.getElem_cons_succ, List.getElem_cons_zero, List.setIfInBounds_toArray, List.set_cons_zero, List.set_cons_succ]
                refine wpAnyH_take (i := 34) (v := undef) rfl (by kernel_rfl) (by kernel_rfl) (by kernel_rfl) (fun _ _ _ h => h) (Or.inr ⟨by kernel_rfl, rfl⟩) (by assumption) ?_
                simp only [Act.put, List.getElem_toArray, List.getElem_cons_succ, List.getElem_cons_zero, List.setIfInBounds_toArray, List.set_cons_zero, List.set_cons_succ]
                refine wpAnyH_take (i := 35) (v := undef) rfl (by kernel_rfl) (by kernel_rfl) (by kernel_rfl) (fun _ _ _ h => h) (Or.inr ⟨by kernel_rfl, rfl⟩) (by assumption) ?_
                simp only [Act.put, List.getElem_toArray, List.getElem_cons_succ, List.getElem_cons_zero, List.setIfInBounds_toArray, List.set_cons_zero, List.set_cons_succ]
                refine wpAnyH_take (i := 36) (v := undef) rfl (by kernel_rfl) (by kernel_rfl) (by kernel_rfl) (fun _ _ _ h => h) (Or.inr ⟨by kernel_rfl, rfl⟩) (by assumption) ?_
                simp only [Act.put, List.getElem_toArray, List.getElem_cons_succ, List.getElem_cons_zero, List.setIfInBounds_toArray, List.set_cons_zero, List.set_cons_succ]
                refine wpAnyH_take (i := 37) (v := undef) rfl (by kernel_rfl) (by kernel_rfl) (by kernel_rfl) (fun _ _ _ h => h) (Or.inr ⟨by kernel_rfl, rfl⟩) (by assumption) ?_
                simp only [Act.put, List.getElem_toArray, List.getElem_cons_succ, List.getElem_cons_zero, List.setIfInBounds_toArray, List.set_cons_zero, List.set_cons_succ]
                refine wpAnyH_take (i := 38) (v := undef) rfl (by kernel_rfl) (by kernel_rfl) (by kernel_rfl) (fun _ _ _ h => h) (Or.inr ⟨by kernel_rfl, rfl⟩) (by assumption) ?_
                simp only [Act.put, List.getElem_toArray, List.getElem_cons_succ, List.getElem_cons_zero, List.setIfInBounds_toArray, List.set_cons_zero, List.set_cons_succ]
                refine wpAnyH_take (i := 39) (v := .bool false) rfl (by kernel_rfl) (by kernel_rfl) (by kernel_rfl) (fun _ _ _ h => h) (Or.inl ⟨by kernel_rfl, fun X hX => ?_⟩) (by assumption) ?_
                · (try dsimp only at hX); go_simp
                try simp only [Act.put, List.setIfInBounds_toArray]
                refine wpAnyH_take (i := 40) (v := .bool false) rfl (by kernel_rfl) (by kernel_rfl) (by kernel_rfl) (fun _ _ _ h => h) (Or.inl ⟨by kernel_rfl, fun X hX => ?_⟩) (by assumption) ?_
                · (try dsimp only at hX); go_simp
                try simp only [Act.put]
                refine wpAnyH_done (by kernel_rfl) ?_ _
                all_goals (
                  obtain ⟨p1, p2⟩ := HKd.out
                  have HC6 : Hid (Calls Tryz.prog 69 #[.pointer (some ⟨P, 0, none⟩), .pointer tpa] x2 fun e w4 => e = .returned (.tuple #[]) ∧ PaE P (.pointer tpb) R w4) := p2
                  clear HKd p2 n1 n2 n3
                  go_wp2_with (go_at_call 69; fail)
                  refine HC6.out.mono ?_
                  rintro e w17 ⟨rfl, q1, q2⟩
                  have HC7 : Hid (Calls Tryz.prog 69 #[.pointer (some ⟨P, 2, none⟩), .pointer tpb] w17 fun e w5 => e = .returned (.tuple #[]) ∧ R w5) := q2
                  clear q2 HC6 p1
                  go_wp2_with (go_at_call 69; fail)
                  refine HC7.out.mono ?_
                  rintro e w18 ⟨rfl, hr⟩
                  have HR8 : Hid (R w18) := hr
                  clear hr HC7
                  go_wp2
                  go_ret
                  exact ⟨rfl, HR8.out⟩)
              | true =>
                have HK0 : Hid (Calls Tryz.prog 117 #[.pointer (some ⟨P, 0, none⟩), .pointer (some ⟨ga, xa, none⟩), .pointer (some ⟨gb, xb, none⟩)] w5.drew fun e w1 => e = .returned (.bool true) ∧ XS P ga xa gb xb (.slice o4 ba c4) (.slice p4 ba d4) (.slice o5 n5 c5) (.slice p5 m5 d5) (.slice o6 n6 c6) (.slice p6 m6 d6) w1 ∧ (XC 118 P ga xa gb xb (.slice o4 ba c4) (.slice p4 ba d4) (.slice o5 n5 c5) (.slice p5 m5 d5) (.slice o6 n6 c6) (.slice p6 m6 d6) (.slice o4 ba c4) (.slice p4 ba d4) true (XC 119 P ga xa gb xb (.slice o4 ba c4) (.slice p4 ba d4) (.slice o5 n5 c5) (.slice p5 m5 d5) (.slice o6 n6 c6) (.slice p6 m6 d6) (.slice o5 n5 c5) (.slice p5 m5 d5) true (XC 120 P ga xa gb xb (.slice o4 ba c4) (.slice p4 ba d4) (.slice o5 n5 c5) (.slice p5 m5 d5) (.slice o6 n6 c6) (.slice p6 m6 d6) (.slice o6 n6 c6) (.slice p6 m6 d6) v4 (PaD P (.pointer tpa) (.pointer tpb) R)))) w1) := hk5
                clear hk5
                go_wp2
                refine wp_region_held_drew (S := fun X : World => X.cell? ⟨ga, xa + 4, none⟩ = some (.slice o4 ba c4) ∧ X.cell? ⟨gb, xb + 4, none⟩ = some (.slice p4 ba d4) ∧ X.cell? ⟨ga, xa + 5, none⟩ = some (.slice o5 n5 c5) ∧ X.cell? ⟨gb, xb + 5, none⟩ = some (.slice p5 m5 d5) ∧ X.cell? ⟨ga, xa + 6, none⟩ = some (.slice o6 n6 c6) ∧ X.cell? ⟨gb, xb + 6, none⟩ = some (.slice p6 m6 d6)) (by kernel_rfl) s5d (fun hHeld => ?_)
                clear s5 s5d
                refine wpAnyH_take (i := 0) (v := .pointer (some ⟨P, 0, none⟩)) rfl (by kernel_rfl) (by kernel_rfl) (by kernel_rfl) (fun _ _ _ h => h) (Or.inl ⟨by kernel_rfl, fun X hX => ?_⟩) (by assumption) ?_
                · (try dsimp only at hX); go_simp
                try simp only [Act.put, List.setIfInBounds_toArray]
                refine wpAnyH_take (i := 1) (v := .pointer (some ⟨ga, xa, none⟩)) rfl (by kernel_rfl) (by kernel_rfl) (by kernel_rfl) (fun _ _ _ h => h) (Or.inl ⟨by kernel_rfl, fun X hX => ?_⟩) (by assumption) ?_
                · (try dsimp only at hX); go_simp
                try simp only [Act.put]
                refine wpAnyH_take (i := 2) (v := .pointer (some ⟨gb, xb, none⟩)) rfl (by kernel_rfl) (by kernel_rfl) (by kernel_rfl) (fun _ _ _ h => h) (Or.inl ⟨by kernel_rfl, fun X hX => ?_⟩) (by assumption) ?_
                · (try dsimp only at hX); go_simp
                try simp only [Act.put]
                refine wpAnyH_ready (rs := [3]) (by kernel_rfl) (by simp) ?_
                refine AllReadyH.cons (o := _) rfl (fun K hK => ?_) AllReadyH.nil
                go_simp
                go_at_call 117
                refine HK0.out.mono ?_
                rintro e x0 ⟨rfl, ⟨-, g0⟩, hn0⟩
                have HK1 : Hid (Calls Tryz.prog 118 #[.pointer (some ⟨P, 0, none⟩), (.slice o4 ba c4), (.slice p4 ba d4)] x0 fun e w' => e = .returned (.bool true) ∧ XS P ga xa gb xb (.slice o4 ba c4) (.slice p4 ba d4) (.slice o5 n5 c5) (.slice p5 m5 d5) (.slice o6 n6 c6) (.slice p6 m6 d6) w' ∧ (XC 119 P ga xa gb xb (.slice o4 ba c4) (.slice p4 ba d4) (.slice o5 n5 c5) (.slice p5 m5 d5) (.slice o6 n6 c6) (.slice p6 m6 d6) (.slice o5 n5 c5) (.slice p5 m5 d5) true (XC 120 P ga xa gb xb (.slice o4 ba c4) (.slice p4 ba d4) (.slice o5 n5 c5) (.slice p5 m5 d5) (.slice o6 n6 c6) (.slice p6 m6 d6) (.slice o6 n6 c6) (.slice p6 m6 d6) v4 (PaD P (.pointer tpa) (.pointer tpb) R))) w') := hn0
                refine hK.out _ _ g0 (fun hHeld0 => ?_)
                clear hK K hn0 g0 HK0 hHeld
                try simp only [Act.put, List.setIfInBounds_toArray, List.set_cons_zero, List.set_cons_succ]
                refine wpAnyH_take (i := 4) (v := .bool true) rfl (by kernel_rfl) (by kernel_rfl) (by kernel_rfl) (fun _ _ _ h => h) (Or.inl ⟨by kernel_rfl, fun X hX => ?_⟩) (by assumption) ?_
                · (try dsimp only at hX); go_simp
                try simp only [Act.put, List.setIfInBounds_toArray]
                refine wpAnyH_take (i := 5) (v := .pointer (some ⟨P, 0, none⟩)) rfl (by kernel_rfl) (by kernel_rfl) (by kernel_rfl) (fun _ _ _ h => h) (Or.inl ⟨by kernel_rfl, fun X hX => ?_⟩) (by assumption) ?_
                · (try dsimp only at hX); go_simp
                try simp only [Act.put]
                refine wpAnyH_take (i := 6) (v := .pointer (some ⟨ga, xa, none⟩)) rfl (by kernel_rfl) (by kernel_rfl) (by kernel_rfl) (fun _ _ _ h => h) (Or.inl ⟨by kernel_rfl, fun X hX => ?_⟩) (by assumption) ?_
                · (try dsimp only at hX); go_simp
                try simp only [Act.put]
                refine wpAnyH_take (i := 7) (v := .pointer (some ⟨ga, xa, none⟩)) rfl (by kernel_rfl) (by kernel_rfl) (by kernel_rfl) (fun _ _ _ h => h) (Or.inl ⟨by kernel_rfl, fun X hX => ?_⟩) (by assumption) ?_
                · (try dsimp only at hX); go_simp
                try simp only [Act.put]
                refine wpAnyH_take (i := 8) (v := .pointer (some ⟨ga, xa + 4, none⟩)) rfl (by kernel_rfl) (by kernel_rfl) (by kernel_rfl) (fun _ _ _ h => h) (Or.inl ⟨by kernel_rfl, fun X hX => ?_⟩) (by assumption) ?_
                · (try dsimp only at hX); go_simp
                try simp only [Act.put]
                refine wpAnyH_take (i := 9) (v := (.slice o4 ba c4)) rfl (by kernel_rfl) (by kernel_rfl) (by kernel_rfl) (fun _ _ _ h => h) (Or.inl ⟨by kernel_rfl, fun X hX => ?_⟩) (by assumption) ?_
                · (try dsimp only at hX); go_simp
                try simp only [Act.put]
                refine wpAnyH_take (i := 10) (v := .pointer (some ⟨gb, xb, none⟩)) rfl (by kernel_rfl) (by kernel_rfl) (by kernel_rfl) (fun _ _ _ h => h) (Or.inl ⟨by kernel_rfl, fun X hX => ?_⟩) (by assumption) ?_
                · (try dsimp only at hX); go_simp
                try simp only [Act.put]
                refine wpAnyH_take (i := 11) (v := .pointer (some ⟨gb, xb, none⟩)) rfl (by kernel_rfl) (by kernel_rfl) (by kernel_rfl) (fun _ _ _ h => h) (Or.inl ⟨by kernel_rfl, fun X hX => ?_⟩) (by assumption) ?_
                · (try dsimp only at hX); go_simp
                try simp only [Act.put]
                refine wpAnyH_take (i := 12) (v := .pointer (some ⟨gb, xb + 4, none⟩)) rfl (by kernel_rfl) (by kernel_rfl) (by kernel_rfl) (fun _ _ _ h => h) (Or.inl ⟨by kernel_rfl, fun X hX => ?_⟩) (by assumption) ?_
                · (try dsimp only at hX); go_simp
                try simp only [Act.put]
                refine wpAnyH_take (i := 13) (v := (.slice p4 ba d4)) rfl (by kernel_rfl) (by kernel_rfl) (by kernel_rfl) (fun _ _ _ h => h) (Or.inl ⟨by kernel_rfl, fun X hX => ?_⟩) (by assumption) ?_
                · (try dsimp only at hX); go_simp
                try simp only [Act.put]
                refine wpAnyH_ready (rs := [14]) (by kernel_rfl) (by simp) ?_
                refine AllReadyH.cons (o := _) rfl (fun K hK => ?_) AllReadyH.nil
                go_simp
                go_at_call 118
                refine HK1.out.mono ?_
                rintro e x1 ⟨rfl, ⟨-, g1⟩, hn1⟩
                have HK2 : Hid (Calls Tryz.prog 119 #[.pointer (some ⟨P, 0, none⟩), (.slice o5 n5 c5), (.slice p5 m5 d5)] x1 fun e w' => e = .returned (.bool true) ∧ XS P ga xa gb xb (.slice o4 ba c4) (.slice p4 ba d4) (.slice o5 n5 c5) (.slice p5 m5 d5) (.slice o6 n6 c6) (.slice p6 m6 d6) w' ∧ (XC 120 P ga xa gb xb (.slice o4 ba c4) (.slice p4 ba d4) (.slice o5 n5 c5) (.slice p5 m5 d5) (.slice o6 n6 c6) (.slice p6 m6 d6) (.slice o6 n6 c6) (.slice p6 m6 d6) v4 (PaD P (.pointer tpa) (.pointer tpb) R)) w') := hn1
                refine hK.out _ _ g1 (fun hHeld1 => ?_)
                clear hK K hn1 g1 HK1 hHeld0
                try simp only [Act.put, List.setIfInBounds_toArray, List.set_cons_zero, List.set_cons_succ]
                refine wpAnyH_take (i := 15) (v := .bool true) rfl (by kernel_rfl) (by kernel_rfl) (by kernel_rfl) (fun _ _ _ h => h) (Or.inl ⟨by kernel_rfl, fun X hX => ?_⟩) (by assumption) ?_
                · (try dsimp only at hX); go_simp
                try simp only [Act.put, List.setIfInBounds_toArray]
                refine wpAnyH_take (i := 16) (v := .bool true) rfl (by kernel_rfl) (by kernel_rfl) (by kernel_rfl) (fun _ _ _ h => h) (Or.inl ⟨by kernel_rfl, fun X hX => ?_⟩) (by assumption) ?_
                · (try dsimp only at hX); go_simp
                try simp only [Act.put]
                refine wpAnyH_take (i := 17) (v := .pointer (some ⟨P, 0, none⟩)) rfl (by kernel_rfl) (by kernel_rfl) (by kernel_rfl) (fun _ _ _ h => h) (Or.inl ⟨by kernel_rfl, fun X hX => ?_⟩) (by assumption) ?_
                · (try dsimp only at hX); go_simp
                try simp only [Act.put]
                refine wpAnyH_take (i := 18) (v := .pointer (some ⟨ga, xa, none⟩)) rfl (by kernel_rfl) (by kernel_rfl) (by kernel_rfl) (fun _ _ _ h => h) (Or.inl ⟨by kernel_rfl, fun X hX => ?_⟩) (by assumption) ?_
                · (try dsimp only at hX); go_simp
                try simp only [Act.put]
                refine wpAnyH_take (i := 19) (v := .pointer (some ⟨ga, xa, none⟩)) rfl (by kernel_rfl) (by kernel_rfl) (by kernel_rfl) (fun _ _ _ h => h) (Or.inl ⟨by kernel_rfl, fun X hX => ?_⟩) (by assumption) ?_
                · (try dsimp only at hX); go_simp
                try simp only [Act.put]
                refine wpAnyH_take (i := 20) (v := .pointer (some ⟨ga, xa + 5, none⟩)) rfl (by kernel_rfl) (by kernel_rfl) (by kernel_rfl) (fun _ _ _ h => h) (Or.inl ⟨by kernel_rfl, fun X hX => ?_⟩) (by assumption) ?_
                · (try dsimp only at hX); go_simp
                try simp only [Act.put]
                refine wpAnyH_take (i := 21) (v := (.slice o5 n5 c5)) rfl (by kernel_rfl) (by kernel_rfl) (by kernel_rfl) (fun _ _ _ h => h) (Or.inl ⟨by kernel_rfl, fun X hX => ?_⟩) (by assumption) ?_
                · (try dsimp only at hX); go_simp
                try simp only [Act.put]
                refine wpAnyH_take (i := 22) (v := .pointer (some ⟨gb, xb, none⟩)) rfl (by kernel_rfl) (by kernel_rfl) (by kernel_rfl) (fun _ _ _ h => h) (Or.inl ⟨by kernel_rfl, fun X hX => ?_⟩) (by assumption) ?_
                · (try dsimp only at hX); go_simp
                try simp only [Act.put]
                refine wpAnyH_take (i := 23) (v := .pointer (some ⟨gb, xb, none⟩)) rfl (by kernel_rfl) (by kernel_rfl) (by kernel_rfl) (fun _ _ _ h => h) (Or.inl ⟨by kernel_rfl, fun X hX => ?_⟩) (by assumption) ?_
                · (try dsimp only at hX); go_simp
                try simp only [Act.put]
                refine wpAnyH_take (i := 24) (v := .pointer (some ⟨gb, xb + 5, none⟩)) rfl (by kernel_rfl) (by kernel_rfl) (by kernel_rfl) (fun _ _ _ h => h) (Or.inl ⟨by kernel_rfl, fun X hX => ?_⟩) (by assumption) ?_
                · (try dsimp only at hX); go_simp
                try simp only [Act.put]
                refine wpAnyH_take (i := 25) (v := (.slice p5 m5 d5)) rfl (by kernel_rfl) (by kernel_rfl) (by kernel_rfl) (fun _ _ _ h => h) (Or.inl ⟨by kernel_rfl, fun X hX => ?_⟩) (by assumption) ?_
                · (try dsimp only at hX); go_simp
                try simp only [Act.put]
                refine wpAnyH_ready (rs := [26]) (by kernel_rfl) (by simp) ?_
                refine AllReadyH.cons (o := _) rfl (fun K hK => ?_) AllReadyH.nil
                go_simp
                go_at_call 119
                refine HK2.out.mono ?_
                rintro e x2 ⟨rfl, ⟨-, g2⟩, hn2⟩
                have HK3 : Hid (Calls Tryz.prog 120 #[.pointer (some ⟨P, 0, none⟩), (.slice o6 n6 c6), (.slice p6 m6 d6)] x2 fun e w' => e = .returned (.bool v4) ∧ XS P ga xa gb xb (.slice o4 ba c4) (.slice p4 ba d4) (.slice o5 n5 c5) (.slice p5 m5 d5) (.slice o6 n6 c6) (.slice p6 m6 d6) w' ∧ (PaD P (.pointer tpa) (.pointer tpb) R) w') := hn2
                refine hK.out _ _ g2 (fun hHeld2 => ?_)
                clear hK K hn2 g2 HK2 hHeld1
                try simp only [Act.put, List.setIfInBounds_toArray, List.set_cons_zero, List.set_cons_succ]
                refine wpAnyH_take (i := 27) (v := .bool true) rfl (by kernel_rfl) (by kernel_rfl) (by kernel_rfl) (fun _ _ _ h => h) (Or.inl ⟨by kernel_rfl, fun X hX => ?_⟩) (by assumption) ?_
                · (try dsimp only at hX); go_simp
                try simp only [Act.put, List.setIfInBounds_toArray]
                refine wpAnyH_take (i := 28) (v := .bool true) rfl (by kernel_rfl) (by kernel_rfl) (by kernel_rfl) (fun _ _ _ h => h) (Or.inl ⟨by kernel_rfl, fun X hX => ?_⟩) (by assumption) ?_
                · (try dsimp only at hX); go_simp
                try simp only [Act.put]
                refine wpAnyH_take (i := 29) (v := .pointer (some ⟨P, 0, none⟩)) rfl (by kernel_rfl) (by kernel_rfl) (by kernel_rfl) (fun _ _ _ h => h) (Or.inl ⟨by kernel_rfl, fun X hX => ?_⟩) (by assumption) ?_
                · (try dsimp only at hX); go_simp
                try simp only [Act.put]
                refine wpAnyH_take (i := 30) (v := .pointer (some ⟨ga, xa, none⟩)) rfl (by kernel_rfl) (by kernel_rfl) (by kernel_rfl) (fun _ _ _ h => h) (Or.inl ⟨by kernel_rfl, fun X hX => ?_⟩) (by assumption) ?_
                · (try dsimp only at hX); go_simp
                try simp only [Act.put]
                refine wpAnyH_take (i := 31) (v := .pointer (some ⟨ga, xa, none⟩)) rfl (by kernel_rfl) (by kernel_rfl) (by kernel_rfl) (fun _ _ _ h => h) (Or.inl ⟨by kernel_rfl, fun X hX => ?_⟩) (by assumption) ?_
                · (try dsimp only at hX); go_simp
                try simp only [Act.put]
                refine wpAnyH_take (i := 32) (v := .pointer (some ⟨ga, xa + 6, none⟩)) rfl (by kernel_rfl) (by kernel_rfl) (by kernel_rfl) (fun _ _ _ h => h) (Or.inl ⟨by kernel_rfl, fun X hX => ?_⟩) (by assumption) ?_
                · (try dsimp only at hX); go_simp
                try simp only [Act.put]
                refine wpAnyH_take (i := 33) (v := (.slice o6 n6 c6)) rfl (by kernel_rfl) (by kernel_rfl) (by kernel_rfl) (fun _ _ _ h => h) (Or.inl ⟨by kernel_rfl, fun X hX => ?_⟩) (by assumption) ?_
                · (try dsimp only at hX); go_simp
                try simp only [Act.put]
                refine wpAnyH_take (i := 34) (v := .pointer (some ⟨gb, xb, none⟩)) rfl (by kernel_rfl) (by kernel_rfl) (by kernel_rfl) (fun _ _ _ h => h) (Or.inl ⟨by kernel_rfl, fun X hX => ?_⟩) (by assumption) ?_
                · (try dsimp only at hX); go_simp
                try simp only [Act.put]
                refine wpAnyH_take (i := 35) (v := .pointer (some ⟨gb, xb, none⟩)) rfl (by kernel_rfl) (by kernel_rfl) (by kernel_rfl) (fun _ _ _ h => h) (Or.inl ⟨by kernel_rfl, fun X hX => ?_⟩) (by assumption) ?_
                · (try dsimp only at hX); go_simp
                try simp only [Act.put]
                refine wpAnyH_take (i := 36) (v := .pointer (some ⟨gb, xb + 6, none⟩)) rfl (by kernel_rfl) (by kernel_rfl) (by kernel_rfl) (fun _ _ _ h => h) (Or.inl ⟨by kernel_rfl, fun X hX => ?_⟩) (by assumption) ?_
                · (try dsimp only at hX); go_simp
                try simp only [Act.put]
                refine wpAnyH_take (i := 37) (v := (.slice p6 m6 d6)) rfl (by kernel_rfl) (by kernel_rfl) (by kernel_rfl) (fun _ _ _ h => h) (Or.inl ⟨by kernel_rfl, fun X hX => ?_⟩) (by assumption) ?_
                · (try dsimp only at hX); go_simp
                try simp only [Act.put]
                refine wpAnyH_ready (rs := [38]) (by kernel_rfl) (by simp) ?_
                refine AllReadyH.cons (o := _) rfl (fun K hK => ?_) AllReadyH.nil
                go_simp
                go_at_call 120
                refine HK3.out.mono ?_
                rintro e x3 ⟨rfl, ⟨-, g3⟩, hn3⟩
                have HKd : Hid ((PaD P (.pointer tpa) (.pointer tpb) R) x3) := hn3
                refine hK.out _ _ g3 (fun hHeld3 => ?_)
                clear hK K hn3 g3 HK3 hHeld2
                try simp only [Act.put, List.setIfInBounds_toArray, List.set_cons_zero, List.set_cons_succ]
                refine wpAnyH_take (i := 39) (v := .bool v4) rfl (by kernel_rfl) (by kernel_rfl) (by kernel_rfl) (fun _ _ _ h => h) (Or.inl ⟨by kernel_rfl, fun X hX => ?_⟩) (by assumption) ?_
                · (try dsimp only at hX); go_simp
                try simp only [Act.put, List.setIfInBounds_toArray]
                refine wpAnyH_take (i := 40) (v := .bool v4) rfl (by kernel_rfl) (by kernel_rfl) (by kernel_rfl) (fun _ _ _ h => h) (Or.inl ⟨by kernel_rfl, fun X hX => ?_⟩) (by assumption) ?_
                · (try dsimp only at hX); go_simp
                try simp only [Act.put]
                refine wpAnyH_done (by kernel_rfl) ?_ _
                all_goals (
                  obtain ⟨p1, p2⟩ := HKd.out
                  have HC6 : Hid (Calls Tryz.prog 69 #[.pointer (some ⟨P, 0, none⟩), .pointer tpa] x3 fun e w4 => e = .returned (.tuple #[]) ∧ PaE P (.pointer tpb) R w4) := p2
                  clear HKd p2 n1 n2 n3
                  go_wp2_with (go_at_call 69; fail)
                  refine HC6.out.mono ?_
                  rintro e w17 ⟨rfl, q1, q2⟩
                  have HC7 : Hid (Calls Tryz.prog 69 #[.pointer (some ⟨P, 2, none⟩), .pointer tpb] w17 fun e w5 => e = .returned (.tuple #[]) ∧ R w5) := q2
                  clear q2 HC6 p1
                  go_wp2_with (go_at_call 69; fail)
                  refine HC7.out.mono ?_
                  rintro e w18 ⟨rfl, hr⟩
                  have HR8 : Hid (R w18) := hr
                  clear hr HC7
                  go_wp2
                  go_ret
                  exact ⟨rfl, HR8.out⟩)
        · have hd : decide ((ba : Int) = (bb : Int)) = false := decide_eq_false (by omega)
          have hd2 : ((ba : Int) == (bb : Int)) = false := beq_eq_false_iff_ne.2 (by omega)
          have hd3 : decide (ba = bb) = false := decide_eq_false hb
          have hd4 : ((ba : Int) != (bb : Int)) = true := by simp; omega
          rw [beq_eq_false_iff_ne.2 hb, Bool.false_and]
          go_enter Tryz.func76, Tryz.ntmps76
          go_wp2
          go_big_quiet (fail)
          go_wp2
          go_ret
          exact ⟨rfl, HR.out _⟩
      · have hd : decide ((pa : Int) = (pb : Int)) = false := decide_eq_false (by omega)
        have hd2 : ((pa : Int) == (pb : Int)) = false := beq_eq_false_iff_ne.2 (by omega)
        have hd3 : decide (pa = pb) = false := decide_eq_false hp
        have hd4 : ((pa : Int) != (pb : Int)) = true := by simp; omega
        rw [beq_eq_false_iff_ne.2 hp, Bool.false_and, Bool.false_and]
        go_enter Tryz.func76, Tryz.ntmps76
        go_wp2
        go_big_quiet (fail)
        go_wp2
        go_ret
        exact ⟨rfl, HR.out _⟩
    · have hd : decide (ua = ub) = false := decide_eq_false hu
      have hd2 : (ua != ub) = true := bne_iff_ne.2 hu
      rw [beq_eq_false_iff_ne.2 hu, Bool.false_and, Bool.false_and]
      go_enter Tryz.func76, Tryz.ntmps76
      go_wp2
      go_big_quiet (fail)
      go_wp2
      go_ret
      exact ⟨rfl, HR.out _⟩
  · have hd : decide (ka = kb) = false := decide_eq_false hk
    have hd2 : (ka != kb) = true := bne_iff_ne.2 hk
    rw [beq_eq_false_iff_ne.2 hk, Bool.false_and, Bool.false_and, Bool.false_and]
    go_enter Tryz.func76, Tryz.ntmps76
    go_wp2
    go_big_quiet (fail)
    go_wp2
    go_ret
    exact ⟨rfl, HR.out _⟩
end Go.Proofs.YtegdloenakachaaGreatDoor
