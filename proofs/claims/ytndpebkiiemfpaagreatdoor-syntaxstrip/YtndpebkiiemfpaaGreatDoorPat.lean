/-
  Classes of kinds, and patterns of kids, as values of functions.
  Patterns of kids, by contracts.
  Patterns of kids, by contracts: the functions that make them.
  Patterns of kids, by contracts: those made of others.
  Patterns of kids, by contracts: those that take turns.
-/
import Derived.Test.YtndpebkiiemfpaaGreatDoorNd
import Derived.BigQuiet
import Derived.Deep.QuietTactic
import Derived.Laws.EntriesVeiled
import Derived.Deep.RegionHeld3
namespace Go.Proofs.YtndpebkiiemfpaaGreatDoor
open Go.RowKit Go.Shelf Go.Maps
set_option linter.unusedVariables false
variable {b0 : Nat}

/-- All that lay there lies there still, but block b, and what is far ahead of it. -/
def Agr (b : Nat) (W W' : World) : Prop := W.heap.size ≤ W'.heap.size ∧ ∀ k, k < W.heap.size → k ≠ b → b ≤ k + 3 → W'.heap[k]? = W.heap[k]?
theorem Agr.refl (b : Nat) (W : World) : Agr b W W := ⟨Nat.le_refl _, fun _ _ _ _ => rfl⟩
theorem Agr.trans {b : Nat} {W W1 W2 : World} (h : Agr b W W1) (k : Agr b W1 W2) : Agr b W W2 := ⟨Nat.le_trans h.1 k.1, fun j hj hne hl => (k.2 j (Nat.lt_of_lt_of_le hj h.1) hne hl).trans (h.2 j hj hne hl)⟩
theorem agr_below {W W' : World} (h : Below W.heap.size W W') (b : Nat) : Agr b W W' := ⟨h.size, fun k hk _ _ => h.block k hk⟩
theorem agr_but {b bl : Nat} {W W' : World} (h : But bl W W') (hl : bl + 3 < b) : Agr b W W' := ⟨h.size, fun k hk _ hlo => h.block k hk (by omega)⟩
theorem Blk.agr {W W' : World} {B b : Nat} {vs : Array Value} {T : TypeId} (h : Blk W B vs T) (hne : B ≠ b ∧ b ≤ B + 3) (ha : Agr b W W') : Blk W' B vs T := by
  unfold Blk; rw [ha.2 B h.lt hne.1 hne.2]; exact h
/-- A value that is a function of a kind, whatever has become of memory since. -/
def ClsOK (b0 : Nat) (W : World) (v : Value) (c : Int → Bool) : Prop :=
  ∃ (k : Nat) (caps : Array Value), v = .func (.func k) #[] caps ∧ Enters Tryz.prog k ∧ ∀ W' : World, Agr b0 W W' → ∀ kind : Int, Calls Tryz.prog k (#[.int .i64 kind] ++ caps) W' fun e w' => e = .returned (.bool (c kind)) ∧ w' = W'
theorem ClsOK.below {W W1 : World} {v : Value} {c : Int → Bool} (h : ClsOK b0 W v c) (hb : Below W.heap.size W W1) : ClsOK b0 W1 v c := by
  obtain ⟨k, caps, e, he, h⟩ := h
  exact ⟨k, caps, e, he, fun W' hW' => h W' ((agr_below hb b0).trans hW')⟩
/-- A value that is a function of kids. -/
def PatOK (b0 : Nat) (W : World) (v : Value) (p : List Int → Int) : Prop :=
  ∃ (k : Nat) (caps : Array Value), v = .func (.func k) #[] caps ∧ Enters Tryz.prog k ∧ (∀ ks, -1 ≤ p ks ∧ p ks ≤ ks.length) ∧ ∀ W' : World, Agr b0 W W' → ∀ (B : Nat) (o : Option Addr) (kids : List Nd) (cap : Nat), KIn W' B o kids → B ≤ W'.heap.size → kids.length ≤ cap → kids.length ≤ 4611686018427387904 →
    Calls Tryz.prog k (#[.slice o kids.length cap] ++ caps) W' fun e w' => e = .returned (.int .i64 (p (kinds kids))) ∧ Below W'.heap.size W' w'
theorem PatOK.below {W W1 : World} {v : Value} {p : List Int → Int} (h : PatOK b0 W v p) (hb : Below W.heap.size W W1) : PatOK b0 W1 v p := by
  obtain ⟨k, caps, e, he, hp, h⟩ := h
  exact ⟨k, caps, e, he, hp, fun W' hW' => h W' ((agr_below hb b0).trans hW')⟩

theorem ClsOK.agr {W W1 : World} {v : Value} {c : Int → Bool} (h : ClsOK b0 W v c) (hb : Agr b0 W W1) : ClsOK b0 W1 v c := by
  obtain ⟨k, caps, e, he, h⟩ := h
  exact ⟨k, caps, e, he, fun W' hW' => h W' (hb.trans hW')⟩
theorem PatOK.agr {W W1 : World} {v : Value} {p : List Int → Int} (h : PatOK b0 W v p) (hb : Agr b0 W W1) : PatOK b0 W1 v p := by
  obtain ⟨k, caps, e, he, hp, h⟩ := h
  exact ⟨k, caps, e, he, hp, fun W' hW' => h W' (hb.trans hW')⟩

def isDeclB (k : Int) : Bool := k == 2 || k == 4 || k == 6 || k == 7
def isExpB (k : Int) : Bool := decide (11 ≤ k ∧ k ≤ 30 ∧ k ≠ 23)
def isStmtB (k : Int) : Bool := decide (31 ≤ k ∧ k ≤ 33)
def isPatB (k : Int) : Bool := decide (34 ≤ k ∧ k ≤ 44)
def onlyB (a : Int) (k : Int) : Bool := k == a

set_option maxRecDepth 100000 in
set_option maxHeartbeats 4000000 in
theorem isDecl_c (k : Int) (w : World) : Calls Tryz.prog 70 #[.int .i64 k] w fun e w' => e = .returned (.bool (isDeclB k)) ∧ w' = w := by
  obtain ⟨b2, h2⟩ : ∃ b, (k == 2) = b := ⟨_, rfl⟩
  obtain ⟨b4, h4⟩ : ∃ b, (k == 4) = b := ⟨_, rfl⟩
  obtain ⟨b6, h6⟩ : ∃ b, (k == 6) = b := ⟨_, rfl⟩
  obtain ⟨b7, h7⟩ : ∃ b, (k == 7) = b := ⟨_, rfl⟩
  have HR : Hid (isDeclB k = (b2 || b4 || b6 || b7)) := by show _ = _; unfold isDeclB; rw [h2, h4, h6, h7]
  cases b2 <;> cases b4 <;> cases b6 <;> cases b7 <;>
  · go_enter Tryz.func70, Tryz.ntmps70
    go_wp2
    go_ret
    exact ⟨by rw [HR.out]; rfl, rfl⟩
set_option maxRecDepth 100000 in
set_option maxHeartbeats 4000000 in
theorem isExp_c (k : Int) (w : World) : Calls Tryz.prog 75 #[.int .i64 k] w fun e w' => e = .returned (.bool (isExpB k)) ∧ w' = w := by
  by_cases h1 : 11 ≤ k
  · by_cases h2 : k ≤ 30
    · by_cases h3 : k = 23
      · have HR : Hid (isExpB k = false) := by show _ = _; unfold isExpB; simp [h3]
        have e3 : (k != 23) = false := by simp [h3]
        clear h3
        go_enter Tryz.func75, Tryz.ntmps75
        go_wp2
        go_ret
        exact ⟨by rw [HR.out]; rfl, rfl⟩
      · have HR : Hid (isExpB k = true) := by show _ = _; unfold isExpB; simp [h1, h2, h3]
        have e3 : (k != 23) = true := by simp [h3]
        clear h3
        go_enter Tryz.func75, Tryz.ntmps75
        go_wp2
        go_ret
        exact ⟨by rw [HR.out]; rfl, rfl⟩
    · have HR : Hid (isExpB k = false) := by show _ = _; unfold isExpB; simp [h2]
      have h2' : 30 < k := by omega
      go_enter Tryz.func75, Tryz.ntmps75
      go_wp2
      go_ret
      exact ⟨by rw [HR.out]; rfl, rfl⟩
  · have HR : Hid (isExpB k = false) := by show _ = _; unfold isExpB; simp [h1]
    have h1' : k < 11 := by omega
    go_enter Tryz.func75, Tryz.ntmps75
    go_wp2
    go_ret
    exact ⟨by rw [HR.out]; rfl, rfl⟩
set_option maxRecDepth 100000 in
set_option maxHeartbeats 4000000 in
theorem isStmt_c (k : Int) (w : World) : Calls Tryz.prog 79 #[.int .i64 k] w fun e w' => e = .returned (.bool (isStmtB k)) ∧ w' = w := by
  by_cases h1 : 31 ≤ k
  · by_cases h2 : k ≤ 33
    · have HR : Hid (isStmtB k = true) := by show _ = _; unfold isStmtB; simp [h1, h2]
      go_enter Tryz.func79, Tryz.ntmps79
      go_wp2
      go_ret
      exact ⟨by rw [HR.out]; rfl, rfl⟩
    · have HR : Hid (isStmtB k = false) := by show _ = _; unfold isStmtB; simp [h2]
      have h2' : 33 < k := by omega
      go_enter Tryz.func79, Tryz.ntmps79
      go_wp2
      go_ret
      exact ⟨by rw [HR.out]; rfl, rfl⟩
  · have HR : Hid (isStmtB k = false) := by show _ = _; unfold isStmtB; simp [h1]
    have h1' : k < 31 := by omega
    go_enter Tryz.func79, Tryz.ntmps79
    go_wp2
    go_ret
    exact ⟨by rw [HR.out]; rfl, rfl⟩
set_option maxRecDepth 100000 in
set_option maxHeartbeats 4000000 in
theorem isPat_c (k : Int) (w : World) : Calls Tryz.prog 72 #[.int .i64 k] w fun e w' => e = .returned (.bool (isPatB k)) ∧ w' = w := by
  by_cases h1 : 34 ≤ k
  · by_cases h2 : k ≤ 44
    · have HR : Hid (isPatB k = true) := by show _ = _; unfold isPatB; simp [h1, h2]
      go_enter Tryz.func72, Tryz.ntmps72
      go_wp2
      go_ret
      exact ⟨by rw [HR.out]; rfl, rfl⟩
    · have HR : Hid (isPatB k = false) := by show _ = _; unfold isPatB; simp [h2]
      have h2' : 44 < k := by omega
      go_enter Tryz.func72, Tryz.ntmps72
      go_wp2
      go_ret
      exact ⟨by rw [HR.out]; rfl, rfl⟩
  · have HR : Hid (isPatB k = false) := by show _ = _; unfold isPatB; simp [h1]
    have h1' : k < 34 := by omega
    go_enter Tryz.func72, Tryz.ntmps72
    go_wp2
    go_ret
    exact ⟨by rw [HR.out]; rfl, rfl⟩

theorem isDecl_f (W : World) : ClsOK b0 W (.func (.func 70) #[] #[]) isDeclB := ⟨_, _, rfl, enters_of Tryz.func70 (by kernel_rfl) rfl, fun W' _ k => isDecl_c k W'⟩
theorem isExp_f (W : World) : ClsOK b0 W (.func (.func 75) #[] #[]) isExpB := ⟨_, _, rfl, enters_of Tryz.func75 (by kernel_rfl) rfl, fun W' _ k => isExp_c k W'⟩
theorem isStmt_f (W : World) : ClsOK b0 W (.func (.func 79) #[] #[]) isStmtB := ⟨_, _, rfl, enters_of Tryz.func79 (by kernel_rfl) rfl, fun W' _ k => isStmt_c k W'⟩
theorem isPat_f (W : World) : ClsOK b0 W (.func (.func 72) #[] #[]) isPatB := ⟨_, _, rfl, enters_of Tryz.func72 (by kernel_rfl) rfl, fun W' _ k => isPat_c k W'⟩

theorem only1_c (a k : Int) (b : Nat) (w : World) (h : w.cell? ⟨b, 0, none⟩ = some (.int .i64 a)) : Calls Tryz.prog 124 #[.int .i64 k, .pointer (some ⟨b, 0, none⟩)] w fun e w' => e = .returned (.bool (onlyB a k)) ∧ w' = w := by
  go_enter Tryz.func124, Tryz.ntmps124
  go_wp2
  go_ret
  exact ⟨rfl, rfl⟩
theorem only_c (a : Int) (w : World) (hne : w.heap.size ≠ b0 ∧ b0 ≤ w.heap.size + 3) : Calls Tryz.prog 68 #[.int .i64 a] w fun e w' => ∃ v, e = .returned v ∧ ClsOK b0 w' v (onlyB a) ∧ w' = w.alloc (.cells #[.int .i64 a] 3) := by
  have hmf : ∀ (fn : Fn) (first cap : Array Value) (w : World), (Instr.makeFunc fn first cap).run Tryz.prog w = .ok (.func fn first cap) w := fun _ _ _ _ => rfl
  have HB : Hid (∀ o : Obj, Below w.heap.size w (w.alloc o)) := fun o => (Below.refl _ w).alloc (Nat.le_refl _) _
  have HN : Hid (w.heap.size ≠ b0 ∧ b0 ≤ w.heap.size + 3) := hne
  clear hne
  go_enter Tryz.func68, Tryz.ntmps68
  go_wp2
  go_ret
  refine ⟨_, rfl, ⟨_, _, rfl, enters_of Tryz.func124 (by kernel_rfl) rfl, fun W' hW' k => ?_⟩, rfl⟩
  exact only1_c a k w.heap.size W' (((Blk.new w _ _).agr HN.out hW').cell 0 _ rfl)

end Go.Proofs.YtndpebkiiemfpaaGreatDoor

namespace Go.Proofs.YtndpebkiiemfpaaGreatDoor
open Go.RowKit Go.Shelf Go.Maps
set_option linter.unusedVariables false
variable {b0 : Nat}

/-- How many at the front are of a class. -/
def aheadN (c : Int → Bool) : List Int → Nat
  | [] => 0
  | k :: ks => if c k then aheadN c ks + 1 else 0
theorem aheadLe (c : Int → Bool) : ∀ ks, aheadN c ks ≤ ks.length
  | [] => Nat.le_refl _
  | k :: ks => by
    have := aheadLe c ks
    unfold aheadN
    split
    · simp only [List.length_cons]; omega
    · exact Nat.zero_le _
def oneP (c : Int → Bool) : List Int → Int
  | [] => -1
  | k :: _ => if c k then 1 else -1
theorem oneP_b (c : Int → Bool) (ks : List Int) : -1 ≤ oneP c ks ∧ oneP c ks ≤ ks.length := by
  cases ks with
  | nil => simp [oneP]
  | cons k ks => unfold oneP; split <;> simp <;> omega
def atMostOneP (c : Int → Bool) (ks : List Int) : Int := max (oneP c ks) 0
def betweenP (lo hi : Int) (c : Int → Bool) (ks : List Int) : Int := if (aheadN c ks : Int) < lo ∨ hi < (aheadN c ks : Int) then -1 else (aheadN c ks : Int)
theorem betweenP_b (lo hi : Int) (c : Int → Bool) (ks : List Int) : -1 ≤ betweenP lo hi c ks ∧ betweenP lo hi c ks ≤ ks.length := by
  have := aheadLe c ks
  unfold betweenP
  split <;> omega
def allButOneP (c : Int → Bool) (ks : List Int) : Int := if aheadN c (ks.take (ks.length - 1)) < ks.length - 1 then -1 else ((ks.length - 1 : Nat) : Int)
theorem allButOneP_b (c : Int → Bool) (ks : List Int) : -1 ≤ allButOneP c ks ∧ allButOneP c ks ≤ ks.length := by
  unfold allButOneP
  split <;> omega
def eitherP (p q : List Int → Int) (ks : List Int) : Int := if 0 ≤ p ks then p ks else q ks

set_option maxRecDepth 100000 in
set_option maxHeartbeats 4000000 in
theorem ahead_c (c : Int → Bool) (v : Value) (w : World) (hv : ClsOK b0 w v c) (B : Nat) (o : Option Addr) (kids : List Nd) (cap : Nat) (h : KIn w B o kids) (hl : kids.length ≤ 4611686018427387904) :
    Calls Tryz.prog 130 #[.slice o kids.length cap, v] w fun e w' => e = .returned (.int .i64 (aheadN c (kinds kids) : Int)) ∧ w' = w := by
  obtain ⟨f, caps, rfl, hE0, hC⟩ := hv
  have hE : ∀ (args : Array Value) (w : World), (callFunc f args).run Tryz.prog w = .ok (.enter f args) w := hE0
  clear hE0
  have hF : Hid (∀ kind : Int, Calls Tryz.prog f (#[.int .i64 kind] ++ caps) w fun e w' => e = .returned (.bool (c kind)) ∧ w' = w) := fun kind => hC w (Agr.refl _ _) kind
  obtain ⟨m, hm⟩ : ∃ m, kids.length = m := ⟨_, rfl⟩
  have HM : Hid (kids.length = m) := hm
  have HK : Hid (KIn w B o kids) := h
  have hmi : (m : Int) ≤ 4611686018427387904 := by omega
  rw [hm]
  clear hC h hm hl
  go_enter Tryz.func130, Tryz.ntmps130
  go_wp2
  go_loop [8] (fun i => ∃ k : Nat, k ≤ m ∧ i = .int .i64 k ∧ Hid (aheadN c (kinds kids) = k + aheadN c ((kinds kids).drop k))) (fun i => m - (intOf i).toNat)
  case atStart => exact ⟨0, Nat.zero_le _, rfl, (by simp : aheadN c (kinds kids) = 0 + aheadN c ((kinds kids).drop 0))⟩
  case round =>
    obtain ⟨k, hk, rfl, hA⟩ := hrel
    by_cases hlt : k < m
    · have hkL : k < kids.length := by rw [HM.out]; exact hlt
      obtain ⟨g, off, rfl, hg, hKA⟩ := HK.out.at k hkL
      obtain ⟨o2, cap2, c0, -, -, -, -, -, -, -⟩ := (hKA.get kids g off k hkL).cells
      have hd : Hid ((kinds kids).drop k = kids[k].kind :: (kinds kids).drop (k + 1)) := by
        show _ = _
        rw [List.drop_eq_getElem_cons (by rw [kinds_len]; exact hkL)]
        simp [kinds]
      have hki : (k : Int) < (m : Int) := by omega
      generalize kids[k].kind = kd at c0 hd
      clear hKA hkL
      cases hc : c kd with
      | true =>
        have HC : Hid (c kd = true) := hc
        clear hc
        go_wp2_with (go_at_fn f; refine (hF.out kd).mono ?_; rintro e w' ⟨rfl, rfl⟩; rw [HC.out])
        go_round
        case rel => exact ⟨k + 1, by omega, by go_num, (by rw [hA.out, hd.out]; simp [aheadN, HC.out]; omega : aheadN c (kinds kids) = (k + 1) + aheadN c ((kinds kids).drop (k + 1)))⟩
        case measure => simp [intOf]; omega
      | false =>
        have HC : Hid (c kd = false) := hc
        clear hc
        go_wp2_with (go_at_fn f; refine (hF.out kd).mono ?_; rintro e w' ⟨rfl, rfl⟩; rw [HC.out])
        go_ret
        refine ⟨?_, rfl⟩
        rw [hA.out, hd.out]; simp [aheadN, HC.out]
    · obtain rfl : k = m := by omega
      go_wp2
      go_ret
      refine ⟨?_, rfl⟩
      rw [hA.out, List.drop_eq_nil_of_le (by rw [kinds_len, HM.out]; exact Nat.le_refl _)]; simp [aheadN]

set_option maxRecDepth 100000 in
set_option maxHeartbeats 4000000 in
theorem one1_c (c : Int → Bool) (v : Value) (b : Nat) (w : World) (hv : ClsOK b0 w v c) (hb : w.cell? ⟨b, 0, none⟩ = some v) (B : Nat) (o : Option Addr) (kids : List Nd) (cap : Nat) (h : KIn w B o kids) (hl : kids.length ≤ 4611686018427387904) :
    Calls Tryz.prog 125 #[.slice o kids.length cap, .pointer (some ⟨b, 0, none⟩)] w fun e w' => e = .returned (.int .i64 (oneP c (kinds kids))) ∧ Below w.heap.size w w' := by
  have hdep : Tryz.prog.follows Departure.mixedOrders = true := by kernel_rfl
  obtain ⟨f, caps, rfl, hE0, hC⟩ := hv
  have hE : ∀ (args : Array Value) (w : World), (callFunc f args).run Tryz.prog w = .ok (.enter f args) w := hE0
  clear hE0
  have hF : Hid (∀ (W : World) (kind : Int), Below w.heap.size w W → Calls Tryz.prog f (#[.int .i64 kind] ++ caps) W fun e w' => e = .returned (.bool (c kind)) ∧ w' = W) := fun W kind hW => hC W (agr_below hW _) kind
  clear hC
  cases kids with
  | nil =>
    have HR : Hid (oneP c (kinds []) = -1) := rfl
    clear h hl
    go_enter Tryz.func125, Tryz.ntmps125
    go_wp2_with fail
    go_big_quiet (fail)
    go_wp2
    go_ret
    exact ⟨by rw [HR.out]; rfl, ⟨rfl, rfl, rfl, Nat.le_refl _, fun _ _ => rfl⟩⟩
  | cons n ns =>
    obtain ⟨g, off, rfl, hg, hKA⟩ := h.at 0 (by simp)
    obtain ⟨o2, cap2, c0, -, -, -, -, -, -, -⟩ := (hKA.get (n :: ns) g off 0 (by simp)).cells
    have HR : Hid (oneP c (kinds (n :: ns)) = if c n.kind then 1 else -1) := rfl
    simp only [Nat.zero_mul, Nat.add_zero, List.getElem_cons_zero] at c0
    obtain ⟨m, hm⟩ : ∃ m, (n :: ns).length = m := ⟨_, rfl⟩
    have h1 : 1 ≤ m := by rw [← hm]; simp
    have h1i : (0 : Int) < m := by omega
    have e0 : ((m : Int) == 0) = false := beq_eq_false_iff_ne.2 (by omega)
    rw [hm]
    clear h1
    generalize n.kind = kd at c0 HR
    clear hKA h hl hm
    cases hc : c kd with
    | true =>
      have HF1 : Hid (∀ W : World, Below w.heap.size w W → Calls Tryz.prog f (#[.int .i64 kd] ++ caps) W fun e w' => e = .returned (.bool true) ∧ w' = W) := fun W hW => by have := hF.out W kd hW; rw [hc] at this; exact this
      rw [hc, if_pos rfl] at HR
      clear hc
      go_enter Tryz.func125, Tryz.ntmps125
      go_wp2_with fail
      go_big_quiet ((go_at_fn f; exact Calls.quiet_of_same (HF1.out _ ⟨rfl, rfl, rfl, Nat.le_refl _, fun _ _ => rfl⟩)))
      go_wp2
      go_ret
      exact ⟨by rw [HR.out]; rfl, ⟨rfl, rfl, rfl, Nat.le_refl _, fun _ _ => rfl⟩⟩
    | false =>
      have HF1 : Hid (∀ W : World, Below w.heap.size w W → Calls Tryz.prog f (#[.int .i64 kd] ++ caps) W fun e w' => e = .returned (.bool false) ∧ w' = W) := fun W hW => by have := hF.out W kd hW; rw [hc] at this; exact this
      rw [hc] at HR
      clear hc
      go_enter Tryz.func125, Tryz.ntmps125
      go_wp2_with fail
      go_big_quiet ((go_at_fn f; exact Calls.quiet_of_same (HF1.out _ ⟨rfl, rfl, rfl, Nat.le_refl _, fun _ _ => rfl⟩)))
      go_wp2
      go_ret
      exact ⟨by rw [HR.out]; rfl, ⟨rfl, rfl, rfl, Nat.le_refl _, fun _ _ => rfl⟩⟩

end Go.Proofs.YtndpebkiiemfpaaGreatDoor

namespace Go.Proofs.YtndpebkiiemfpaaGreatDoor
open Go.RowKit Go.Shelf Go.Maps
set_option linter.unusedVariables false
variable {b0 : Nat}

theorem sizeNode : (Tryz.prog.info? 24).map (·.size) = some 5 := by kernel_rfl
/-- A slice's rest. -/
theorem slice_from (o : Option Addr) (kids : List Nd) (cap n : Nat) (hn : n ≤ kids.length) (hc : kids.length ≤ cap) :
    ∃ o', (∀ w : World, (Instr.slice 22 (.slice o kids.length cap) (some (.int .i64 (n : Int))) none none).run Tryz.prog w = .ok (.slice o' (kids.length - n) (cap - n)) w) ∧ ∀ (W : World) (B : Nat), KIn W B o kids → KIn W B o' (kids.drop n) := by
  refine ⟨if cap = n then o else o.map (·.add (n * 5)), fun w => ?_, fun W B h => ?_⟩
  · obtain ⟨i, hi, hs⟩ := Option.map_eq_some_iff.1 sizeNode
    simp [Instr.slice, run_underlying Tryz.underlying22, Instr.sliceBounds, Instr.sliceBound, asIntOf, sizeOf, typeInfo, hi, hs, hn]
  · rcases h with rfl | ⟨g, off, rfl, hg, hk⟩
    · exact .inl (by simp)
    · by_cases h : cap = n
      · have : kids.length ≤ n := by omega
        exact .inl (List.drop_eq_nil_of_le this)
      · rw [if_neg h]
        exact .inr ⟨g, off + n * 5, by simp [Addr.add_lit], hg, hk.drop n kids g off⟩
/-- A slice's first part. -/
theorem slice_to (o : Option Addr) (kids : List Nd) (cap n : Nat) (hn : n ≤ kids.length) (hc : kids.length ≤ cap) :
    (∀ w : World, (Instr.slice 22 (.slice o kids.length cap) none (some (.int .i64 (n : Int))) none).run Tryz.prog w = .ok (.slice o n cap) w) ∧ ∀ (W : World) (B : Nat), KIn W B o kids → KIn W B o (kids.take n) := by
  refine ⟨fun w => ?_, fun W B h => ?_⟩
  · obtain ⟨i, hi, hs⟩ := Option.map_eq_some_iff.1 sizeNode
    have : n ≤ cap := by omega
    simp [Instr.slice, run_underlying Tryz.underlying22, Instr.sliceBounds, Instr.sliceBound, asIntOf, sizeOf, typeInfo, hi, this]
    intro _
    cases o with
    | none => rfl
    | some a => simp [Addr.add]
  · rcases h with rfl | ⟨g, off, rfl, hg, hk⟩
    · exact .inl (by simp)
    · exact .inr ⟨g, off, rfl, hg, hk.take n kids g off⟩

set_option maxRecDepth 100000 in
set_option maxHeartbeats 4000000 in
theorem one_c (c : Int → Bool) (v : Value) (w : World) (hv : ClsOK b0 w v c) (hb0 : b0 < w.heap.size) : Calls Tryz.prog 73 #[v] w fun e w' => ∃ u, e = .returned u ∧ PatOK b0 w' u (oneP c) ∧ Below w.heap.size w w' := by
  have hmf : ∀ (fn : Fn) (first cap : Array Value) (w : World), (Instr.makeFunc fn first cap).run Tryz.prog w = .ok (.func fn first cap) w := fun _ _ _ _ => rfl
  have H0 : Hid (b0 < w.heap.size) := hb0
  clear hb0
  have HB : Hid (∀ o : Obj, Below w.heap.size w (w.alloc o)) := fun o => (Below.refl _ w).alloc (Nat.le_refl _) _
  have HV : Hid (ClsOK b0 w v c) := hv
  obtain ⟨f, caps, rfl, -, -⟩ := hv
  go_enter Tryz.func73, Tryz.ntmps73
  go_wp2
  go_ret
  refine ⟨_, rfl, ⟨_, _, rfl, enters_of Tryz.func125 (by kernel_rfl) rfl, oneP_b c, fun W' hW' B o kids cap h hB hc hl => ?_⟩, HB.out _⟩
  exact one1_c c _ w.heap.size W' (HV.out.agr ((agr_below (HB.out _) _).trans hW')) (((Blk.new w _ _).agr (by have := H0.out; omega) hW').cell 0 _ rfl) B o kids cap h hl

set_option maxRecDepth 100000 in
set_option maxHeartbeats 4000000 in
theorem between1_c (lo hi : Int) (c : Int → Bool) (v : Value) (b1 b2 b3 : Nat) (w : World) (hv : ClsOK b0 w v c) (h1 : w.cell? ⟨b1, 0, none⟩ = some v) (h2 : w.cell? ⟨b2, 0, none⟩ = some (.int .i64 lo)) (h3 : w.cell? ⟨b3, 0, none⟩ = some (.int .i64 hi)) (B : Nat) (o : Option Addr) (kids : List Nd) (cap : Nat) (h : KIn w B o kids) (hl : kids.length ≤ 4611686018427387904) :
    Calls Tryz.prog 131 #[.slice o kids.length cap, .pointer (some ⟨b1, 0, none⟩), .pointer (some ⟨b2, 0, none⟩), .pointer (some ⟨b3, 0, none⟩)] w fun e w' => e = .returned (.int .i64 (betweenP lo hi c (kinds kids))) ∧ Below w.heap.size w w' := by
  have HA : Hid (Calls Tryz.prog 130 #[.slice o kids.length cap, v] w fun e w' => e = .returned (.int .i64 (aheadN c (kinds kids) : Int)) ∧ w' = w) := ahead_c c v w hv B o kids cap h hl
  obtain ⟨f, caps, rfl, -, -⟩ := hv
  have HR : Hid (betweenP lo hi c (kinds kids) = if (aheadN c (kinds kids) : Int) < lo ∨ hi < (aheadN c (kinds kids) : Int) then -1 else (aheadN c (kinds kids) : Int)) := rfl
  generalize aheadN c (kinds kids) = n at HA HR
  clear h hl
  by_cases q1 : (n : Int) < lo
  · rw [if_pos (.inl q1)] at HR
    go_enter Tryz.func131, Tryz.ntmps131
    go_wp2_with (go_at_call 130; refine HA.out.mono ?_; rintro e w1 ⟨rfl, rfl⟩)
    go_ret
    exact ⟨by rw [HR.out]; rfl, Below.refl _ _⟩
  · by_cases q2 : hi < (n : Int)
    · rw [if_pos (.inr q2)] at HR
      have q1' : lo ≤ (n : Int) := by omega
      go_enter Tryz.func131, Tryz.ntmps131
      go_wp2_with (go_at_call 130; refine HA.out.mono ?_; rintro e w1 ⟨rfl, rfl⟩)
      go_ret
      exact ⟨by rw [HR.out]; rfl, Below.refl _ _⟩
    · rw [if_neg (by omega)] at HR
      have q1' : lo ≤ (n : Int) := by omega
      have q2' : (n : Int) ≤ hi := by omega
      go_enter Tryz.func131, Tryz.ntmps131
      go_wp2_with (go_at_call 130; refine HA.out.mono ?_; rintro e w1 ⟨rfl, rfl⟩)
      go_ret
      exact ⟨by rw [HR.out]; rfl, Below.refl _ _⟩
set_option maxRecDepth 100000 in
set_option maxHeartbeats 4000000 in
theorem between_c (lo hi : Int) (c : Int → Bool) (v : Value) (w : World) (hv : ClsOK b0 w v c) (hb0 : b0 < w.heap.size) : Calls Tryz.prog 80 #[.int .i64 lo, .int .i64 hi, v] w fun e w' => ∃ u, e = .returned u ∧ PatOK b0 w' u (betweenP lo hi c) ∧ Below w.heap.size w w' := by
  have hmf : ∀ (fn : Fn) (first cap : Array Value) (w : World), (Instr.makeFunc fn first cap).run Tryz.prog w = .ok (.func fn first cap) w := fun _ _ _ _ => rfl
  have H0 : Hid (b0 < w.heap.size) := hb0
  clear hb0
  have HB : Hid (∀ o1 o2 o3 : Obj, Below w.heap.size w (((w.alloc o1).alloc o2).alloc o3)) := fun o1 o2 o3 => (((Below.refl _ w).alloc (Nat.le_refl _) _).alloc (by simp) _).alloc (by simp; omega) _
  have HV : Hid (ClsOK b0 w v c) := hv
  obtain ⟨f, caps, rfl, -, -⟩ := hv
  go_enter Tryz.func80, Tryz.ntmps80
  go_wp2
  go_ret
  refine ⟨_, rfl, ⟨_, _, rfl, enters_of Tryz.func131 (by kernel_rfl) rfl, betweenP_b lo hi c, fun W' hW' B o kids cap h hB hc hl => ?_⟩, HB.out _ _ _⟩
  have k1 := ((((Blk.new w #[.int .i64 lo] 3).alloc (.cells #[.int .i64 hi] 3)).alloc (.cells #[.func (.func f) #[] caps] 117)).agr (by have := H0.out; simp; omega) hW').cell 0 _ rfl
  have k2 := (((Blk.new (w.alloc (.cells #[.int .i64 lo] 3)) #[.int .i64 hi] 3).alloc (.cells #[.func (.func f) #[] caps] 117)).agr (by have := H0.out; simp; omega) hW').cell 0 _ rfl
  have k3 := ((Blk.new ((w.alloc (.cells #[.int .i64 lo] 3)).alloc (.cells #[.int .i64 hi] 3)) #[.func (.func f) #[] caps] 117).agr (by have := H0.out; simp; omega) hW').cell 0 _ rfl
  simp only [World.size_alloc] at k2 k3
  exact between1_c lo hi c _ (w.heap.size + 1 + 1) w.heap.size (w.heap.size + 1) W' (HV.out.agr ((agr_below (HB.out _ _ _) _).trans hW')) k3 k1 k2 B o kids cap h hl
theorem many_c (c : Int → Bool) (v : Value) (w : World) (hv : ClsOK b0 w v c) (hb0 : b0 < w.heap.size) : Calls Tryz.prog 69 #[v] w fun e w' => ∃ u, e = .returned u ∧ PatOK b0 w' u (betweenP 0 9223372036854775807 c) ∧ Below w.heap.size w w' := by
  have HC : Hid (Calls Tryz.prog 80 #[.int .i64 0, .int .i64 9223372036854775807, v] w fun e w' => ∃ u, e = .returned u ∧ PatOK b0 w' u (betweenP 0 9223372036854775807 c) ∧ Below w.heap.size w w') := between_c 0 9223372036854775807 c v w hv hb0
  clear hb0
  obtain ⟨f, caps, rfl, -, -⟩ := hv
  go_enter Tryz.func69, Tryz.ntmps69
  go_wp2_with (go_at_call 80; refine HC.out.mono ?_; rintro e w1 ⟨u, rfl, hp, hb⟩)
  go_ret
  exact ⟨u, rfl, hp, hb⟩
theorem some_c (c : Int → Bool) (v : Value) (w : World) (hv : ClsOK b0 w v c) (hb0 : b0 < w.heap.size) : Calls Tryz.prog 71 #[v] w fun e w' => ∃ u, e = .returned u ∧ PatOK b0 w' u (betweenP 1 9223372036854775807 c) ∧ Below w.heap.size w w' := by
  have HC : Hid (Calls Tryz.prog 80 #[.int .i64 1, .int .i64 9223372036854775807, v] w fun e w' => ∃ u, e = .returned u ∧ PatOK b0 w' u (betweenP 1 9223372036854775807 c) ∧ Below w.heap.size w w') := between_c 1 9223372036854775807 c v w hv hb0
  clear hb0
  obtain ⟨f, caps, rfl, -, -⟩ := hv
  go_enter Tryz.func71, Tryz.ntmps71
  go_wp2_with (go_at_call 80; refine HC.out.mono ?_; rintro e w1 ⟨u, rfl, hp, hb⟩)
  go_ret
  exact ⟨u, rfl, hp, hb⟩

end Go.Proofs.YtndpebkiiemfpaaGreatDoor

namespace Go.Proofs.YtndpebkiiemfpaaGreatDoor
open Go.RowKit Go.Shelf Go.Maps
set_option linter.unusedVariables false
variable {b0 : Nat}

theorem atMostOneP_b (c : Int → Bool) (ks : List Int) : -1 ≤ atMostOneP c ks ∧ atMostOneP c ks ≤ ks.length := by
  have := oneP_b c ks
  unfold atMostOneP
  omega
set_option maxRecDepth 100000 in
set_option maxHeartbeats 4000000 in
theorem atMostOne1_c (c : Int → Bool) (u : Value) (b : Nat) (w : World) (hu : PatOK b0 w u (oneP c)) (hb : w.cell? ⟨b, 0, none⟩ = some u) (B : Nat) (o : Option Addr) (kids : List Nd) (cap : Nat) (h : KIn w B o kids) (hB : B ≤ w.heap.size) (hc : kids.length ≤ cap) (hl : kids.length ≤ 4611686018427387904) :
    Calls Tryz.prog 127 #[.slice o kids.length cap, .pointer (some ⟨b, 0, none⟩)] w fun e w' => e = .returned (.int .i64 (atMostOneP c (kinds kids))) ∧ Below w.heap.size w w' := by
  obtain ⟨f, caps, rfl, hE0, hp, hC⟩ := hu
  have hE : ∀ (args : Array Value) (w : World), (callFunc f args).run Tryz.prog w = .ok (.enter f args) w := hE0
  have HF : Hid (Calls Tryz.prog f (#[.slice o kids.length cap] ++ caps) w fun e w' => e = .returned (.int .i64 (oneP c (kinds kids))) ∧ Below w.heap.size w w') := hC w (Agr.refl _ _) B o kids cap h hB hc hl
  have HR : Hid (atMostOneP c (kinds kids) = max (oneP c (kinds kids)) 0) := rfl
  generalize oneP c (kinds kids) = x at HF HR
  clear hE0 hp hC h hB hc hl
  go_enter Tryz.func127, Tryz.ntmps127
  go_wp2_with (go_at_fn f; refine HF.out.mono ?_; rintro e w1 ⟨rfl, hb1⟩)
  go_ret
  exact ⟨by rw [HR.out]; rfl, hb1⟩
set_option maxRecDepth 100000 in
set_option maxHeartbeats 4000000 in
theorem atMostOne_c (c : Int → Bool) (v : Value) (w : World) (hv : ClsOK b0 w v c) (hb0 : b0 < w.heap.size) : Calls Tryz.prog 76 #[v] w fun e w' => ∃ u, e = .returned u ∧ PatOK b0 w' u (atMostOneP c) ∧ Below w.heap.size w w' := by
  have hmf : ∀ (fn : Fn) (first cap : Array Value) (w : World), (Instr.makeFunc fn first cap).run Tryz.prog w = .ok (.func fn first cap) w := fun _ _ _ _ => rfl
  have H0 : Hid (b0 < w.heap.size) := hb0
  clear hb0
  have HC : Hid (Calls Tryz.prog 73 #[v] w fun e w' => ∃ u, e = .returned u ∧ PatOK b0 w' u (oneP c) ∧ Below w.heap.size w w') := one_c c v w hv H0.out
  obtain ⟨f, caps, rfl, -, -⟩ := hv
  go_enter Tryz.func76, Tryz.ntmps76
  go_wp2_with (go_at_call 73; fail)
  refine HC.out.mono ?_
  rintro e w1 ⟨u, rfl, hp, hb⟩
  have HP : Hid (PatOK b0 w1 u (oneP c)) := hp
  have HB : Hid (Below w.heap.size w w1) := hb
  obtain ⟨f2, caps2, rfl, -, -, -⟩ := hp
  clear hb HC
  go_wp2
  go_ret
  have hA : Below w1.heap.size w1 (w1.alloc (.cells #[.func (.func f2) #[] caps2] 120)) := (Below.refl _ w1).alloc (Nat.le_refl _) _
  refine ⟨_, rfl, ⟨_, _, rfl, enters_of Tryz.func127 (by kernel_rfl) rfl, atMostOneP_b c, fun W' hW' B o kids cap h hB hc hl => ?_⟩, HB.out.alloc HB.out.size _⟩
  exact atMostOne1_c c _ w1.heap.size W' (HP.out.agr ((agr_below hA _).trans hW')) (((Blk.new w1 _ _).agr (by have := H0.out; have := HB.out.size; omega) hW').cell 0 _ rfl) B o kids cap h hB hc hl

theorem eitherP_b (p q : List Int → Int) (hp : ∀ ks, -1 ≤ p ks ∧ p ks ≤ ks.length) (hq : ∀ ks, -1 ≤ q ks ∧ q ks ≤ ks.length) (ks : List Int) : -1 ≤ eitherP p q ks ∧ eitherP p q ks ≤ ks.length := by
  have h1 := hp ks
  have h2 := hq ks
  unfold eitherP
  split <;> omega
set_option maxRecDepth 100000 in
set_option maxHeartbeats 4000000 in
theorem either1_c (p q : List Int → Int) (u v : Value) (b1 b2 : Nat) (w : World) (hu : PatOK b0 w u p) (hv : PatOK b0 w v q) (h1 : w.cell? ⟨b1, 0, none⟩ = some u) (h2 : w.cell? ⟨b2, 0, none⟩ = some v) (hb2 : b2 < w.heap.size) (B : Nat) (o : Option Addr) (kids : List Nd) (cap : Nat) (h : KIn w B o kids) (hB : B ≤ w.heap.size) (hc : kids.length ≤ cap) (hl : kids.length ≤ 4611686018427387904) :
    Calls Tryz.prog 126 #[.slice o kids.length cap, .pointer (some ⟨b1, 0, none⟩), .pointer (some ⟨b2, 0, none⟩)] w fun e w' => e = .returned (.int .i64 (eitherP p q (kinds kids))) ∧ Below w.heap.size w w' := by
  obtain ⟨f, caps, rfl, hE0, hp, hC⟩ := hu
  have hE : ∀ (args : Array Value) (w : World), (callFunc f args).run Tryz.prog w = .ok (.enter f args) w := hE0
  have HF : Hid (Calls Tryz.prog f (#[.slice o kids.length cap] ++ caps) w fun e w' => e = .returned (.int .i64 (p (kinds kids))) ∧ Below w.heap.size w w') := hC w (Agr.refl _ _) B o kids cap h hB hc hl
  obtain ⟨f2, caps2, rfl, hE02, hp2, hC2⟩ := hv
  have hE2 : ∀ (args : Array Value) (w : World), (callFunc f2 args).run Tryz.prog w = .ok (.enter f2 args) w := hE02
  have HF2 : Hid (∀ W : World, Below w.heap.size w W → Calls Tryz.prog f2 (#[.slice o kids.length cap] ++ caps2) W fun e w' => e = .returned (.int .i64 (q (kinds kids))) ∧ Below W.heap.size W w') := fun W hW => hC2 W (agr_below hW _) B o kids cap (h.below (hW.mono hB)) (Nat.le_trans hB hW.size) hc hl
  have HR : Hid (eitherP p q (kinds kids) = if 0 ≤ p (kinds kids) then p (kinds kids) else q (kinds kids)) := rfl
  generalize p (kinds kids) = x at HF HR
  generalize q (kinds kids) = y at HF2 HR
  clear hE0 hE02 hp hC h hB hc hl hp2 hC2
  by_cases hx : 0 ≤ x
  · rw [if_pos hx] at HR
    go_enter Tryz.func126, Tryz.ntmps126
    go_wp2_with (go_at_fn f; refine HF.out.mono ?_; rintro e w1 ⟨rfl, hb1⟩)
    go_ret
    exact ⟨by rw [HR.out]; rfl, hb1⟩
  · rw [if_neg hx] at HR
    have hx' : x < 0 := by omega
    go_enter Tryz.func126, Tryz.ntmps126
    go_wp2_with (go_at_fn f; fail)
    refine HF.out.mono ?_
    rintro e w1 ⟨rfl, hb1⟩
    have c2 := (hb1.cell (p := ⟨b2, 0, none⟩) hb2).trans h2
    have HB1 : Hid (Below w.heap.size w w1) := hb1
    clear hb1 h1 h2
    go_wp2_with (go_at_fn f2; fail)
    refine (HF2.out _ HB1.out).mono ?_
    rintro e w2 ⟨rfl, hb2'⟩
    have HB2 : Hid (Below w.heap.size w w2) := HB1.out.trans (hb2'.mono HB1.out.size)
    clear hb2'
    go_wp2
    go_ret
    exact ⟨by rw [HR.out]; rfl, HB2.out⟩
set_option maxRecDepth 100000 in
set_option maxHeartbeats 4000000 in
theorem either_c (p q : List Int → Int) (u v : Value) (w : World) (hu : PatOK b0 w u p) (hv : PatOK b0 w v q) (hb0 : b0 < w.heap.size) : Calls Tryz.prog 74 #[u, v] w fun e w' => ∃ x, e = .returned x ∧ PatOK b0 w' x (eitherP p q) ∧ Below w.heap.size w w' := by
  have hmf : ∀ (fn : Fn) (first cap : Array Value) (w : World), (Instr.makeFunc fn first cap).run Tryz.prog w = .ok (.func fn first cap) w := fun _ _ _ _ => rfl
  have H0 : Hid (b0 < w.heap.size) := hb0
  clear hb0
  have HB : Hid (∀ o1 o2 : Obj, Below w.heap.size w ((w.alloc o1).alloc o2)) := fun o1 o2 => ((Below.refl _ w).alloc (Nat.le_refl _) _).alloc (by simp) _
  have HU : Hid (PatOK b0 w u p) := hu
  have HV : Hid (PatOK b0 w v q) := hv
  obtain ⟨f, caps, rfl, -, b1, -⟩ := hu
  obtain ⟨f2, caps2, rfl, -, b2, -⟩ := hv
  have Hb : Hid ((∀ ks, -1 ≤ p ks ∧ p ks ≤ ks.length) ∧ (∀ ks, -1 ≤ q ks ∧ q ks ≤ ks.length)) := ⟨b1, b2⟩
  clear b1 b2
  go_enter Tryz.func74, Tryz.ntmps74
  go_wp2
  go_ret
  refine ⟨_, rfl, ⟨_, _, rfl, enters_of Tryz.func126 (by kernel_rfl) rfl, eitherP_b p q Hb.out.1 Hb.out.2, fun W' hW' B o kids cap h hB hc hl => ?_⟩, HB.out _ _⟩
  have k1 := (((Blk.new w #[.func (.func f) #[] caps] 120).alloc (.cells #[.func (.func f2) #[] caps2] 120)).agr (by have := H0.out; simp; omega) hW')
  have k2 := ((Blk.new (w.alloc (.cells #[.func (.func f) #[] caps] 120)) #[.func (.func f2) #[] caps2] 120).agr (by have := H0.out; simp; omega) hW')
  simp only [World.size_alloc] at k2
  have hbw := (agr_below (HB.out (.cells #[.func (.func f) #[] caps] 120) (.cells #[.func (.func f2) #[] caps2] 120)) b0).trans hW'
  exact either1_c p q _ _ w.heap.size (w.heap.size + 1) W' (HU.out.agr hbw) (HV.out.agr hbw) (k1.cell 0 _ rfl) (k2.cell 0 _ rfl) k2.lt B o kids cap h hB hc hl

set_option maxRecDepth 100000 in
set_option maxHeartbeats 4000000 in
theorem allButOne1_c (c : Int → Bool) (v : Value) (b : Nat) (w : World) (hv : ClsOK b0 w v c) (hb : w.cell? ⟨b, 0, none⟩ = some v) (B : Nat) (o : Option Addr) (kids : List Nd) (cap : Nat) (h : KIn w B o kids) (hB : B ≤ w.heap.size) (hc : kids.length ≤ cap) (hl : kids.length ≤ 4611686018427387904) :
    Calls Tryz.prog 129 #[.slice o kids.length cap, .pointer (some ⟨b, 0, none⟩)] w fun e w' => e = .returned (.int .i64 (allButOneP c (kinds kids))) ∧ Below w.heap.size w w' := by
  have hdep : Tryz.prog.follows Departure.mixedOrders = true := by kernel_rfl
  obtain ⟨m, hm⟩ : ∃ m, kids.length - 1 = m := ⟨_, rfl⟩
  obtain ⟨hsl, hkt⟩ := slice_to o kids cap m (by omega) hc
  have hml : (kids.take m).length = m := by rw [List.length_take]; omega
  have HA : Hid (∀ W : World, Below w.heap.size w W → Calls Tryz.prog 130 #[.slice o m cap, v] W fun e w' => e = .returned (.int .i64 (aheadN c ((kinds kids).take m) : Int)) ∧ w' = W) := by
    intro W hW
    have := ahead_c c v W (hv.below hW) B o (kids.take m) cap (hkt W B (h.below (hW.mono hB))) (by omega)
    rw [hml, show kinds (kids.take m) = (kinds kids).take m from List.map_take] at this
    exact this
  have HR : Hid (allButOneP c (kinds kids) = if aheadN c ((kinds kids).take m) < m then -1 else (m : Int)) := by show _ = _; unfold allButOneP; rw [kinds_len, hm]
  obtain ⟨f, caps, rfl, -, -⟩ := hv
  obtain ⟨L, hL⟩ : ∃ L, kids.length = L := ⟨_, rfl⟩
  have hmx : max ((L : Int) - 1) 0 = (m : Int) := by omega
  have hLi : (L : Int) ≤ 4611686018427387904 := by omega
  rw [hL] at hsl
  rw [hL]
  generalize aheadN c ((kinds kids).take m) = n at HA HR
  clear h hB hc hl hkt hml hm hL
  by_cases hn : n < m
  · rw [if_pos hn] at HR
    have hni : (n : Int) < m := by omega
    go_enter Tryz.func129, Tryz.ntmps129
    go_wp2
    go_big_quiet ((go_at_call 130; exact Calls.quiet_of_same (HA.out _ ⟨rfl, rfl, rfl, Nat.le_refl _, fun _ _ => rfl⟩)))
    go_wp2
    go_ret
    exact ⟨by rw [HR.out]; rfl, ⟨rfl, rfl, rfl, Nat.le_refl _, fun _ _ => rfl⟩⟩
  · rw [if_neg hn] at HR
    have hni : (m : Int) ≤ n := by omega
    go_enter Tryz.func129, Tryz.ntmps129
    go_wp2
    go_big_quiet ((go_at_call 130; exact Calls.quiet_of_same (HA.out _ ⟨rfl, rfl, rfl, Nat.le_refl _, fun _ _ => rfl⟩)))
    go_wp2
    go_ret
    exact ⟨by rw [HR.out]; rfl, ⟨rfl, rfl, rfl, Nat.le_refl _, fun _ _ => rfl⟩⟩
set_option maxRecDepth 100000 in
set_option maxHeartbeats 4000000 in
theorem allButOne_c (c : Int → Bool) (v : Value) (w : World) (hv : ClsOK b0 w v c) (hb0 : b0 < w.heap.size) : Calls Tryz.prog 78 #[v] w fun e w' => ∃ u, e = .returned u ∧ PatOK b0 w' u (allButOneP c) ∧ Below w.heap.size w w' := by
  have hmf : ∀ (fn : Fn) (first cap : Array Value) (w : World), (Instr.makeFunc fn first cap).run Tryz.prog w = .ok (.func fn first cap) w := fun _ _ _ _ => rfl
  have H0 : Hid (b0 < w.heap.size) := hb0
  clear hb0
  have HB : Hid (∀ o : Obj, Below w.heap.size w (w.alloc o)) := fun o => (Below.refl _ w).alloc (Nat.le_refl _) _
  have HV : Hid (ClsOK b0 w v c) := hv
  obtain ⟨f, caps, rfl, -, -⟩ := hv
  go_enter Tryz.func78, Tryz.ntmps78
  go_wp2
  go_ret
  refine ⟨_, rfl, ⟨_, _, rfl, enters_of Tryz.func129 (by kernel_rfl) rfl, allButOneP_b c, fun W' hW' B o kids cap h hB hc hl => ?_⟩, HB.out _⟩
  exact allButOne1_c c _ w.heap.size W' (HV.out.agr ((agr_below (HB.out _) _).trans hW')) (((Blk.new w _ _).agr (by have := H0.out; omega) hW').cell 0 _ rfl) B o kids cap h hB hc hl

/-- Patterns in memory, one behind the other. -/
def PatsAt (b0 : Nat) (W : World) (o : Option Addr) (ps : List (List Int → Int)) : Prop := ps = [] ∨ ∃ g off, o = some ⟨g, off, none⟩ ∧ g < W.heap.size ∧ b0 < g ∧ ∀ (j : Nat) (h : j < ps.length), ∃ v, W.cell? ⟨g, off + j, none⟩ = some v ∧ PatOK b0 W v ps[j]
theorem PatsAt.below {W W' : World} {o : Option Addr} {ps : List (List Int → Int)} (h : PatsAt b0 W o ps) (hb : Below W.heap.size W W') : PatsAt b0 W' o ps := by
  rcases h with h | ⟨g, off, e, hg, hne, h⟩
  · exact .inl h
  · refine .inr ⟨g, off, e, Nat.lt_of_lt_of_le hg hb.size, hne, fun j hj => ?_⟩
    obtain ⟨v, h1, h2⟩ := h j hj
    exact ⟨v, (hb.cell (p := ⟨g, off + j, none⟩) hg).trans h1, h2.below hb⟩
theorem PatsAt.at {W : World} {o : Option Addr} {ps : List (List Int → Int)} (h : PatsAt b0 W o ps) (j : Nat) (hj : j < ps.length) : ∃ g off, o = some ⟨g, off, none⟩ ∧ g < W.heap.size ∧ ∃ v, W.cell? ⟨g, off + j, none⟩ = some v ∧ PatOK b0 W v ps[j] := by
  rcases h with rfl | ⟨g, off, e, hg, hne, h⟩
  · cases hj
  · exact ⟨g, off, e, hg, h j hj⟩
/-- Do patterns, one behind the other, take all? -/
def fitsB : List (List Int → Int) → List Int → Bool
  | [], ks => ks.isEmpty
  | p :: ps, ks => if p ks < 0 then false else fitsB ps (ks.drop (p ks).toNat)

set_option maxRecDepth 100000 in
set_option maxHeartbeats 4000000 in
theorem fits_c (ps : List (List Int → Int)) (ol : Option Addr) (capl : Nat) (w : World) (hp : PatsAt b0 w ol ps) (hpl : ps.length ≤ 1000) (B : Nat) (o : Option Addr) (kids : List Nd) (cap : Nat) (h : KIn w B o kids) (hB : B ≤ w.heap.size) (hc : kids.length ≤ cap) (hl : kids.length ≤ 4611686018427387904) :
    Calls Tryz.prog 83 #[.slice ol ps.length capl, .slice o kids.length cap] w fun e w' => e = .returned (.bool (fitsB ps (kinds kids))) ∧ Below w.heap.size w w' := by
  obtain ⟨m, hm⟩ : ∃ m, ps.length = m := ⟨_, rfl⟩
  have HM : Hid (ps.length = m) := hm
  have HP : Hid (PatsAt b0 w ol ps) := hp
  have hmi : (m : Int) ≤ 1000 := by omega
  have HK : Hid (KIn w B o kids) := h
  have HBw : Hid (B ≤ w.heap.size) := hB
  have HCL : Hid (kids.length ≤ cap ∧ kids.length ≤ 4611686018427387904) := ⟨hc, hl⟩
  obtain ⟨L, hL⟩ : ∃ L, kids.length = L := ⟨_, rfl⟩
  have HL : Hid (kids.length = L) := hL
  rw [hm, hL]
  clear hm hp h hB hc hl hpl hL
  go_enter Tryz.func83, Tryz.ntmps83
  go_wp2
  go_loopw [10, 1] (fun i x wr => ∃ (k : Nat) (ks : List Nd) (o2 : Option Addr) (n2 cap2 : Nat), k ≤ m ∧ i = .int .i64 k ∧ x = .slice o2 n2 cap2 ∧ Hid (ks.length = n2) ∧ Hid (KIn w B o2 ks ∧ ks.length ≤ cap2 ∧ ks.length ≤ 4611686018427387904) ∧ Hid (fitsB ps (kinds kids) = fitsB (ps.drop k) (kinds ks)) ∧ Hid (Below w.heap.size w wr)) (fun i _ _ => m - (intOf i).toNat)
  case atStart => exact ⟨0, kids, o, L, cap, Nat.zero_le _, rfl, rfl, HL, ⟨HK.out, HCL.out.1, HCL.out.2⟩, rfl, Below.refl _ _⟩
  case round =>
    obtain ⟨k, ks, o2, n2, cap2, hk, rfl, rfl, hN, hKs, hFt, hBl⟩ := hrel
    by_cases hlt : k < m
    · have hkL : k < ps.length := by rw [HM.out]; exact hlt
      obtain ⟨g, off, rfl, hg, v, hv, hPv⟩ := HP.out.at k hkL
      have hki : (k : Int) < (m : Int) := by omega
      have c0 := (hBl.out.cell (p := ⟨g, off + k, none⟩) hg).trans hv
      have HPw : Hid (PatOK b0 wr v ps[k]) := hPv.below hBl.out
      have HD : Hid (fitsB (ps.drop k) (kinds ks) = if ps[k] (kinds ks) < 0 then false else fitsB (ps.drop (k + 1)) ((kinds ks).drop (ps[k] (kinds ks)).toNat)) := by
        show _ = _
        rw [List.drop_eq_getElem_cons hkL]; rfl
      obtain ⟨f, caps, rfl, hE0, hpb, hC⟩ := HPw.out
      have hE : ∀ (args : Array Value) (w : World), (callFunc f args).run Tryz.prog w = .ok (.enter f args) w := hE0
      have hbd := hpb (kinds ks)
      rw [kinds_len] at hbd
      have HF := hC wr (Agr.refl _ _) B o2 ks cap2 (hKs.out.1.below (hBl.out.mono HBw.out)) (Nat.le_trans HBw.out hBl.out.size) hKs.out.2.1 hKs.out.2.2
      rw [hN.out] at HF
      have HF1 : Hid (Calls Tryz.prog f (#[.slice o2 n2 cap2] ++ caps) wr fun e w' => e = .returned (.int .i64 (ps[k] (kinds ks))) ∧ Below wr.heap.size wr w') := HF
      obtain ⟨x, hx⟩ : ∃ x, ps[k] (kinds ks) = x := ⟨_, rfl⟩
      rw [hx] at HF1 HD hbd
      have hgr : g < wr.heap.size := Nat.lt_of_lt_of_le hg hBl.out.size
      clear hE0 hpb hC HF HPw hx hPv hv
      by_cases hx0 : x < 0
      · rw [if_pos hx0] at HD
        go_wp2_with (go_at_fn f; refine HF1.out.mono ?_; rintro e w1 ⟨rfl, hb1⟩)
        go_ret
        exact ⟨by rw [hFt.out, HD.out]; rfl, hBl.out.trans (hb1.mono hBl.out.size)⟩
      · rw [if_neg hx0] at HD
        obtain ⟨y, rfl⟩ : ∃ y : Nat, x = (y : Int) := ⟨x.toNat, by omega⟩
        obtain ⟨o3, hsl, hk3⟩ := slice_from o2 ks cap2 y (by omega) hKs.out.2.1
        rw [hN.out] at hsl hbd
        have HK3 : Hid (KIn w B o3 (ks.drop y)) := hk3 w B hKs.out.1
        have HN3 : Hid ((ks.drop y).length = n2 - y) := by show _ = _; rw [List.length_drop, hN.out]
        have HC3 : Hid ((ks.drop y).length ≤ cap2 - y ∧ (ks.drop y).length ≤ 4611686018427387904) := by have := hKs.out.2; show _ ∧ _; rw [List.length_drop]; omega
        have HF3 : Hid (fitsB ps (kinds kids) = fitsB (ps.drop (k + 1)) (kinds (ks.drop y))) := by
          show _ = _
          rw [hFt.out, HD.out, show kinds (ks.drop y) = (kinds ks).drop y from List.map_drop]
          rfl
        have hy2 : (y : Int) ≤ n2 := by omega
        clear hk3 hKs hN HD hFt hbd hx0
        go_wp2_with (go_at_fn f; fail)
        refine HF1.out.mono ?_
        rintro e w1 ⟨rfl, hb1⟩
        have HB1 : Hid (Below w.heap.size w w1) := hBl.out.trans (hb1.mono hBl.out.size)
        clear hb1 hBl
        go_wp2
        go_roundw
        case rel => exact ⟨k + 1, ks.drop y, o3, n2 - y, cap2 - y, by omega, by go_num, rfl, HN3, ⟨HK3.out, HC3.out.1, HC3.out.2⟩, HF3, HB1⟩
        case measure => simp [intOf]; omega
    · obtain rfl : k = m := by omega
      have HF3 : Hid (fitsB ps (kinds kids) = decide (n2 = 0)) := by
        show _ = _
        rw [hFt.out, List.drop_eq_nil_of_le (by rw [HM.out]; exact Nat.le_refl _)]
        unfold fitsB
        rw [← hN.out, ← kinds_len]
        cases kinds ks <;> simp
      cases n2 with
      | zero =>
        go_wp2
        go_ret
        exact ⟨by rw [HF3.out]; rfl, hBl.out⟩
      | succ n3 =>
        have e1 : (((n3 + 1 : Nat) : Int) == 0) = false := beq_eq_false_iff_ne.2 (by omega)
        go_wp2
        go_ret
        refine ⟨?_, hBl.out⟩
        rw [HF3.out]
        simp
        omega

end Go.Proofs.YtndpebkiiemfpaaGreatDoor

namespace Go.Proofs.YtndpebkiiemfpaaGreatDoor
open Go.RowKit Go.Shelf Go.Maps
set_option linter.unusedVariables false
variable {b0 : Nat}

def turnsN (a b : Int → Bool) : List Int → Nat
  | x :: y :: ks => if a x && b y then turnsN a b ks + 2 else 0
  | _ => 0
theorem turnsLe (a b : Int → Bool) : ∀ ks, turnsN a b ks ≤ ks.length
  | [] => Nat.zero_le _
  | [x] => Nat.zero_le _
  | x :: y :: ks => by
    have := turnsLe a b ks
    unfold turnsN
    split
    · simp only [List.length_cons]; omega
    · exact Nat.zero_le _
def turnsP (a b : Int → Bool) (ks : List Int) : Int := if turnsN a b ks = 0 then -1 else (turnsN a b ks : Int)
theorem turnsP_b (a b : Int → Bool) (ks : List Int) : -1 ≤ turnsP a b ks ∧ turnsP a b ks ≤ ks.length := by
  have := turnsLe a b ks
  unfold turnsP
  split <;> omega
theorem fits_one (b : Int → Bool) (y : Int) : fitsB [oneP b] [y] = b y := by
  unfold fitsB
  cases h : b y
  · have e : oneP b [y] = -1 := by simp [oneP, h]
    rw [e]; rfl
  · have e : oneP b [y] = 1 := by simp [oneP, h]
    rw [e]; rfl
theorem fits_two (a b : Int → Bool) (x y : Int) : fitsB [oneP a, oneP b] [x, y] = (a x && b y) := by
  unfold fitsB
  cases h : a x
  · have e : oneP a [x, y] = -1 := by simp [oneP, h]
    rw [e]; rfl
  · have e : oneP a [x, y] = 1 := by simp [oneP, h]
    rw [e]
    exact fits_one b y

theorem slice_two (o : Option Addr) (kids : List Nd) (cap n : Nat) (hn : n + 2 ≤ kids.length) (hc : kids.length ≤ cap) :
    ∃ o', (∀ w : World, (Instr.slice 22 (.slice o kids.length cap) (some (.int .i64 (n : Int))) (some (.int .i64 ((n : Int) + 2))) none).run Tryz.prog w = .ok (.slice o' 2 (cap - n)) w) ∧ ∀ (W : World) (B : Nat), KIn W B o kids → KIn W B o' ((kids.drop n).take 2) := by
  refine ⟨if cap = n then o else o.map (·.add (n * 5)), fun w => ?_, fun W B h => ?_⟩
  · obtain ⟨i, hi, hs⟩ := Option.map_eq_some_iff.1 sizeNode
    have h1 : (0 : Int) ≤ (n : Int) + 2 := by omega
    have h2 : (n : Int) + 2 ≤ (cap : Int) := by omega
    have h3 : (n : Int) ≤ (((n : Int) + 2).toNat : Int) := by omega
    have h4 : ((n : Int) + 2).toNat = n + 2 := by omega
    simp [Instr.slice, run_underlying Tryz.underlying22, Instr.sliceBounds, Instr.sliceBound, asIntOf, sizeOf, typeInfo, hi, hs, h1, h2, h4]
  · rcases h with rfl | ⟨g, off, rfl, hg, hk⟩
    · exact .inl (by simp)
    · rw [if_neg (by omega)]
      exact .inr ⟨g, off + n * 5, by simp [Addr.add_lit], hg, (hk.drop n kids g off).take 2 _ g _⟩

set_option maxRecDepth 100000 in
set_option maxHeartbeats 4000000 in
theorem turns1_c (a b : Int → Bool) (ol : Option Addr) (capl bx : Nat) (w : World) (hp : PatsAt b0 w ol [oneP a, oneP b]) (hbx : w.cell? ⟨bx, 0, none⟩ = some (.slice ol 2 capl)) (hbl : bx < w.heap.size) (B : Nat) (o : Option Addr) (kids : List Nd) (cap : Nat) (h : KIn w B o kids) (hB : B ≤ w.heap.size) (hc : kids.length ≤ cap) (hl : kids.length ≤ 4611686018427387904) :
    Calls Tryz.prog 128 #[.slice o kids.length cap, .pointer (some ⟨bx, 0, none⟩)] w fun e w' => e = .returned (.int .i64 (turnsP a b (kinds kids))) ∧ Below w.heap.size w w' := by
  have hdep : Tryz.prog.follows Departure.mixedOrders = true := by kernel_rfl
  have HP : Hid (PatsAt b0 w ol [oneP a, oneP b]) := hp
  have HK : Hid (KIn w B o kids) := h
  have HBw : Hid (B ≤ w.heap.size) := hB
  have HCL : Hid (kids.length ≤ cap ∧ kids.length ≤ 4611686018427387904) := ⟨hc, hl⟩
  obtain ⟨L, hL⟩ : ∃ L, kids.length = L := ⟨_, rfl⟩
  have HL : Hid (kids.length = L) := hL
  have hLi : (L : Int) ≤ 4611686018427387904 := by omega
  have HX : Hid (∀ W : World, Below w.heap.size w W → W.cell? ⟨bx, 0, none⟩ = some (.slice ol 2 capl)) := fun W hW => (hW.cell (p := ⟨bx, 0, none⟩) hbl).trans hbx
  rw [hL]
  clear hp h hB hc hl hL hbx
  go_enter Tryz.func128, Tryz.ntmps128
  go_wp2
  go_loopw [4] (fun i wr => ∃ k : Nat, k ≤ L ∧ i = .int .i64 k ∧ Hid (turnsN a b (kinds kids) = k + turnsN a b ((kinds kids).drop k)) ∧ Hid (Below w.heap.size w wr)) (fun i _ => L - (intOf i).toNat)
  case atStart => exact ⟨0, Nat.zero_le _, rfl, (by simp : turnsN a b (kinds kids) = 0 + turnsN a b ((kinds kids).drop 0)), Below.refl _ _⟩
  case round =>
    obtain ⟨k, hk, rfl, hT, hBl⟩ := hrel
    have HR : Hid (∀ n, turnsN a b (kinds kids) = n → turnsP a b (kinds kids) = if n = 0 then -1 else (n : Int)) := fun n hn => by unfold turnsP; rw [hn]
    by_cases hlt : k + 2 ≤ L
    · have hkl : k + 2 ≤ kids.length := by rw [HL.out]; exact hlt
      obtain ⟨x, hx⟩ : ∃ x, kids[k].kind = x := ⟨_, rfl⟩
      obtain ⟨y, hy⟩ : ∃ y, kids[k + 1].kind = y := ⟨_, rfl⟩
      have hd : (kinds kids).drop k = x :: y :: (kinds kids).drop (k + 2) := by
        rw [List.drop_eq_getElem_cons (by rw [kinds_len]; omega), List.drop_eq_getElem_cons (by rw [kinds_len]; omega)]
        simp [kinds, hx, hy]
      obtain ⟨o2, hsl, hk2⟩ := slice_two o kids cap k hkl HCL.out.1
      have h2l : ((kids.drop k).take 2).length = 2 := by rw [List.length_take, List.length_drop]; omega
      have hk2k : kinds ((kids.drop k).take 2) = [x, y] := by
        show ((kids.drop k).take 2).map Nd.kind = _
        rw [List.map_take, List.map_drop]
        show ((kinds kids).drop k).take 2 = _
        rw [hd]; rfl
      have HF : Hid (∀ W : World, Below w.heap.size w W → Calls Tryz.prog 83 #[.slice ol 2 capl, .slice o2 2 (cap - k)] W fun e w' => e = .returned (.bool (a x && b y)) ∧ Below W.heap.size W w') := by
        intro W hW
        have := fits_c [oneP a, oneP b] ol capl W (HP.out.below hW) (by simp) B o2 ((kids.drop k).take 2) (cap - k) (hk2 W B (HK.out.below (hW.mono HBw.out))) (Nat.le_trans HBw.out hW.size) (by rw [h2l]; have := HCL.out.1; omega) (by rw [h2l]; omega)
        rw [h2l, hk2k, fits_two] at this
        exact this
      rw [HL.out] at hsl
      have hTd : Hid (turnsN a b ((kinds kids).drop k) = if a x && b y then turnsN a b ((kinds kids).drop (k + 2)) + 2 else 0) := by show _ = _; rw [hd]; rfl
      have hli : (k : Int) + 2 ≤ (L : Int) := by omega
      have hw1 : IntKind.i64.wrap ((k : Int) + 2) = (k : Int) + 2 := by rw [IntKind.wrap_i64]; omega
      have c0 := HX.out wr hBl.out
      clear hkl hx hy hd hk2 h2l hk2k
      cases hab : (a x && b y) with
      | true =>
        rw [hab] at HF hTd
        have HT2 : Hid (turnsN a b (kinds kids) = (k + 2) + turnsN a b ((kinds kids).drop (k + 2))) := by show _ = _; rw [hT.out, hTd.out, if_pos rfl]; omega
        have HF2 : Hid (∀ W : World, Hid (Below w.heap.size w W) → Calls Tryz.prog 83 #[.slice ol 2 capl, .slice o2 2 (cap - k)] W fun e w' => e = .returned (.bool true) ∧ Below W.heap.size W w') := fun W hW => HF.out W hW.out
        have hmk : Hid (∀ X : World, Hid (Below w.heap.size w X) → (Hid (Below w.heap.size w X) ∧ X.cell? ⟨bx, 0, none⟩ = some (.slice ol 2 capl))) := fun X hX => ⟨hX, HX.out X hX.out⟩
        have hbe : Hid (∀ X Y : World, Hid (Below w.heap.size w X) → Below X.heap.size X Y → Hid (Below w.heap.size w Y)) := fun X Y h1 h2 => h1.out.trans (h2.mono h1.out.size)
        have hBd : Hid (Below w.heap.size w wr.drew) := hBl.out.drew
        have hdl : decide ((k : Int) + 2 ≤ (L : Int)) = true := decide_eq_true hli
        clear hab hT hTd HF c0
        go_wp2
        go_region_held3 (fun X : World => Hid (Below w.heap.size w X) ∧ X.cell? ⟨bx, 0, none⟩ = some (.slice ol 2 capl))
          (first
            | with_reducible exact hmk.out _ hBl
            | with_reducible exact hmk.out _ hBd
            | with_reducible exact hmk.out _ hS2)
          (first
            | (go_at_call 83; with_reducible refine (HF2.out _ (And.left (by with_reducible assumption))).mono ?_; rintro e w1 ⟨rfl, hb1⟩; have hS2 : Hid (Below w.heap.size w w1) := hbe.out _ _ (And.left (by with_reducible assumption)) hb1; clear hb1))
        all_goals go_wp2
        all_goals go_roundw
        all_goals first | exact ⟨k + 2, by omega, by go_num, HT2, hS2⟩ | (simp [intOf]; omega)
      | false =>
        rw [hab] at HF hTd
        have HT2 : Hid (turnsP a b (kinds kids) = if k = 0 then -1 else (k : Int)) := HR.out k (by rw [hT.out, hTd.out]; rfl)
        have HF2 : Hid (∀ W : World, Hid (Below w.heap.size w W) → Calls Tryz.prog 83 #[.slice ol 2 capl, .slice o2 2 (cap - k)] W fun e w' => e = .returned (.bool false) ∧ Below W.heap.size W w') := fun W hW => HF.out W hW.out
        have hmk : Hid (∀ X : World, Hid (Below w.heap.size w X) → (Hid (Below w.heap.size w X) ∧ X.cell? ⟨bx, 0, none⟩ = some (.slice ol 2 capl))) := fun X hX => ⟨hX, HX.out X hX.out⟩
        have hbe : Hid (∀ X Y : World, Hid (Below w.heap.size w X) → Below X.heap.size X Y → Hid (Below w.heap.size w Y)) := fun X Y h1 h2 => h1.out.trans (h2.mono h1.out.size)
        have hBd : Hid (Below w.heap.size w wr.drew) := hBl.out.drew
        have hdl : decide ((k : Int) + 2 ≤ (L : Int)) = true := decide_eq_true hli
        clear hab hT hTd HF c0
        go_wp2
        go_region_held3 (fun X : World => Hid (Below w.heap.size w X) ∧ X.cell? ⟨bx, 0, none⟩ = some (.slice ol 2 capl))
          (first
            | with_reducible exact hmk.out _ hBl
            | with_reducible exact hmk.out _ hBd
            | with_reducible exact hmk.out _ hS2)
          (first
            | (go_at_call 83; with_reducible refine (HF2.out _ (And.left (by with_reducible assumption))).mono ?_; rintro e w1 ⟨rfl, hb1⟩; have hS2 : Hid (Below w.heap.size w w1) := hbe.out _ _ (And.left (by with_reducible assumption)) hb1; clear hb1))
        by_cases hk0 : k = 0
        · subst hk0
          go_wp2
          go_ret
          exact ⟨by rw [HT2.out]; rfl, hS2.out⟩
        · have e0 : ((k : Int) == 0) = false := beq_eq_false_iff_ne.2 (by omega)
          rw [if_neg hk0] at HT2
          clear hk0
          go_wp2
          go_ret
          exact ⟨by rw [HT2.out]; rfl, hS2.out⟩
    · have hd0 : turnsN a b ((kinds kids).drop k) = 0 := by
        have hlen : ((kinds kids).drop k).length < 2 := by rw [List.length_drop, kinds_len, HL.out]; omega
        match h : (kinds kids).drop k, hlen with
        | [], _ => rfl
        | [x], _ => rfl
      have HT2 : Hid (turnsP a b (kinds kids) = if k = 0 then -1 else (k : Int)) := HR.out k (by rw [hT.out, hd0]; rfl)
      have hli : (L : Int) < (k : Int) + 2 := by omega
      have hw1 : IntKind.i64.wrap ((k : Int) + 2) = (k : Int) + 2 := by rw [IntKind.wrap_i64]; omega
      have hdl : decide ((k : Int) + 2 ≤ (L : Int)) = false := decide_eq_false (by omega)
      have hmk : Hid (∀ X : World, Hid (Below w.heap.size w X) → Hid (Below w.heap.size w X)) := fun X hX => hX
      have hBd : Hid (Below w.heap.size w wr.drew) := hBl.out.drew
      clear hd0 hT hlt
      go_wp2
      go_big_quiet (fail)
      have hBq : Hid (Below w.heap.size w (wr.drewN nq)) := hBl.out.trans ⟨rfl, rfl, rfl, Nat.le_refl _, fun _ _ => rfl⟩
      by_cases hk0 : k = 0
      · subst hk0
        go_wp2
        go_ret
        exact ⟨by rw [HT2.out]; rfl, hBq.out⟩
      · have e0 : ((k : Int) == 0) = false := beq_eq_false_iff_ne.2 (by omega)
        rw [if_neg hk0] at HT2
        clear hk0
        go_wp2
        go_ret
        exact ⟨by rw [HT2.out]; rfl, hBq.out⟩

set_option maxRecDepth 100000 in
set_option maxHeartbeats 4000000 in
theorem turns_c (a b : Int → Bool) (u v : Value) (w : World) (hu : ClsOK b0 w u a) (hv : ClsOK b0 w v b) (hb0 : b0 < w.heap.size) : Calls Tryz.prog 77 #[u, v] w fun e w' => ∃ x, e = .returned x ∧ PatOK b0 w' x (turnsP a b) ∧ Below w.heap.size w w' := by
  have hmf : ∀ (fn : Fn) (first cap : Array Value) (w : World), (Instr.makeFunc fn first cap).run Tryz.prog w = .ok (.func fn first cap) w := fun _ _ _ _ => rfl
  have H0 : Hid (b0 < w.heap.size) := hb0
  clear hb0
  have HC1 : Hid (Calls Tryz.prog 73 #[u] w fun e w' => ∃ u, e = .returned u ∧ PatOK b0 w' u (oneP a) ∧ Below w.heap.size w w') := one_c a u w hu H0.out
  have HC2 : Hid (∀ W : World, Below w.heap.size w W → Calls Tryz.prog 73 #[v] W fun e w' => ∃ u, e = .returned u ∧ PatOK b0 w' u (oneP b) ∧ Below W.heap.size W w') := fun W hW => one_c b v W (hv.below hW) (Nat.lt_of_lt_of_le H0.out hW.size)
  obtain ⟨f, caps, rfl, -, -⟩ := hu
  obtain ⟨f', caps', rfl, -, -⟩ := hv
  go_enter Tryz.func77, Tryz.ntmps77
  go_wp2_with (go_at_call 73; fail)
  refine HC1.out.mono ?_
  rintro e w1 ⟨x1, rfl, hp1, hb1⟩
  have HP1 : Hid (PatOK b0 w1 x1 (oneP a)) := hp1
  have HB1 : Hid (Below w.heap.size w w1) := hb1
  obtain ⟨g1, q1, rfl, -, -, -⟩ := hp1
  clear hb1 HC1
  go_wp2_with (go_at_call 73; fail)
  refine (HC2.out _ HB1.out).mono ?_
  rintro e w2 ⟨x2, rfl, hp2, hb2⟩
  have HP2 : Hid (PatOK b0 w2 x2 (oneP b)) := hp2
  have HP3 : Hid (PatOK b0 w2 (.func (.func g1) #[] q1) (oneP a)) := HP1.out.below hb2
  have HB2 : Hid (Below w.heap.size w w2) := HB1.out.trans (hb2.mono HB1.out.size)
  obtain ⟨g2, q2, rfl, -, -, -⟩ := hp2
  clear hb2 HC2 HP1 HB1
  go_wp2
  go_ret
  have hA : Below w2.heap.size w2 ((w2.alloc (.cells #[.func (.func g1) #[] q1, .func (.func g2) #[] q2] 120)).alloc (.cells #[.slice (some ⟨w2.heap.size, 0, none⟩) 2 2] 122)) := ((Below.refl _ w2).alloc (Nat.le_refl _) _).alloc (by simp) _
  refine ⟨_, rfl, ⟨_, _, rfl, enters_of Tryz.func128 (by kernel_rfl) rfl, turnsP_b a b, fun W' hW' B o kids cap h hB hc hl => ?_⟩, (HB2.out.alloc HB2.out.size _).alloc (by have := HB2.out.size; simp; omega) _⟩
  have k1 := (((Blk.new w2 #[.func (.func g1) #[] q1, .func (.func g2) #[] q2] 120).alloc (.cells #[.slice (some ⟨w2.heap.size, 0, none⟩) 2 2] 122)).agr (by have := H0.out; have := HB2.out.size; simp; omega) hW')
  have k2 := ((Blk.new (w2.alloc (.cells #[.func (.func g1) #[] q1, .func (.func g2) #[] q2] 120)) #[.slice (some ⟨w2.heap.size, 0, none⟩) 2 2] 122).agr (by have := H0.out; have := HB2.out.size; simp; omega) hW')
  simp only [World.size_alloc] at k2
  have hbw := (agr_below hA b0).trans hW'
  refine turns1_c (b0 := b0) a b (some ⟨w2.heap.size, 0, none⟩) 2 (w2.heap.size + 1) W' (.inr ⟨w2.heap.size, 0, rfl, k1.lt, by have := H0.out; have := HB2.out.size; omega, fun j hj => ?_⟩) (k2.cell 0 _ rfl) k2.lt B o kids cap h hB hc hl
  match j, hj with
  | 0, _ => exact ⟨_, k1.cell 0 _ rfl, HP3.out.agr hbw⟩
  | 1, _ => exact ⟨_, k1.cell 1 _ rfl, HP2.out.agr hbw⟩

end Go.Proofs.YtndpebkiiemfpaaGreatDoor
