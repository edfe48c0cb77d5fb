/-
  All names of a tree are written down: allExpr with a function that writes, by contracts.
  Names are added to a set: namesIn's first function, by a contract.
  The names of one expression are written down: namesIn's second function, by a contract.
-/
import Derived.Test.YtegdloenakachaaGreatDoorCN24
namespace Go.Proofs.YtegdloenakachaaGreatDoor
open Go.RowKit Go.Shelf Go.Maps
set_option linter.unusedVariables false

/-- A set with some names more. -/
def addL (G : List UInt8 → Bool) (l : List (List UInt8)) (x : List UInt8) : Bool := G x || decide (x ∈ l)
theorem addL_nil (G : List UInt8 → Bool) : addL G [] = G := by funext x; simp [addL]
theorem addL_app (G : List UInt8 → Bool) (a b : List (List UInt8)) : addL (addL G a) b = addL G (a ++ b) := by
  funext x
  simp [addL, List.mem_append, Bool.or_assoc]
/-- What is changed: a set of names, which grows. -/
structure NmR (m : Nat) (w : World) (C : Nat) (G : List UInt8 → Bool) (W : World) : Prop where
  but : But m w W
  set : ∃ c, c ≤ C ∧ SetIs W m c G
theorem NmR.start {m : Nat} {w : World} {c : Nat} {G : List UInt8 → Bool} (h : SetIs w m c G) : NmR m w c (addL G []) w := ⟨But.refl _ _, c, Nat.le_refl _, by rw [addL_nil]; exact h⟩
/-- All that is written down. -/
def allN (own : (d : Nat) → Tr (d + 1) → List (List UInt8)) : (d : Nat) → Tr d → List (List UInt8)
  | 0, t => nomatch t
  | d + 1, t => own d t ++ ((TrN.binds t).flatMap (fun b => allN own d b.2) ++ ((TrN.args t).flatMap (fun e => allN own d e) ++ (TrN.alts t).flatMap (fun a => allN own d a.2)))
def WrOK (F : Nat) (v : Value) (m : Nat) (w0 : World) (own : (d : Nat) → Tr (d + 1) → List (List UInt8)) : Prop := ∀ (W : World), But m w0 W → ∀ (d : Nat) (t : Tr (d + 1)) (B g off c : Nat) (G : List UInt8 → Bool), ExAt W B (d + 1) t g off → B ≤ W.heap.size → B ≤ m → FitN t → SetIs W m c G → c + (own d t).length ≤ 4000000 → Calls Tryz.prog F #[.pointer (some ⟨g, off, none⟩), v] W fun e w' => e = .returned (.bool true) ∧ NmR m W (c + (own d t).length) (addL G (own d t)) w'
def WaOK (F : Nat) (v : Value) (m : Nat) (w0 : World) (own : (d : Nat) → Tr (d + 1) → List (List UInt8)) (d : Nat) : Prop := ∀ (W : World), But m w0 W → ∀ (t : Tr d) (B g off c : Nat) (G : List UInt8 → Bool), ExAt W B d t g off → B ≤ W.heap.size → B ≤ m → Fit d t → SetIs W m c G → c + (allN own d t).length ≤ 4000000 → Calls Tryz.prog 109 #[.pointer (some ⟨g, off, none⟩), .func (.func F) #[] #[v]] W fun e w' => e = .returned (.bool true) ∧ NmR m W (c + (allN own d t).length) (addL G (allN own d t)) w'
theorem flat_take {α β : Type} (f : α → List β) (l : List α) (k : Nat) (h : k < l.length) : (l.take (k + 1)).flatMap f = (l.take k).flatMap f ++ f l[k] := by
  rw [List.take_succ_eq_append_getElem h, List.flatMap_append]; simp
theorem flat_le {α β : Type} (f : α → List β) (l : List α) (k : Nat) : ((l.take k).flatMap f).length ≤ (l.flatMap f).length := by
  have : l.flatMap f = (l.take k).flatMap f ++ (l.drop k).flatMap f := by rw [← List.flatMap_append, List.take_append_drop]
  rw [this, List.length_append]; omega
set_option maxRecDepth 100000 in
set_option maxHeartbeats 2000000 in
theorem wall_binds_c (F : Nat) (v : Value) (m : Nat) (w0 : World) (own : (d : Nat) → Tr (d + 1) → List (List UInt8)) (d : Nat) (ih : WaOK F v m w0 own d) (l : List (ByteArray × Tr d)) (o : Option Addr) (cap B c : Nat) (G : List UInt8 → Bool) (w : World) (hw0 : But m w0 w) (hl : RowIn B 8 (fun (b : ByteArray × Tr d) g off => w.cell? ⟨g, off, none⟩ = some (.string b.1) ∧ ExAt w B d b.2 g (off + 1)) o l) (hw : B ≤ w.heap.size) (hBm : B ≤ m) (hln : l.length ≤ 2000000) (hf : ∀ x ∈ l, Fit d x.2) (hst : SetIs w m c G) (hc : c + (l.flatMap (fun x => allN own d x.2)).length ≤ 4000000) :
    Calls Tryz.prog 83 #[.slice o l.length cap, .func (.func F) #[] #[v]] w fun e w' => e = .returned (.bool true) ∧ NmR m w (c + (l.flatMap (fun x => allN own d x.2)).length) (addL G (l.flatMap (fun x => allN own d x.2))) w' := by
  have HA : Hid (∀ k (h : k < l.length), ∃ g off, o = some ⟨g, off, none⟩ ∧ g < B ∧ ∀ (W : World), NmR m w (c + ((l.take k).flatMap (fun x => allN own d x.2)).length) (addL G ((l.take k).flatMap (fun x => allN own d x.2))) W → Calls Tryz.prog 109 #[.pointer (some ⟨g, off + k * 8 + 1, none⟩), .func (.func F) #[] #[v]] W fun e w' => e = .returned (.bool true) ∧ NmR m w (c + ((l.take (k + 1)).flatMap (fun x => allN own d x.2)).length) (addL G ((l.take (k + 1)).flatMap (fun x => allN own d x.2))) w') := by
    intro k hk
    rcases hl with h0 | ⟨g, off, e, hg, hE⟩
    · subst h0; cases hk
    · refine ⟨g, off, e, hg, fun W hW => ?_⟩
      have hsz := hW.but.size
      obtain ⟨c1, hc1, hs1⟩ := hW.set
      have hfl := flat_take (fun x => allN own d x.2) l k hk
      have hle := flat_le (fun x => allN own d x.2) l (k + 1)
      have hlen := congrArg List.length hfl
      rw [List.length_append] at hlen
      refine (ih W (hw0.trans hW.but) l[k].2 B g (off + k * 8 + 1) c1 _ (ExAt.same (fun g' off' hg' => hW.but.cell g' off' (by omega) (by omega)) d _ _ _ ((hE k hk).2)) (by omega) hBm (hf _ (List.getElem_mem hk)) hs1 (by omega)).mono ?_
      rintro e w' ⟨rfl, h9⟩
      obtain ⟨c2, hc2, hs2⟩ := h9.set
      refine ⟨rfl, hW.but.trans h9.but, c2, by omega, ?_⟩
      rw [hfl, ← addL_app]
      exact hs2
  obtain ⟨n, hn⟩ : ∃ n, l.length = n := ⟨_, rfl⟩
  have HN : Hid (l.length = n ∧ B ≤ w.heap.size) := ⟨hn, hw⟩
  have H0 : Hid (NmR m w (c + ((l.take 0).flatMap (fun x => allN own d x.2)).length) (addL G ((l.take 0).flatMap (fun x => allN own d x.2))) w) := NmR.start hst
  rw [hn]
  have hn2 : (n : Int) ≤ 2000000 := by rw [← hn]; omega
  clear hl hw hln hn hf ih hw0 hst hc hBm
  go_enter Tryz.func83, Tryz.ntmps83
  go_wp2
  go_loopw [8] (fun i wr => ∃ k : Nat, k ≤ n ∧ i = .int .i64 k ∧ Hid (NmR m w (c + ((l.take k).flatMap (fun x => allN own d x.2)).length) (addL G ((l.take k).flatMap (fun x => allN own d x.2))) wr)) (fun i _ => n - (intOf i).toNat)
  case atStart => exact ⟨0, Nat.zero_le _, rfl, H0⟩
  case round =>
    clear H0
    obtain ⟨k, hk, rfl, hS⟩ := hrel
    by_cases hkn : k < n
    · have hkl : k < l.length := by rw [HN.out.1]; exact hkn
      obtain ⟨g, off, rfl, hg, hC⟩ := HA.out k hkl
      have hgw : g < wr.heap.size := by have := HN.out.2; have := hS.out.but.size; omega
      have HC : Hid (Calls Tryz.prog 109 #[.pointer (some ⟨g, off + k * 8 + 1, none⟩), .func (.func F) #[] #[v]] wr fun e w' => e = .returned (.bool true) ∧ NmR m w (c + ((l.take (k + 1)).flatMap (fun x => allN own d x.2)).length) (addL G ((l.take (k + 1)).flatMap (fun x => allN own d x.2))) w') := hC wr hS.out
      clear hC hk hkl hS HA
      go_wp2_with (go_at_call 109; fail)
      refine HC.out.mono ?_
      rintro e w2 ⟨rfl, hr⟩
      have HR2 : Hid (NmR m w (c + ((l.take (k + 1)).flatMap (fun x => allN own d x.2)).length) (addL G ((l.take (k + 1)).flatMap (fun x => allN own d x.2))) w2) := hr
      clear hr HC
      go_wp2
      go_roundw
      case rel => exact ⟨k + 1, hkn, by go_num, HR2⟩
      case measure => simp [intOf]; omega
    · have HF : Hid (NmR m w (c + (l.flatMap (fun x => allN own d x.2)).length) (addL G (l.flatMap (fun x => allN own d x.2))) wr) := by
        have e : l.take k = l := List.take_of_length_le (by rw [HN.out.1]; omega)
        have h3 := hS.out
        rw [e] at h3
        exact h3
      clear hS HA
      go_wp2
      go_ret
      exact ⟨rfl, HF.out⟩
set_option maxRecDepth 100000 in
set_option maxHeartbeats 2000000 in
theorem wall_exprs_c (F : Nat) (v : Value) (m : Nat) (w0 : World) (own : (d : Nat) → Tr (d + 1) → List (List UInt8)) (d : Nat) (ih : WaOK F v m w0 own d) (l : List (Tr d)) (o : Option Addr) (cap B c : Nat) (G : List UInt8 → Bool) (w : World) (hw0 : But m w0 w) (hl : RowIn B 7 (fun (x : Tr d) g off => ExAt w B d x g off) o l) (hw : B ≤ w.heap.size) (hBm : B ≤ m) (hln : l.length ≤ 2000000) (hf : ∀ x ∈ l, Fit d x) (hst : SetIs w m c G) (hc : c + (l.flatMap (fun x => allN own d x)).length ≤ 4000000) :
    Calls Tryz.prog 139 #[.slice o l.length cap, .func (.func F) #[] #[v]] w fun e w' => e = .returned (.bool true) ∧ NmR m w (c + (l.flatMap (fun x => allN own d x)).length) (addL G (l.flatMap (fun x => allN own d x))) w' := by
  have HA : Hid (∀ k (h : k < l.length), ∃ g off, o = some ⟨g, off, none⟩ ∧ g < B ∧ ∀ (W : World), NmR m w (c + ((l.take k).flatMap (fun x => allN own d x)).length) (addL G ((l.take k).flatMap (fun x => allN own d x))) W → Calls Tryz.prog 109 #[.pointer (some ⟨g, off + k * 7, none⟩), .func (.func F) #[] #[v]] W fun e w' => e = .returned (.bool true) ∧ NmR m w (c + ((l.take (k + 1)).flatMap (fun x => allN own d x)).length) (addL G ((l.take (k + 1)).flatMap (fun x => allN own d x))) w') := by
    intro k hk
    rcases hl with h0 | ⟨g, off, e, hg, hE⟩
    · subst h0; cases hk
    · refine ⟨g, off, e, hg, fun W hW => ?_⟩
      have hsz := hW.but.size
      obtain ⟨c1, hc1, hs1⟩ := hW.set
      have hfl := flat_take (fun x => allN own d x) l k hk
      have hle := flat_le (fun x => allN own d x) l (k + 1)
      have hlen := congrArg List.length hfl
      rw [List.length_append] at hlen
      refine (ih W (hw0.trans hW.but) l[k] B g (off + k * 7) c1 _ (ExAt.same (fun g' off' hg' => hW.but.cell g' off' (by omega) (by omega)) d _ _ _ (hE k hk)) (by omega) hBm (hf _ (List.getElem_mem hk)) hs1 (by omega)).mono ?_
      rintro e w' ⟨rfl, h9⟩
      obtain ⟨c2, hc2, hs2⟩ := h9.set
      refine ⟨rfl, hW.but.trans h9.but, c2, by omega, ?_⟩
      rw [hfl, ← addL_app]
      exact hs2
  obtain ⟨n, hn⟩ : ∃ n, l.length = n := ⟨_, rfl⟩
  have HN : Hid (l.length = n ∧ B ≤ w.heap.size) := ⟨hn, hw⟩
  have H0 : Hid (NmR m w (c + ((l.take 0).flatMap (fun x => allN own d x)).length) (addL G ((l.take 0).flatMap (fun x => allN own d x))) w) := NmR.start hst
  rw [hn]
  have hn2 : (n : Int) ≤ 2000000 := by rw [← hn]; omega
  clear hl hw hln hn hf ih hw0 hst hc hBm
  go_enter Tryz.func139, Tryz.ntmps139
  go_wp2
  go_loopw [8] (fun i wr => ∃ k : Nat, k ≤ n ∧ i = .int .i64 k ∧ Hid (NmR m w (c + ((l.take k).flatMap (fun x => allN own d x)).length) (addL G ((l.take k).flatMap (fun x => allN own d x))) wr)) (fun i _ => n - (intOf i).toNat)
  case atStart => exact ⟨0, Nat.zero_le _, rfl, H0⟩
  case round =>
    clear H0
    obtain ⟨k, hk, rfl, hS⟩ := hrel
    by_cases hkn : k < n
    · have hkl : k < l.length := by rw [HN.out.1]; exact hkn
      obtain ⟨g, off, rfl, hg, hC⟩ := HA.out k hkl
      have hgw : g < wr.heap.size := by have := HN.out.2; have := hS.out.but.size; omega
      have HC : Hid (Calls Tryz.prog 109 #[.pointer (some ⟨g, off + k * 7, none⟩), .func (.func F) #[] #[v]] wr fun e w' => e = .returned (.bool true) ∧ NmR m w (c + ((l.take (k + 1)).flatMap (fun x => allN own d x)).length) (addL G ((l.take (k + 1)).flatMap (fun x => allN own d x))) w') := hC wr hS.out
      clear hC hk hkl hS HA
      go_wp2_with (go_at_call 109; fail)
      refine HC.out.mono ?_
      rintro e w2 ⟨rfl, hr⟩
      have HR2 : Hid (NmR m w (c + ((l.take (k + 1)).flatMap (fun x => allN own d x)).length) (addL G ((l.take (k + 1)).flatMap (fun x => allN own d x))) w2) := hr
      clear hr HC
      go_wp2
      go_roundw
      case rel => exact ⟨k + 1, hkn, by go_num, HR2⟩
      case measure => simp [intOf]; omega
    · have HF : Hid (NmR m w (c + (l.flatMap (fun x => allN own d x)).length) (addL G (l.flatMap (fun x => allN own d x))) wr) := by
        have e : l.take k = l := List.take_of_length_le (by rw [HN.out.1]; omega)
        have h3 := hS.out
        rw [e] at h3
        exact h3
      clear hS HA
      go_wp2
      go_ret
      exact ⟨rfl, HF.out⟩
set_option maxRecDepth 100000 in
set_option maxHeartbeats 2000000 in
theorem wall_alts_c (F : Nat) (v : Value) (m : Nat) (w0 : World) (own : (d : Nat) → Tr (d + 1) → List (List UInt8)) (d : Nat) (ih : WaOK F v m w0 own d) (l : List (AltH × Tr d)) (o : Option Addr) (cap B c : Nat) (G : List UInt8 → Bool) (w : World) (hw0 : But m w0 w) (hl : RowIn B 11 (AltAt w B d) o l) (hw : B ≤ w.heap.size) (hBm : B ≤ m) (hln : l.length ≤ 2000000) (hf : ∀ x ∈ l, Fit d x.2) (hst : SetIs w m c G) (hc : c + (l.flatMap (fun x => allN own d x.2)).length ≤ 4000000) :
    Calls Tryz.prog 140 #[.slice o l.length cap, .func (.func F) #[] #[v]] w fun e w' => e = .returned (.bool true) ∧ NmR m w (c + (l.flatMap (fun x => allN own d x.2)).length) (addL G (l.flatMap (fun x => allN own d x.2))) w' := by
  have HA : Hid (∀ k (h : k < l.length), ∃ g off, o = some ⟨g, off, none⟩ ∧ g < B ∧ ∀ (W : World), NmR m w (c + ((l.take k).flatMap (fun x => allN own d x.2)).length) (addL G ((l.take k).flatMap (fun x => allN own d x.2))) W → Calls Tryz.prog 109 #[.pointer (some ⟨g, off + k * 11 + 4, none⟩), .func (.func F) #[] #[v]] W fun e w' => e = .returned (.bool true) ∧ NmR m w (c + ((l.take (k + 1)).flatMap (fun x => allN own d x.2)).length) (addL G ((l.take (k + 1)).flatMap (fun x => allN own d x.2))) w') := by
    intro k hk
    rcases hl with h0 | ⟨g, off, e, hg, hE⟩
    · subst h0; cases hk
    · refine ⟨g, off, e, hg, fun W hW => ?_⟩
      have hsz := hW.but.size
      obtain ⟨c1, hc1, hs1⟩ := hW.set
      have hfl := flat_take (fun x => allN own d x.2) l k hk
      have hle := flat_le (fun x => allN own d x.2) l (k + 1)
      have hlen := congrArg List.length hfl
      rw [List.length_append] at hlen
      refine (ih W (hw0.trans hW.but) l[k].2 B g (off + k * 11 + 4) c1 _ (ExAt.same (fun g' off' hg' => hW.but.cell g' off' (by omega) (by omega)) d _ _ _ ((hE k hk).2.2.2.2)) (by omega) hBm (hf _ (List.getElem_mem hk)) hs1 (by omega)).mono ?_
      rintro e w' ⟨rfl, h9⟩
      obtain ⟨c2, hc2, hs2⟩ := h9.set
      refine ⟨rfl, hW.but.trans h9.but, c2, by omega, ?_⟩
      rw [hfl, ← addL_app]
      exact hs2
  obtain ⟨n, hn⟩ : ∃ n, l.length = n := ⟨_, rfl⟩
  have HN : Hid (l.length = n ∧ B ≤ w.heap.size) := ⟨hn, hw⟩
  have H0 : Hid (NmR m w (c + ((l.take 0).flatMap (fun x => allN own d x.2)).length) (addL G ((l.take 0).flatMap (fun x => allN own d x.2))) w) := NmR.start hst
  rw [hn]
  have hn2 : (n : Int) ≤ 2000000 := by rw [← hn]; omega
  clear hl hw hln hn hf ih hw0 hst hc hBm
  go_enter Tryz.func140, Tryz.ntmps140
  go_wp2
  go_loopw [8] (fun i wr => ∃ k : Nat, k ≤ n ∧ i = .int .i64 k ∧ Hid (NmR m w (c + ((l.take k).flatMap (fun x => allN own d x.2)).length) (addL G ((l.take k).flatMap (fun x => allN own d x.2))) wr)) (fun i _ => n - (intOf i).toNat)
  case atStart => exact ⟨0, Nat.zero_le _, rfl, H0⟩
  case round =>
    clear H0
    obtain ⟨k, hk, rfl, hS⟩ := hrel
    by_cases hkn : k < n
    · have hkl : k < l.length := by rw [HN.out.1]; exact hkn
      obtain ⟨g, off, rfl, hg, hC⟩ := HA.out k hkl
      have hgw : g < wr.heap.size := by have := HN.out.2; have := hS.out.but.size; omega
      have HC : Hid (Calls Tryz.prog 109 #[.pointer (some ⟨g, off + k * 11 + 4, none⟩), .func (.func F) #[] #[v]] wr fun e w' => e = .returned (.bool true) ∧ NmR m w (c + ((l.take (k + 1)).flatMap (fun x => allN own d x.2)).length) (addL G ((l.take (k + 1)).flatMap (fun x => allN own d x.2))) w') := hC wr hS.out
      clear hC hk hkl hS HA
      go_wp2_with (go_at_call 109; fail)
      refine HC.out.mono ?_
      rintro e w2 ⟨rfl, hr⟩
      have HR2 : Hid (NmR m w (c + ((l.take (k + 1)).flatMap (fun x => allN own d x.2)).length) (addL G ((l.take (k + 1)).flatMap (fun x => allN own d x.2))) w2) := hr
      clear hr HC
      go_wp2
      go_roundw
      case rel => exact ⟨k + 1, hkn, by go_num, HR2⟩
      case measure => simp [intOf]; omega
    · have HF : Hid (NmR m w (c + (l.flatMap (fun x => allN own d x.2)).length) (addL G (l.flatMap (fun x => allN own d x.2))) wr) := by
        have e : l.take k = l := List.take_of_length_le (by rw [HN.out.1]; omega)
        have h3 := hS.out
        rw [e] at h3
        exact h3
      clear hS HA
      go_wp2
      go_ret
      exact ⟨rfl, HF.out⟩
set_option maxRecDepth 100000 in
set_option maxHeartbeats 2000000 in
theorem wall_step (F : Nat) (v : Value) (m : Nat) (w0 : World) (own : (d : Nat) → Tr (d + 1) → List (List UInt8)) (hE0 : Enters Tryz.prog F) (hq : WrOK F v m w0 own) (d : Nat) (ih : WaOK F v m w0 own d) : WaOK F v m w0 own (d + 1) := by
  intro w hw0 t B g off c G hE hw hBm hF hst hc
  have hEn : ∀ (args : Array Value) (w : World), (callFunc F args).run Tryz.prog w = .ok (.enter F args) w := hE0
  have hal : allN own (d + 1) t = own d t ++ ((TrN.binds t).flatMap (fun b => allN own d b.2) ++ ((TrN.args t).flatMap (fun e => allN own d e) ++ (TrN.alts t).flatMap (fun a => allN own d a.2))) := rfl
  obtain ⟨A0, hA0⟩ : ∃ A, own d t = A := ⟨_, rfl⟩
  obtain ⟨A1, hA1⟩ : ∃ A, (TrN.binds t).flatMap (fun b => allN own d b.2) = A := ⟨_, rfl⟩
  obtain ⟨A2, hA2⟩ : ∃ A, (TrN.args t).flatMap (fun e => allN own d e) = A := ⟨_, rfl⟩
  obtain ⟨A3, hA3⟩ : ∃ A, (TrN.alts t).flatMap (fun a => allN own d a.2) = A := ⟨_, rfl⟩
  rw [hA0, hA1, hA2, hA3] at hal
  rw [hal] at hc ⊢
  have hcl : c + A0.length + A1.length + A2.length + A3.length ≤ 4000000 := by
    simp only [List.length_append] at hc; omega
  obtain ⟨hg, h0, h1, h2, ⟨o3, c3, h3, k3⟩, ⟨o4, c4, h4, k4⟩, ⟨o5, c5, h5, k5⟩, ⟨o6, c6, h6, k6⟩⟩ := id hE
  have hgw : g < w.heap.size := by omega
  have hcs : ∀ W, But m w W → ∀ g' off', g' < B → W.cell? ⟨g', off', none⟩ = w.cell? ⟨g', off', none⟩ := fun W hW g' off' hg' => hW.cell g' off' (by omega) (by omega)
  have H0 : Hid (Calls Tryz.prog F #[.pointer (some ⟨g, off, none⟩), v] w fun e w' => e = .returned (.bool true) ∧ NmR m w (c + A0.length) (addL G A0) w') := by
    rw [← hA0]
    exact hq w hw0 d t B g off c G hE hw hBm hF.1 hst (by rw [hA0]; omega)
  have HB : Hid (∀ W, NmR m w (c + A0.length) (addL G A0) W → Calls Tryz.prog 83 #[.slice o4 (TrN.binds t).length c4, .func (.func F) #[] #[v]] W fun e w' => e = .returned (.bool true) ∧ NmR m w (c + A0.length + A1.length) (addL G (A0 ++ A1)) w') := fun W hW => by
    have hsz := hW.but.size
    obtain ⟨c1, hc1, hs1⟩ := hW.set
    refine (wall_binds_c F v m w0 own d ih _ o4 c4 B c1 _ W (hw0.trans hW.but) (k4.mono (fun y g off hg h => ⟨(hcs W hW.but _ _ hg).trans h.1, ExAt.same (hcs W hW.but) d _ _ _ h.2⟩)) (by omega) hBm hF.1.2.2.1.1 (fun x hx => hF.2.1 x hx) hs1 (by rw [hA1]; omega)).mono ?_
    rintro e w' ⟨rfl, h9⟩
    rw [hA1] at h9
    obtain ⟨c2, hc2, hs2⟩ := h9.set
    exact ⟨rfl, hW.but.trans h9.but, c2, by omega, by rw [← addL_app]; exact hs2⟩
  have HX : Hid (∀ W, NmR m w (c + A0.length + A1.length) (addL G (A0 ++ A1)) W → Calls Tryz.prog 139 #[.slice o5 (TrN.args t).length c5, .func (.func F) #[] #[v]] W fun e w' => e = .returned (.bool true) ∧ NmR m w (c + A0.length + A1.length + A2.length) (addL G (A0 ++ A1 ++ A2)) w') := fun W hW => by
    have hsz := hW.but.size
    obtain ⟨c1, hc1, hs1⟩ := hW.set
    refine (wall_exprs_c F v m w0 own d ih _ o5 c5 B c1 _ W (hw0.trans hW.but) (k5.mono (fun y g off hg h => ExAt.same (hcs W hW.but) d _ _ _ h)) (by omega) hBm hF.1.2.2.2.1 (fun x hx => hF.2.2.1 x hx) hs1 (by rw [hA2]; omega)).mono ?_
    rintro e w' ⟨rfl, h9⟩
    rw [hA2] at h9
    obtain ⟨c2, hc2, hs2⟩ := h9.set
    exact ⟨rfl, hW.but.trans h9.but, c2, by omega, by rw [← addL_app]; exact hs2⟩
  have HL : Hid (∀ W, NmR m w (c + A0.length + A1.length + A2.length) (addL G (A0 ++ A1 ++ A2)) W → Calls Tryz.prog 140 #[.slice o6 (TrN.alts t).length c6, .func (.func F) #[] #[v]] W fun e w' => e = .returned (.bool true) ∧ NmR m w (c + (A0 ++ (A1 ++ (A2 ++ A3))).length) (addL G (A0 ++ (A1 ++ (A2 ++ A3)))) w') := fun W hW => by
    have hsz := hW.but.size
    obtain ⟨c1, hc1, hs1⟩ := hW.set
    refine (wall_alts_c F v m w0 own d ih _ o6 c6 B c1 _ W (hw0.trans hW.but) (k6.mono (fun y g off hg h => AltAt.same (hcs W hW.but) h)) (by omega) hBm hF.1.2.2.2.2.1 (fun x hx => hF.2.2.2 x hx) hs1 (by rw [hA3]; omega)).mono ?_
    rintro e w' ⟨rfl, h9⟩
    rw [hA3] at h9
    obtain ⟨c2, hc2, hs2⟩ := h9.set
    refine ⟨rfl, hW.but.trans h9.but, c2, by simp only [List.length_append]; omega, ?_⟩
    rw [show A0 ++ (A1 ++ (A2 ++ A3)) = A0 ++ A1 ++ A2 ++ A3 by simp only [List.append_assoc], ← addL_app]
    exact hs2
  have HC : Hid (∀ W, But m w W → g < W.heap.size ∧ W.cell? ⟨g, off + 4, none⟩ = some (.slice o4 (TrN.binds t).length c4) ∧ W.cell? ⟨g, off + 5, none⟩ = some (.slice o5 (TrN.args t).length c5) ∧ W.cell? ⟨g, off + 6, none⟩ = some (.slice o6 (TrN.alts t).length c6)) := fun W hW => by
    have hsz := hW.size
    exact ⟨by omega, (hcs W hW _ _ hg).trans h4, (hcs W hW _ _ hg).trans h5, (hcs W hW _ _ hg).trans h6⟩
  generalize (TrN.binds t).length = n4 at HB HC
  generalize (TrN.args t).length = n5 at HX HC
  generalize (TrN.alts t).length = n6 at HL HC
  clear hE hw hF hw0 ih hq k3 k4 k5 k6 h0 h1 h2 h3 h4 h5 h6 hg hE0 hst hc hcl hcs hA0 hA1 hA2 hA3 hal hBm
  go_enter Tryz.func109, Tryz.ntmps109
  go_wp2_with (go_at_fn F; fail)
  refine H0.out.mono ?_
  rintro e w1 ⟨rfl, hb1⟩
  obtain ⟨g1, d4, d5, d6⟩ := HC.out w1 hb1.but
  have B1 : Hid (NmR m w (c + A0.length) (addL G A0) w1) := hb1
  clear hb1 H0
  go_wp2_with (go_at_call 83; fail)
  refine (HB.out w1 B1.out).mono ?_
  rintro e w2 ⟨rfl, hb2⟩
  obtain ⟨g2, e4, e5, e6⟩ := HC.out w2 hb2.but
  have B2 : Hid (NmR m w (c + A0.length + A1.length) (addL G (A0 ++ A1)) w2) := hb2
  clear hb2 HB B1 g1 d4 d5 d6
  go_wp2_with (go_at_call 139; fail)
  refine (HX.out w2 B2.out).mono ?_
  rintro e w3 ⟨rfl, hb3⟩
  obtain ⟨g3, f4, f5, f6⟩ := HC.out w3 hb3.but
  have B3 : Hid (NmR m w (c + A0.length + A1.length + A2.length) (addL G (A0 ++ A1 ++ A2)) w3) := hb3
  clear hb3 HX B2 g2 e4 e5 e6
  go_wp2_with (go_at_call 140; fail)
  refine (HL.out w3 B3.out).mono ?_
  rintro e w4 ⟨rfl, hb4⟩
  have B4 : Hid (NmR m w (c + (A0 ++ (A1 ++ (A2 ++ A3))).length) (addL G (A0 ++ (A1 ++ (A2 ++ A3)))) w4) := hb4
  clear hb4 HL B3 HC
  go_wp2
  go_ret
  exact ⟨rfl, B4.out⟩
theorem wallOK (F : Nat) (v : Value) (m : Nat) (w0 : World) (own : (d : Nat) → Tr (d + 1) → List (List UInt8)) (hE0 : Enters Tryz.prog F) (hq : WrOK F v m w0 own) : ∀ d, WaOK F v m w0 own d
  | 0 => fun _ _ t => nomatch t
  | d + 1 => wall_step F v m w0 own hE0 hq d (wallOK F v m w0 own hE0 hq d)
end Go.Proofs.YtegdloenakachaaGreatDoor

namespace Go.Proofs.YtegdloenakachaaGreatDoor
open Go.RowKit Go.Shelf Go.Maps
set_option linter.unusedVariables false

/-- Texts that lie outside a block. -/
def TxO (W : World) (m : Nat) (o : Option Addr) (l : List ByteArray) : Prop := l = [] ∨ ∃ g off, o = some ⟨g, off, none⟩ ∧ g ≠ m ∧ g < W.heap.size ∧ ∀ k (h : k < l.length), W.cell? ⟨g, off + k, none⟩ = some (.string l[k])
theorem dl_take {l : List ByteArray} {k : Nat} (h : k < l.length) : dl (l.take (k + 1)) = dl (l.take k) ++ [l[k].data.toList] := by
  unfold dl
  rw [List.take_succ_eq_append_getElem h, List.map_append]; rfl
theorem addL_one {G : List UInt8 → Bool} {l : List (List UInt8)} {x : List UInt8} : (fun y => (y == x) || addL G l y) = addL G (l ++ [x]) := by
  funext y
  rw [Bool.eq_iff_iff]
  simp only [addL, List.mem_append, List.mem_singleton, Bool.or_eq_true, decide_eq_true_eq, beq_iff_eq]
  constructor
  · rintro (h | h | h)
    · exact .inr (.inr h)
    · exact .inl h
    · exact .inr (.inl h)
  · rintro (h | h | h)
    · exact .inr (.inl h)
    · exact .inr (.inr h)
    · exact .inl h
set_option maxRecDepth 100000 in
set_option maxHeartbeats 2000000 in
theorem add_c (l : List ByteArray) (hls : ∀ x ∈ l, x.size ≤ maxLen) (o : Option Addr) (cap m bx c : Nat) (G : List UInt8 → Bool) (w : World) (hx : TxO w m o l) (hb : w.cell? ⟨bx, 0, none⟩ = some (.map (some m))) (hbm : bx ≠ m) (hbl : bx < w.heap.size) (hst : SetIs w m c G) (hc : c + l.length ≤ 4000000) (hln : l.length ≤ 2000000) :
    Calls Tryz.prog 108 #[.slice o l.length cap, .pointer (some ⟨bx, 0, none⟩)] w fun e w' => e = .returned (.tuple #[]) ∧ NmR m w (c + l.length) (addL G (dl l)) w' := by
  obtain ⟨n, hn⟩ : ∃ n, l.length = n := ⟨_, rfl⟩
  have H0 : Hid (l.length = n ∧ (∀ x ∈ l, x.size ≤ maxLen) ∧ TxO w m o l ∧ w.cell? ⟨bx, 0, none⟩ = some (.map (some m)) ∧ bx ≠ m ∧ bx < w.heap.size ∧ c + l.length ≤ 4000000) := ⟨hn, hls, hx, hb, hbm, hbl, hc⟩
  have HS0 : Hid (NmR m w (c + 0) (addL G (dl (l.take 0))) w) := NmR.start hst
  have hni : (n : Int) ≤ 2000000 := by omega
  rw [hn]
  clear hls hx hb hbm hbl hst hc hn hln
  go_enter Tryz.func108, Tryz.ntmps108
  go_wp2
  go_loopw [7] (fun v wr => ∃ k : Nat, v = .int .i64 (k : Int) ∧ Hid (k ≤ n ∧ NmR m w (c + k) (addL G (dl (l.take k))) wr)) (fun v _ => n - (intOf v).toNat)
  case atStart => exact ⟨0, rfl, ⟨Nat.zero_le _, HS0.out⟩⟩
  case round =>
    clear HS0
    obtain ⟨k, rfl, HI⟩ := hrel
    by_cases hk : k < n
    · obtain ⟨i1, i2⟩ := HI.out
      obtain ⟨a1, a2, a3, a4, a5, a6, a7⟩ := H0.out
      have hkl : k < l.length := by rw [a1]; exact hk
      obtain ⟨g, off, rfl, g1, g2, g3⟩ : ∃ g off, o = some ⟨g, off, none⟩ ∧ g ≠ m ∧ g < w.heap.size ∧ ∀ k (h : k < l.length), w.cell? ⟨g, off + k, none⟩ = some (.string l[k]) := by
        rcases a3 with h | h
        · rw [h] at hkl; cases hkl
        · exact h
      have hsz := i2.but.size
      have xk : wr.cell? ⟨g, off + k, none⟩ = some (.string l[k]) := (i2.but.cell g _ g2 g1).trans (g3 k hkl)
      have xb : wr.cell? ⟨bx, 0, none⟩ = some (.map (some m)) := (i2.but.cell bx _ a6 a5).trans a4
      have lg : g < wr.heap.size := by omega
      have lb : bx < wr.heap.size := by omega
      obtain ⟨c1, hc1, hs1⟩ := i2.set
      obtain ⟨W2, hrun, hset, hbut⟩ := hs1.put (by omega) l[k] (a2 _ (List.getElem_mem hkl))
      have HW : Hid (NmR m w (c + (k + 1)) (addL G (dl (l.take (k + 1)))) W2) := by
        refine ⟨i2.but.trans hbut, c1 + 1, by omega, ?_⟩
        rw [dl_take hkl, ← addL_one]
        exact hset
      obtain ⟨xv, hxv⟩ : ∃ xv, l[k] = xv := ⟨_, rfl⟩
      rw [hxv] at xk hrun
      have HK : Hid (k < n) := hk
      have hki : (k : Int) < (n : Int) := by omega
      clear i1 i2 a1 a2 a3 a4 a5 a6 a7 g3 hc1 hs1 hset hbut hxv hkl HI hk hsz H0
      go_wp2
      go_roundw
      case rel => exact ⟨k + 1, by go_num, ⟨HK.out, HW.out⟩⟩
      case measure => have := HK.out; simp [intOf]; omega
    · have hki : ¬ (k : Int) < (n : Int) := by omega
      have hkn : k = n := by have := HI.out.1; omega
      subst hkn
      have HF : Hid (NmR m w (c + k) (addL G (dl l)) wr) := by
        have e : l.take k = l := List.take_of_length_le (by rw [H0.out.1]; exact Nat.le_refl _)
        have h3 := HI.out.2
        rw [e] at h3
        exact h3
      clear hk HI
      go_wp2
      go_end0
      exact ⟨rfl, HF.out⟩
end Go.Proofs.YtegdloenakachaaGreatDoor

namespace Go.Proofs.YtegdloenakachaaGreatDoor
open Go.RowKit Go.Shelf Go.Maps
set_option linter.unusedVariables false

def ownN (d : Nat) (t : Tr (d + 1)) : List (List UInt8) := (if TrN.kind t = 1 then [(TrN.name t).data.toList] else []) ++ (dl (TrN.params t) ++ (dl ((TrN.binds t).map Prod.fst) ++ (TrN.alts t).flatMap (fun a => dl a.1.vars)))
/-- The two boxes. -/
def BxOK (m ab bx : Nat) (W : World) : Prop := ab ≠ m ∧ bx ≠ m ∧ ab < W.heap.size ∧ bx < W.heap.size ∧ W.cell? ⟨ab, 0, none⟩ = some (.func (.func 108) #[] #[.pointer (some ⟨bx, 0, none⟩)]) ∧ W.cell? ⟨bx, 0, none⟩ = some (.map (some m))
theorem BxOK.but {m ab bx : Nat} {W W' : World} (h : BxOK m ab bx W) (hb : But m W W') : BxOK m ab bx W' := by
  obtain ⟨h1, h2, h3, h4, h5, h6⟩ := h
  have := hb.size
  exact ⟨h1, h2, by omega, by omega, (hb.cell ab _ h3 h1).trans h5, (hb.cell bx _ h4 h2).trans h6⟩
theorem NmR.drew {m : Nat} {w W : World} {C : Nat} {G : List UInt8 → Bool} (h : NmR m w C G W) : NmR m w C G W.drew := by
  obtain ⟨⟨h1, h2, h3, h4, h5⟩, c, hc, hs⟩ := h
  exact ⟨⟨h1, h2, h3, h4, h5⟩, c, hc, hs.same rfl⟩
theorem NmR.below {m : Nat} {w W W' : World} {C : Nat} {G : List UInt8 → Bool} (h : NmR m w C G W) (hb : Below W.heap.size W W') : NmR m w C G W' := by
  obtain ⟨h1, c, hc, hs⟩ := h
  have := h1.size
  exact ⟨⟨hb.os.trans h1.os, hb.tape.trans h1.tape, hb.output.trans h1.output, Nat.le_trans h1.size hb.size, fun k hk hn => (hb.block k (by omega)).trans (h1.block k hk hn)⟩, c, hc, hs.same (hb.block _ hs.lt)⟩
/-- One more row of names. -/
theorem add_more {m ab bx c : Nat} {G : List UInt8 → Bool} {w W : World} {A : List (List UInt8)} (hbx : BxOK m ab bx w) (h : NmR m w (c + A.length) (addL G A) W) {l : List ByteArray} (hls : ∀ x ∈ l, x.size ≤ maxLen) {o : Option Addr} {cap : Nat} (hx : TxO W m o l) (hc : c + A.length + l.length ≤ 4000000) (hln : l.length ≤ 2000000) :
    Calls Tryz.prog 108 #[.slice o l.length cap, .pointer (some ⟨bx, 0, none⟩)] W fun e w' => e = .returned (.tuple #[]) ∧ NmR m w (c + (A ++ dl l).length) (addL G (A ++ dl l)) w' := by
  have hb2 := hbx.but h.but
  obtain ⟨a1, a2, a3, a4, a5, a6⟩ := hb2
  obtain ⟨c1, hc1, hs1⟩ := h.set
  refine (add_c l hls o cap m bx c1 (addL G A) W hx a6 a2 a4 hs1 (by omega) hln).mono ?_
  rintro e w' ⟨rfl, h9⟩
  obtain ⟨c2, hc2, hs2⟩ := h9.set
  refine ⟨rfl, h.but.trans h9.but, c2, ?_, by rw [← addL_app]; exact hs2⟩
  rw [List.length_append]
  have : (dl l).length = l.length := by simp [dl]
  omega
theorem dl_len (l : List ByteArray) : (dl l).length = l.length := by simp [dl]
theorem flat_mem_le {α β : Type} (f : α → List β) (l : List α) (k : Nat) (h : k < l.length) : ((l.take k).flatMap f).length + (f l[k]).length ≤ (l.flatMap f).length := by
  have h1 := flat_le f l (k + 1)
  rw [flat_take f l k h, List.length_append] at h1
  exact h1
set_option maxRecDepth 100000 in
set_option maxHeartbeats 4000000 in
/-- Behind the name itself: the names that are bound. -/
theorem names2_rest (m ab bx : Nat) (w : World) (d : Nat) (t : Tr (d + 1)) (B g off c : Nat) (G : List UInt8 → Bool) (A0 : List (List UInt8)) (hbw : BxOK m ab bx w) (hE : ExAt w B (d + 1) t g off) (hw : B ≤ w.heap.size) (hBm : B ≤ m) (hF : FitN t) (hc : c + (A0 ++ (dl (TrN.params t) ++ (dl ((TrN.binds t).map Prod.fst) ++ (TrN.alts t).flatMap (fun a => dl a.1.vars)))).length ≤ 4000000) :
    ∃ o3 c3 o4 c4 o6 c6, w.cell? ⟨g, off + 3, none⟩ = some (.slice o3 (TrN.params t).length c3) ∧ w.cell? ⟨g, off + 4, none⟩ = some (.slice o4 (TrN.binds t).length c4) ∧ w.cell? ⟨g, off + 6, none⟩ = some (.slice o6 (TrN.alts t).length c6) ∧
    (∀ W, NmR m w (c + A0.length) (addL G A0) W → Calls Tryz.prog 108 #[.slice o3 (TrN.params t).length c3, .pointer (some ⟨bx, 0, none⟩)] W fun e w' => e = .returned (.tuple #[]) ∧ NmR m w (c + (A0 ++ dl (TrN.params t)).length) (addL G (A0 ++ dl (TrN.params t))) w') ∧
    (∀ W, NmR m w (c + (A0 ++ dl (TrN.params t)).length) (addL G (A0 ++ dl (TrN.params t))) W → Calls Tryz.prog 42 #[.slice o4 (TrN.binds t).length c4] W fun e w' => ∃ N, e = .returned (.slice (some ⟨N, 0, none⟩) (TrN.binds t).length (TrN.binds t).length) ∧ Below W.heap.size W w' ∧ (Calls Tryz.prog 108 #[.slice (some ⟨N, 0, none⟩) (TrN.binds t).length (TrN.binds t).length, .pointer (some ⟨bx, 0, none⟩)] w' fun e w' => e = .returned (.tuple #[]) ∧ NmR m w (c + (A0 ++ dl (TrN.params t) ++ dl ((TrN.binds t).map Prod.fst)).length) (addL G (A0 ++ dl (TrN.params t) ++ dl ((TrN.binds t).map Prod.fst))) w')) ∧
    (∀ k (hk : k < (TrN.alts t).length), ∃ g6 x6 o7 c7, o6 = some ⟨g6, x6, none⟩ ∧ g6 < B ∧ w.cell? ⟨g6, x6 + k * 11 + 3, none⟩ = some (.slice o7 ((TrN.alts t)[k].1.vars).length c7) ∧ ∀ W, NmR m w (c + (A0 ++ dl (TrN.params t) ++ dl ((TrN.binds t).map Prod.fst) ++ ((TrN.alts t).take k).flatMap (fun a => dl a.1.vars)).length) (addL G (A0 ++ dl (TrN.params t) ++ dl ((TrN.binds t).map Prod.fst) ++ ((TrN.alts t).take k).flatMap (fun a => dl a.1.vars))) W → Calls Tryz.prog 108 #[.slice o7 ((TrN.alts t)[k].1.vars).length c7, .pointer (some ⟨bx, 0, none⟩)] W fun e w' => e = .returned (.tuple #[]) ∧ NmR m w (c + (A0 ++ dl (TrN.params t) ++ dl ((TrN.binds t).map Prod.fst) ++ ((TrN.alts t).take (k + 1)).flatMap (fun a => dl a.1.vars)).length) (addL G (A0 ++ dl (TrN.params t) ++ dl ((TrN.binds t).map Prod.fst) ++ ((TrN.alts t).take (k + 1)).flatMap (fun a => dl a.1.vars))) w') := by
  obtain ⟨hg, h0, h1, h2, ⟨o3, c3, h3, k3⟩, ⟨o4, c4, h4, k4⟩, ⟨o5, c5, h5, k5⟩, ⟨o6, c6, h6, k6⟩⟩ := id hE
  have hcs : ∀ W, But m w W → ∀ g' off', g' < B → W.cell? ⟨g', off', none⟩ = w.cell? ⟨g', off', none⟩ := fun W hW g' off' hg' => hW.cell g' off' (by omega) (by omega)
  have txo : ∀ W, But m w W → ∀ {o : Option Addr} {l : List ByteArray}, TxIn w B o l → TxO W m o l := fun W hW o l h => by
    rcases h with h | ⟨g', off', e, h7, h8⟩
    · exact .inl h
    · exact .inr ⟨g', off', e, by omega, by have := hW.size; omega, fun k hk => (hcs W hW _ _ h7).trans (h8 k hk)⟩
  simp only [List.length_append, dl_len, List.length_map] at hc
  obtain ⟨f1, ⟨f3, f3b⟩, ⟨f4, f4b⟩, f5, f6, f7⟩ := hF
  refine ⟨o3, c3, o4, c4, o6, c6, h3, h4, h6, fun W hW => ?_, fun W hW => ?_, fun k hk => ?_⟩
  · exact add_more hbw hW f3b (txo W hW.but k3) (by omega) f3
  · refine (boundBy_c d (TrN.binds t) o4 c4 B W (k4.mono (fun y g off hg h => ⟨(hcs W hW.but _ _ hg).trans h.1, ExAt.same (hcs W hW.but) d _ _ _ h.2⟩)) (by have := hW.but.size; omega) f4).mono ?_
    rintro e w' ⟨rfl, h7, h8⟩
    refine ⟨_, rfl, h8, ?_⟩
    have hm := hW.set
    obtain ⟨c1, -, hs⟩ := hm
    have hml := hs.lt
    have hsz := h8.size
    have h9 := add_more hbw (hW.below h8) (l := (TrN.binds t).map Prod.fst) (o := some ⟨W.heap.size, 0, none⟩) (cap := (TrN.binds t).length) (fun x hx => by
      obtain ⟨p, hp, rfl⟩ := List.mem_map.1 hx
      exact f4b p hp) (by
        rcases h7 with h7 | ⟨g', off', e, h7, h10⟩
        · exact .inl h7
        · cases e
          by_cases hz : (TrN.binds t).map Prod.fst = []
          · exact .inl hz
          · refine .inr ⟨_, _, rfl, by omega, ?_, h10⟩
            have hz2 : 0 < ((TrN.binds t).map Prod.fst).length := List.length_pos_iff.2 hz
            have := h10 0 hz2
            exact cell_lt this) (by simp only [List.length_append, dl_len, List.length_map]; omega) (by rw [List.length_map]; exact f4)
    rw [List.length_map] at h9
    exact h9
  · rcases k6 with h7 | ⟨g6, x6, e6, h7, h8⟩
    · rw [h7] at hk; cases hk
    · obtain ⟨-, -, -, ⟨o7, c7, h9, h10⟩, -⟩ := h8 k hk
      refine ⟨g6, x6, o7, c7, e6, h7, h9, fun W hW => ?_⟩
      have hf := f7 _ (List.getElem_mem hk)
      have hfm := flat_mem_le (fun a : AltH × Tr d => dl a.1.vars) (TrN.alts t) k hk
      rw [dl_len] at hfm
      rw [flat_take _ _ k hk, ← List.append_assoc]
      exact add_more hbw hW hf.2.2.1 (txo W hW.but h10) (by simp only [List.length_append, dl_len, List.length_map]; omega) hf.2.1
end Go.Proofs.YtegdloenakachaaGreatDoor
