/-
  Of the core, what is wanted here: part 5.
-/
import Derived.Deep.RegionHeld3
import Derived.Test.YtjmpjfggbhongaaDoorP04
namespace Go.Proofs.YtjmpjfggbhongaaDoor
open Go.RowKit Go.Shelf Go.Maps
set_option linter.unusedVariables false
/-- What an expression's own fields may hold, so that they can be asked. -/
def FitN {T : Type} (t : TrN T) : Prop := t.name.size ≤ maxLen ∧ (t.params.length ≤ 2000000 ∧ ∀ x ∈ t.params, x.size ≤ maxLen) ∧ (t.binds.length ≤ 2000000 ∧ ∀ b ∈ t.binds, b.1.size ≤ maxLen) ∧ t.args.length ≤ 2000000 ∧ t.alts.length ≤ 2000000 ∧ ∀ a ∈ t.alts, a.1.name.size ≤ maxLen ∧ a.1.vars.length ≤ 2000000 ∧ (∀ x ∈ a.1.vars, x.size ≤ maxLen) ∧ Lit.wf (.int .i64 a.1.num) = true
def Fit : (d : Nat) → Tr d → Prop
  | 0, t => nomatch t
  | d + 1, t => FitN t ∧ (∀ b ∈ TrN.binds t, Fit d b.2) ∧ (∀ e ∈ TrN.args t, Fit d e) ∧ ∀ a ∈ TrN.alts t, Fit d a.2
/-- Does it hold of an expression and of all that are in it? -/
def allM (q : (d : Nat) → Tr (d + 1) → Bool) : (d : Nat) → Tr d → Bool
  | 0, t => nomatch t
  | d + 1, t => q d t && ((TrN.binds t).all (fun b => allM q d b.2) && ((TrN.args t).all (fun e => allM q d e) && (TrN.alts t).all (fun a => allM q d a.2)))
/-- No row of alternatives is longer than what it may grow to. -/
def CpAt (W : World) (B : Nat) : (d : Nat) → Tr d → Nat → Nat → Prop
  | 0, t, _, _ => nomatch t
  | d + 1, t, g, off => (∀ o n c, W.cell? ⟨g, off + 6, none⟩ = some (.slice o n c) → n ≤ c) ∧
    (∀ g' x' n c, g' < B → W.cell? ⟨g, off + 4, none⟩ = some (.slice (some ⟨g', x', none⟩) n c) → ∀ k (h : k < (TrN.binds t).length), CpAt W B d (TrN.binds t)[k].2 g' (x' + k * 8 + 1)) ∧
    (∀ g' x' n c, g' < B → W.cell? ⟨g, off + 5, none⟩ = some (.slice (some ⟨g', x', none⟩) n c) → ∀ k (h : k < (TrN.args t).length), CpAt W B d (TrN.args t)[k] g' (x' + k * 7)) ∧
    (∀ g' x' n c, g' < B → W.cell? ⟨g, off + 6, none⟩ = some (.slice (some ⟨g', x', none⟩) n c) → ∀ k (h : k < (TrN.alts t).length), CpAt W B d (TrN.alts t)[k].2 g' (x' + k * 11 + 4))
theorem CpAt.same {W W' : World} {B : Nat} (hb : ∀ g off, g < B → W'.cell? ⟨g, off, none⟩ = W.cell? ⟨g, off, none⟩) : ∀ (d : Nat) (t : Tr d) (g off : Nat), g < B → CpAt W B d t g off → CpAt W' B d t g off
  | 0, t, _, _, _, _ => nomatch t
  | d + 1, t, g, off, hg, h => by
    obtain ⟨h6, p4, p5, p6⟩ := h
    refine ⟨fun o n c e => h6 o n c ((hb _ _ hg).symm.trans e), fun g' x' n c hg' e k hk => CpAt.same hb d _ _ _ hg' (p4 g' x' n c hg' ((hb _ _ hg).symm.trans e) k hk), fun g' x' n c hg' e k hk => CpAt.same hb d _ _ _ hg' (p5 g' x' n c hg' ((hb _ _ hg).symm.trans e) k hk), fun g' x' n c hg' e k hk => CpAt.same hb d _ _ _ hg' (p6 g' x' n c hg' ((hb _ _ hg).symm.trans e) k hk)⟩
/-- What a function value, with one argument bound, says of an expression. -/
def AskOK (F : Nat) (v : Value) (w : World) (q : (d : Nat) → Tr (d + 1) → Bool) : Prop := ∀ (W : World), Below w.heap.size w W → ∀ (d : Nat) (t : Tr (d + 1)) (B g off : Nat), ExAt W B (d + 1) t g off → CpAt W B (d + 1) t g off → B ≤ W.heap.size → FitN t → Calls Tryd.prog F #[v, .pointer (some ⟨g, off, none⟩)] W fun e w' => e = .returned (.bool (q d t)) ∧ Below W.heap.size W w'
def AllOK (F : Nat) (v : Value) (w : World) (q : (d : Nat) → Tr (d + 1) → Bool) (d : Nat) : Prop := ∀ (W : World), Below w.heap.size w W → ∀ (t : Tr d) (B g off : Nat), ExAt W B d t g off → CpAt W B d t g off → B ≤ W.heap.size → Fit d t → Calls Tryd.prog 72 #[.pointer (some ⟨g, off, none⟩), .func (.func F) #[v] #[]] W fun e w' => e = .returned (.bool (allM q d t)) ∧ Below W.heap.size W w'
set_option maxRecDepth 100000 in
set_option maxHeartbeats 2000000 in
theorem all_binds_c (F : Nat) (v : Value) (w0 : World) (q : (d : Nat) → Tr (d + 1) → Bool) (d : Nat) (ih : AllOK F v w0 q d) (l : List (ByteArray × Tr d)) (o : Option Addr) (cap B : Nat) (w : World) (hw0 : Below w0.heap.size w0 w) (hl : RowIn B 8 (fun (b : ByteArray × Tr d) g off => w.cell? ⟨g, off, none⟩ = some (.string b.1) ∧ ExAt w B d b.2 g (off + 1)) o l) (hw : B ≤ w.heap.size) (hln : l.length ≤ 2000000) (hf : ∀ x ∈ l, Fit d x.2) (hcp : ∀ k (h : k < l.length) g off, o = some ⟨g, off, none⟩ → g < B → CpAt w B d l[k].2 g (off + k * 8 + 1)) :
    Calls Tryd.prog 54 #[.slice o l.length cap, .func (.func F) #[v] #[]] w fun e w' => e = .returned (.bool (l.all (fun x => allM q d x.2))) ∧ Below w.heap.size w w' := by
  have HA : Hid (∀ k (h : k < l.length), ∃ g off, o = some ⟨g, off, none⟩ ∧ g < B ∧ ∀ (W : World), Below w.heap.size w W → Calls Tryd.prog 72 #[.pointer (some ⟨g, off + k * 8 + 1, none⟩), .func (.func F) #[v] #[]] W fun e w' => e = .returned (.bool (allM q d l[k].2)) ∧ Below w.heap.size w w') := by
    intro k hk
    rcases hl with h0 | ⟨g, off, e, hg, hE⟩
    · subst h0; cases hk
    · refine ⟨g, off, e, hg, fun W hW => ?_⟩
      have hsz := hW.size
      refine (ih W (hw0.trans (hW.mono hw0.size)) l[k].2 B g (off + k * 8 + 1) (ExAt.same (fun g' off' hg' => cell_of_block (hW.block g' (by omega)) off') d _ _ _ ((hE k hk).2)) (CpAt.same (fun g' off' hg' => cell_of_block (hW.block g' (by omega)) off') d _ _ _ hg (hcp k hk g off e hg)) (by omega) (hf _ (List.getElem_mem hk))).mono ?_
      rintro e w' ⟨rfl, h9⟩
      exact ⟨rfl, hW.trans (h9.mono hsz)⟩
  obtain ⟨n, hn⟩ : ∃ n, l.length = n := ⟨_, rfl⟩
  have HN : Hid (l.length = n ∧ B ≤ w.heap.size) := ⟨hn, hw⟩
  rw [hn]
  have hn2 : (n : Int) ≤ 2000000 := by rw [← hn]; omega
  clear hl hw hln hn hf ih hw0 hcp
  go_enter Tryd.func54, Tryd.ntmps54
  go_wp2
  go_loopw [8] (fun i wr => ∃ k : Nat, k ≤ n ∧ i = .int .i64 k ∧ Hid ((l.take k).all (fun x => allM q d x.2) = true ∧ Below w.heap.size w wr)) (fun i _ => n - (intOf i).toNat)
  case atStart => exact ⟨0, Nat.zero_le _, rfl, ⟨rfl, Below.refl _ _⟩⟩
  case round =>
    obtain ⟨k, hk, rfl, hS⟩ := hrel
    by_cases hkn : k < n
    · have hkl : k < l.length := by rw [HN.out.1]; exact hkn
      obtain ⟨g, off, rfl, hg, hC⟩ := HA.out k hkl
      have hgw : g < wr.heap.size := by have := HN.out.2; have := hS.out.2.size; omega
      have HC : Hid (Calls Tryd.prog 72 #[.pointer (some ⟨g, off + k * 8 + 1, none⟩), .func (.func F) #[v] #[]] wr fun e w' => e = .returned (.bool (allM q d l[k].2)) ∧ Below w.heap.size w w') := hC wr hS.out.2
      have HT : Hid (∀ b, allM q d l[k].2 = b → (l.take (k + 1)).all (fun x => allM q d x.2) = b ∧ (b = false → l.all (fun x => allM q d x.2) = false)) := by
        intro b hb
        refine ⟨by rw [List.take_succ_eq_append_getElem hkl, List.all_append, hS.out.1]; simp [hb], fun e => ?_⟩
        subst e
        cases e : l.all (fun x => allM q d x.2) with
        | false => rfl
        | true => have := List.all_eq_true.1 e _ (List.getElem_mem hkl); rw [hb] at this; cases this
      generalize allM q d l[k].2 = R at HC HT
      clear hC hk hkl hS HA
      go_wp2_with (go_at_call 72; fail)
      refine HC.out.mono ?_
      rintro e w2 ⟨rfl, hr⟩
      have HR2 : Hid (Below w.heap.size w w2) := hr
      clear hr HC
      cases R with
      | true =>
        go_wp2
        go_roundw
        case rel => exact ⟨k + 1, hkn, by go_num, ⟨(HT.out true rfl).1, HR2.out⟩⟩
        case measure => simp [intOf]; omega
      | false =>
        go_wp2
        go_ret
        exact ⟨by rw [(HT.out false rfl).2 rfl]; rfl, HR2.out⟩
    · have HF : Hid (l.all (fun x => allM q d x.2) = true ∧ Below w.heap.size w wr) := by
        have e : l.take k = l := List.take_of_length_le (by rw [HN.out.1]; omega)
        have h3 := hS.out
        rw [e] at h3
        exact h3
      clear hS HA
      go_wp2
      go_ret
      exact ⟨by rw [HF.out.1]; rfl, HF.out.2⟩
set_option maxRecDepth 100000 in
set_option maxHeartbeats 2000000 in
theorem all_exprs_c (F : Nat) (v : Value) (w0 : World) (q : (d : Nat) → Tr (d + 1) → Bool) (d : Nat) (ih : AllOK F v w0 q d) (l : List (Tr d)) (o : Option Addr) (cap B : Nat) (w : World) (hw0 : Below w0.heap.size w0 w) (hl : RowIn B 7 (fun (x : Tr d) g off => ExAt w B d x g off) o l) (hw : B ≤ w.heap.size) (hln : l.length ≤ 2000000) (hf : ∀ x ∈ l, Fit d x) (hcp : ∀ k (h : k < l.length) g off, o = some ⟨g, off, none⟩ → g < B → CpAt w B d l[k] g (off + k * 7)) :
    Calls Tryd.prog 93 #[.slice o l.length cap, .func (.func F) #[v] #[]] w fun e w' => e = .returned (.bool (l.all (fun x => allM q d x))) ∧ Below w.heap.size w w' := by
  have HA : Hid (∀ k (h : k < l.length), ∃ g off, o = some ⟨g, off, none⟩ ∧ g < B ∧ ∀ (W : World), Below w.heap.size w W → Calls Tryd.prog 72 #[.pointer (some ⟨g, off + k * 7, none⟩), .func (.func F) #[v] #[]] W fun e w' => e = .returned (.bool (allM q d l[k])) ∧ Below w.heap.size w w') := by
    intro k hk
    rcases hl with h0 | ⟨g, off, e, hg, hE⟩
    · subst h0; cases hk
    · refine ⟨g, off, e, hg, fun W hW => ?_⟩
      have hsz := hW.size
      refine (ih W (hw0.trans (hW.mono hw0.size)) l[k] B g (off + k * 7) (ExAt.same (fun g' off' hg' => cell_of_block (hW.block g' (by omega)) off') d _ _ _ (hE k hk)) (CpAt.same (fun g' off' hg' => cell_of_block (hW.block g' (by omega)) off') d _ _ _ hg (hcp k hk g off e hg)) (by omega) (hf _ (List.getElem_mem hk))).mono ?_
      rintro e w' ⟨rfl, h9⟩
      exact ⟨rfl, hW.trans (h9.mono hsz)⟩
  obtain ⟨n, hn⟩ : ∃ n, l.length = n := ⟨_, rfl⟩
  have HN : Hid (l.length = n ∧ B ≤ w.heap.size) := ⟨hn, hw⟩
  rw [hn]
  have hn2 : (n : Int) ≤ 2000000 := by rw [← hn]; omega
  clear hl hw hln hn hf ih hw0 hcp
  go_enter Tryd.func93, Tryd.ntmps93
  go_wp2
  go_loopw [8] (fun i wr => ∃ k : Nat, k ≤ n ∧ i = .int .i64 k ∧ Hid ((l.take k).all (fun x => allM q d x) = true ∧ Below w.heap.size w wr)) (fun i _ => n - (intOf i).toNat)
  case atStart => exact ⟨0, Nat.zero_le _, rfl, ⟨rfl, Below.refl _ _⟩⟩
  case round =>
    obtain ⟨k, hk, rfl, hS⟩ := hrel
    by_cases hkn : k < n
    · have hkl : k < l.length := by rw [HN.out.1]; exact hkn
      obtain ⟨g, off, rfl, hg, hC⟩ := HA.out k hkl
      have hgw : g < wr.heap.size := by have := HN.out.2; have := hS.out.2.size; omega
      have HC : Hid (Calls Tryd.prog 72 #[.pointer (some ⟨g, off + k * 7, none⟩), .func (.func F) #[v] #[]] wr fun e w' => e = .returned (.bool (allM q d l[k])) ∧ Below w.heap.size w w') := hC wr hS.out.2
      have HT : Hid (∀ b, allM q d l[k] = b → (l.take (k + 1)).all (fun x => allM q d x) = b ∧ (b = false → l.all (fun x => allM q d x) = false)) := by
        intro b hb
        refine ⟨by rw [List.take_succ_eq_append_getElem hkl, List.all_append, hS.out.1]; simp [hb], fun e => ?_⟩
        subst e
        cases e : l.all (fun x => allM q d x) with
        | false => rfl
        | true => have := List.all_eq_true.1 e _ (List.getElem_mem hkl); rw [hb] at this; cases this
      generalize allM q d l[k] = R at HC HT
      clear hC hk hkl hS HA
      go_wp2_with (go_at_call 72; fail)
      refine HC.out.mono ?_
      rintro e w2 ⟨rfl, hr⟩
      have HR2 : Hid (Below w.heap.size w w2) := hr
      clear hr HC
      cases R with
      | true =>
        go_wp2
        go_roundw
        case rel => exact ⟨k + 1, hkn, by go_num, ⟨(HT.out true rfl).1, HR2.out⟩⟩
        case measure => simp [intOf]; omega
      | false =>
        go_wp2
        go_ret
        exact ⟨by rw [(HT.out false rfl).2 rfl]; rfl, HR2.out⟩
    · have HF : Hid (l.all (fun x => allM q d x) = true ∧ Below w.heap.size w wr) := by
        have e : l.take k = l := List.take_of_length_le (by rw [HN.out.1]; omega)
        have h3 := hS.out
        rw [e] at h3
        exact h3
      clear hS HA
      go_wp2
      go_ret
      exact ⟨by rw [HF.out.1]; rfl, HF.out.2⟩
set_option maxRecDepth 100000 in
set_option maxHeartbeats 2000000 in
theorem all_alts_c (F : Nat) (v : Value) (w0 : World) (q : (d : Nat) → Tr (d + 1) → Bool) (d : Nat) (ih : AllOK F v w0 q d) (l : List (AltH × Tr d)) (o : Option Addr) (cap B : Nat) (w : World) (hw0 : Below w0.heap.size w0 w) (hl : RowIn B 11 (AltAt w B d) o l) (hw : B ≤ w.heap.size) (hln : l.length ≤ 2000000) (hf : ∀ x ∈ l, Fit d x.2) (hcp : ∀ k (h : k < l.length) g off, o = some ⟨g, off, none⟩ → g < B → CpAt w B d l[k].2 g (off + k * 11 + 4)) :
    Calls Tryd.prog 94 #[.slice o l.length cap, .func (.func F) #[v] #[]] w fun e w' => e = .returned (.bool (l.all (fun x => allM q d x.2))) ∧ Below w.heap.size w w' := by
  have HA : Hid (∀ k (h : k < l.length), ∃ g off, o = some ⟨g, off, none⟩ ∧ g < B ∧ ∀ (W : World), Below w.heap.size w W → Calls Tryd.prog 72 #[.pointer (some ⟨g, off + k * 11 + 4, none⟩), .func (.func F) #[v] #[]] W fun e w' => e = .returned (.bool (allM q d l[k].2)) ∧ Below w.heap.size w w') := by
    intro k hk
    rcases hl with h0 | ⟨g, off, e, hg, hE⟩
    · subst h0; cases hk
    · refine ⟨g, off, e, hg, fun W hW => ?_⟩
      have hsz := hW.size
      refine (ih W (hw0.trans (hW.mono hw0.size)) l[k].2 B g (off + k * 11 + 4) (ExAt.same (fun g' off' hg' => cell_of_block (hW.block g' (by omega)) off') d _ _ _ ((hE k hk).2.2.2.2)) (CpAt.same (fun g' off' hg' => cell_of_block (hW.block g' (by omega)) off') d _ _ _ hg (hcp k hk g off e hg)) (by omega) (hf _ (List.getElem_mem hk))).mono ?_
      rintro e w' ⟨rfl, h9⟩
      exact ⟨rfl, hW.trans (h9.mono hsz)⟩
  obtain ⟨n, hn⟩ : ∃ n, l.length = n := ⟨_, rfl⟩
  have HN : Hid (l.length = n ∧ B ≤ w.heap.size) := ⟨hn, hw⟩
  rw [hn]
  have hn2 : (n : Int) ≤ 2000000 := by rw [← hn]; omega
  clear hl hw hln hn hf ih hw0 hcp
  go_enter Tryd.func94, Tryd.ntmps94
  go_wp2
  go_loopw [8] (fun i wr => ∃ k : Nat, k ≤ n ∧ i = .int .i64 k ∧ Hid ((l.take k).all (fun x => allM q d x.2) = true ∧ Below w.heap.size w wr)) (fun i _ => n - (intOf i).toNat)
  case atStart => exact ⟨0, Nat.zero_le _, rfl, ⟨rfl, Below.refl _ _⟩⟩
  case round =>
    obtain ⟨k, hk, rfl, hS⟩ := hrel
    by_cases hkn : k < n
    · have hkl : k < l.length := by rw [HN.out.1]; exact hkn
      obtain ⟨g, off, rfl, hg, hC⟩ := HA.out k hkl
      have hgw : g < wr.heap.size := by have := HN.out.2; have := hS.out.2.size; omega
      have HC : Hid (Calls Tryd.prog 72 #[.pointer (some ⟨g, off + k * 11 + 4, none⟩), .func (.func F) #[v] #[]] wr fun e w' => e = .returned (.bool (allM q d l[k].2)) ∧ Below w.heap.size w w') := hC wr hS.out.2
      have HT : Hid (∀ b, allM q d l[k].2 = b → (l.take (k + 1)).all (fun x => allM q d x.2) = b ∧ (b = false → l.all (fun x => allM q d x.2) = false)) := by
        intro b hb
        refine ⟨by rw [List.take_succ_eq_append_getElem hkl, List.all_append, hS.out.1]; simp [hb], fun e => ?_⟩
        subst e
        cases e : l.all (fun x => allM q d x.2) with
        | false => rfl
        | true => have := List.all_eq_true.1 e _ (List.getElem_mem hkl); rw [hb] at this; cases this
      generalize allM q d l[k].2 = R at HC HT
      clear hC hk hkl hS HA
      go_wp2_with (go_at_call 72; fail)
      refine HC.out.mono ?_
      rintro e w2 ⟨rfl, hr⟩
      have HR2 : Hid (Below w.heap.size w w2) := hr
      clear hr HC
      cases R with
      | true =>
        go_wp2
        go_roundw
        case rel => exact ⟨k + 1, hkn, by go_num, ⟨(HT.out true rfl).1, HR2.out⟩⟩
        case measure => simp [intOf]; omega
      | false =>
        go_wp2
        go_ret
        exact ⟨by rw [(HT.out false rfl).2 rfl]; rfl, HR2.out⟩
    · have HF : Hid (l.all (fun x => allM q d x.2) = true ∧ Below w.heap.size w wr) := by
        have e : l.take k = l := List.take_of_length_le (by rw [HN.out.1]; omega)
        have h3 := hS.out
        rw [e] at h3
        exact h3
      clear hS HA
      go_wp2
      go_ret
      exact ⟨by rw [HF.out.1]; rfl, HF.out.2⟩
set_option maxRecDepth 100000 in
set_option maxHeartbeats 2000000 in
theorem all_step (F : Nat) (v : Value) (w0 : World) (q : (d : Nat) → Tr (d + 1) → Bool) (hE0 : Enters Tryd.prog F) (hq : AskOK F v w0 q) (d : Nat) (ih : AllOK F v w0 q d) : AllOK F v w0 q (d + 1) := by
  intro w hw0 t B g off hE hCp hw hF
  have hEn : ∀ (args : Array Value) (w : World), (callFunc F args).run Tryd.prog w = .ok (.enter F args) w := hE0
  have H0 : Hid (∀ W, Below w.heap.size w W → Calls Tryd.prog F #[v, .pointer (some ⟨g, off, none⟩)] W fun e w' => e = .returned (.bool (q d t)) ∧ Below w.heap.size w w') := fun W hW => by
    have hsz := hW.size
    refine (hq W (hw0.trans (hW.mono hw0.size)) d t B g off (ExAt.same (fun g' off' hg' => cell_of_block (hW.block g' (by omega)) off') (d + 1) _ _ _ hE) (CpAt.same (fun g' off' hg' => cell_of_block (hW.block g' (by omega)) off') (d + 1) _ _ _ hE.lt hCp) (by omega) hF.1).mono ?_
    rintro e w' ⟨rfl, h9⟩
    exact ⟨rfl, hW.trans (h9.mono hsz)⟩
  obtain ⟨hg, h0, h1, h2, ⟨o3, c3, h3, k3⟩, ⟨o4, c4, h4, k4⟩, ⟨o5, c5, h5, k5⟩, ⟨o6, c6, h6, k6⟩⟩ := id hE
  have hgw : g < w.heap.size := by omega
  obtain ⟨-, p4, p5, p6⟩ := id hCp
  have HB : Hid (∀ W, Below w.heap.size w W → Calls Tryd.prog 54 #[.slice o4 (TrN.binds t).length c4, .func (.func F) #[v] #[]] W fun e w' => e = .returned (.bool ((TrN.binds t).all (fun x => allM q d x.2))) ∧ Below w.heap.size w w') := fun W hW => by
    have hsz := hW.size
    have hc : ∀ g' off', g' < B → W.cell? ⟨g', off', none⟩ = w.cell? ⟨g', off', none⟩ := fun g' off' hg' => cell_of_block (hW.block g' (by omega)) off'
    refine (all_binds_c F v w0 q d ih _ o4 c4 B W (hw0.trans (hW.mono hw0.size)) (k4.mono (fun y g off hg h => ⟨(hc _ _ hg).trans h.1, ExAt.same hc d _ _ _ h.2⟩)) (by omega) hF.1.2.2.1.1 (fun x hx => hF.2.1 x hx) (fun k hk g' x' e hg' => CpAt.same hc d _ _ _ hg' (p4 g' x' _ _ hg' (by rw [h4, e]) k hk))).mono ?_
    rintro e w' ⟨rfl, h9⟩
    exact ⟨rfl, hW.trans (h9.mono hsz)⟩
  have HX : Hid (∀ W, Below w.heap.size w W → Calls Tryd.prog 93 #[.slice o5 (TrN.args t).length c5, .func (.func F) #[v] #[]] W fun e w' => e = .returned (.bool ((TrN.args t).all (fun x => allM q d x))) ∧ Below w.heap.size w w') := fun W hW => by
    have hsz := hW.size
    have hc : ∀ g' off', g' < B → W.cell? ⟨g', off', none⟩ = w.cell? ⟨g', off', none⟩ := fun g' off' hg' => cell_of_block (hW.block g' (by omega)) off'
    refine (all_exprs_c F v w0 q d ih _ o5 c5 B W (hw0.trans (hW.mono hw0.size)) (k5.mono (fun y g off hg h => ExAt.same hc d _ _ _ h)) (by omega) hF.1.2.2.2.1 (fun x hx => hF.2.2.1 x hx) (fun k hk g' x' e hg' => CpAt.same hc d _ _ _ hg' (p5 g' x' _ _ hg' (by rw [h5, e]) k hk))).mono ?_
    rintro e w' ⟨rfl, h9⟩
    exact ⟨rfl, hW.trans (h9.mono hsz)⟩
  have HL : Hid (∀ W, Below w.heap.size w W → Calls Tryd.prog 94 #[.slice o6 (TrN.alts t).length c6, .func (.func F) #[v] #[]] W fun e w' => e = .returned (.bool ((TrN.alts t).all (fun x => allM q d x.2))) ∧ Below w.heap.size w w') := fun W hW => by
    have hsz := hW.size
    have hc : ∀ g' off', g' < B → W.cell? ⟨g', off', none⟩ = w.cell? ⟨g', off', none⟩ := fun g' off' hg' => cell_of_block (hW.block g' (by omega)) off'
    refine (all_alts_c F v w0 q d ih _ o6 c6 B W (hw0.trans (hW.mono hw0.size)) (k6.mono (fun y g off hg h => AltAt.same hc h)) (by omega) hF.1.2.2.2.2.1 (fun x hx => hF.2.2.2 x hx) (fun k hk g' x' e hg' => CpAt.same hc d _ _ _ hg' (p6 g' x' _ _ hg' (by rw [h6, e]) k hk))).mono ?_
    rintro e w' ⟨rfl, h9⟩
    exact ⟨rfl, hW.trans (h9.mono hsz)⟩
  have HC : Hid (∀ W, Below w.heap.size w W → g < W.heap.size ∧ W.cell? ⟨g, off + 4, none⟩ = some (.slice o4 (TrN.binds t).length c4) ∧ W.cell? ⟨g, off + 5, none⟩ = some (.slice o5 (TrN.args t).length c5) ∧ W.cell? ⟨g, off + 6, none⟩ = some (.slice o6 (TrN.alts t).length c6)) := fun W hW => by
    have hsz := hW.size
    have hc : ∀ off', W.cell? ⟨g, off', none⟩ = w.cell? ⟨g, off', none⟩ := fun off' => cell_of_block (hW.block g (by omega)) off'
    exact ⟨by omega, (hc _).trans h4, (hc _).trans h5, (hc _).trans h6⟩
  have HR : Hid (allM q (d + 1) t = (q d t && ((TrN.binds t).all (fun b => allM q d b.2) && ((TrN.args t).all (fun e => allM q d e) && (TrN.alts t).all (fun a => allM q d a.2))))) := rfl
  generalize q d t = R0 at H0 HR
  generalize (TrN.binds t).all (fun b => allM q d b.2) = R1 at HB HR
  generalize (TrN.args t).all (fun e => allM q d e) = R2 at HX HR
  generalize (TrN.alts t).all (fun a => allM q d a.2) = R3 at HL HR
  generalize (TrN.binds t).length = n4 at HB HC
  generalize (TrN.args t).length = n5 at HX HC
  generalize (TrN.alts t).length = n6 at HL HC
  clear hE hCp p4 p5 p6 hw hF hw0 ih hq k3 k4 k5 k6 h0 h1 h2 h3 h4 h5 h6 hg hE0
  go_enter Tryd.func72, Tryd.ntmps72
  go_wp2_with (go_at_fn F; fail)
  refine (H0.out w (Below.refl _ _)).mono ?_
  rintro e w1 ⟨rfl, hb1⟩
  obtain ⟨g1, d4, d5, d6⟩ := HC.out w1 hb1
  have B1 : Hid (Below w.heap.size w w1) := hb1
  clear hb1 H0
  cases R0 with
  | false =>
    go_wp2
    go_ret
    exact ⟨by rw [HR.out]; rfl, B1.out⟩
  | true =>
    go_wp2_with (go_at_call 54; fail)
    refine (HB.out w1 B1.out).mono ?_
    rintro e w2 ⟨rfl, hb2⟩
    obtain ⟨g2, e4, e5, e6⟩ := HC.out w2 hb2
    have B2 : Hid (Below w.heap.size w w2) := hb2
    clear hb2 HB B1 g1 d4 d5 d6
    cases R1 with
    | false =>
      go_wp2
      go_ret
      exact ⟨by rw [HR.out]; rfl, B2.out⟩
    | true =>
      go_wp2_with (go_at_call 93; fail)
      refine (HX.out w2 B2.out).mono ?_
      rintro e w3 ⟨rfl, hb3⟩
      obtain ⟨g3, f4, f5, f6⟩ := HC.out w3 hb3
      have B3 : Hid (Below w.heap.size w w3) := hb3
      clear hb3 HX B2 g2 e4 e5 e6
      cases R2 with
      | false =>
        go_wp2
        go_ret
        exact ⟨by rw [HR.out]; rfl, B3.out⟩
      | true =>
        go_wp2_with (go_at_call 94; fail)
        refine (HL.out w3 B3.out).mono ?_
        rintro e w4 ⟨rfl, hb4⟩
        have B4 : Hid (Below w.heap.size w w4) := hb4
        clear hb4 HL B3 HC
        cases R3 with
        | false =>
          go_wp2
          go_ret
          exact ⟨by rw [HR.out]; rfl, B4.out⟩
        | true =>
          go_wp2
          go_ret
          exact ⟨by rw [HR.out]; rfl, B4.out⟩
theorem allOK (F : Nat) (v : Value) (w0 : World) (q : (d : Nat) → Tr (d + 1) → Bool) (hE0 : Enters Tryd.prog F) (hq : AskOK F v w0 q) : ∀ d, AllOK F v w0 q d
  | 0 => fun _ _ t => nomatch t
  | d + 1 => all_step F v w0 q hE0 hq d (allOK F v w0 q hE0 hq d)
end Go.Proofs.YtjmpjfggbhongaaDoor
namespace Go.Proofs.YtjmpjfggbhongaaDoor
open Go.RowKit Go.Shelf Go.Maps
set_option linter.unusedVariables false
/-- A constructor: name, parts, type, which of its type's. -/
abbrev CT := ByteArray × Int × ByteArray × Int
def cnV (c : CT) : Value := .agg #[.string c.1, .int .i64 c.2.1, .string c.2.2.1, .int .i64 c.2.2.2]
def cnZ : Value := .agg #[.string ⟨#[]⟩, .int .i64 0, .string ⟨#[]⟩, .int .i64 0]
/-- A constructor in memory. -/
def ConAt (W : World) (c : CT) (g off : Nat) : Prop := W.cell? ⟨g, off, none⟩ = some (.string c.1) ∧ W.cell? ⟨g, off + 1, none⟩ = some (.int .i64 c.2.1) ∧ W.cell? ⟨g, off + 2, none⟩ = some (.string c.2.2.1) ∧ W.cell? ⟨g, off + 3, none⟩ = some (.int .i64 c.2.2.2)
theorem ConAt.same {W W' : World} {c : CT} {g off : Nat} (h : ConAt W c g off) (hb : W'.heap[g]? = W.heap[g]?) : ConAt W' c g off := ⟨(cell_of_block hb _).trans h.1, (cell_of_block hb _).trans h.2.1, (cell_of_block hb _).trans h.2.2.1, (cell_of_block hb _).trans h.2.2.2⟩
/-- The first constructor of a name. -/
def fstC (fs : List CT) (x : List UInt8) : Option CT := fs.find? (fun f => f.1.data.toList == x)
/-- The map holds the first entry of each name. -/
def CtSt (W : World) (b c : Nat) (fs : List CT) : Prop := ∃ D : DataW Value, W.ownsMap Tryd.prog 9 heldElem b c D ∧ Maps.IsMap D ∧ ∀ x : List UInt8, Maps.has D (.string x) = (fstC fs x).isSome ∧ ∀ f, fstC fs x = some f → D.atKey (.string x) (.held cnZ) = .held (cnV f)
theorem CtSt.lt {W : World} {b c : Nat} {fs : List CT} (h : CtSt W b c fs) : b < W.heap.size := by
  obtain ⟨D, h1, _⟩ := h
  exact h1.lt
theorem CtSt.same {W W' : World} {b c : Nat} {fs : List CT} (h : CtSt W b c fs) (hb : W'.heap[b]? = W.heap[b]?) : CtSt W' b c fs := by
  obtain ⟨D, h1, h2⟩ := h
  obtain ⟨es, clock, k1, k2⟩ := h1
  exact ⟨D, ⟨es, clock, by rw [hb]; exact k1, k2⟩, h2⟩
theorem CtSt.below {W W' : World} {b c : Nat} {fs : List CT} (h : CtSt W b c fs) (hb : Below W.heap.size W W') : CtSt W' b c fs := h.same (hb.block b h.lt)
theorem ctSt_new (W : World) : CtSt (W.alloc (.map #[] 0)) W.heap.size 0 [] := ⟨.map [], World.ownsMap_made W Tryd.prog 9 heldElem, ⟨_, rfl⟩, fun x => ⟨rfl, fun f h => by cases h⟩⟩
theorem zeroCn (w : World) : (zeroValue 79).run Tryd.prog w = .ok cnZ w := by kernel_rfl
theorem CtSt.look {W : World} {b c : Nat} {fs : List CT} (h : CtSt W b c fs) (nm : ByteArray) (hs : nm.size ≤ maxLen) :
    (∃ f, fstC fs nm.data.toList = some f ∧ (Instr.lookup 98 (.map (some b)) (.string nm) true).run Tryd.prog W = .ok (.tuple #[cnV f, .bool true]) W) ∨ (fstC fs nm.data.toList = none ∧ (Instr.lookup 98 (.map (some b)) (.string nm) true).run Tryd.prog W = .ok (.tuple #[cnZ, .bool false]) W) := by
  obtain ⟨D, hown, hD, hall⟩ := h
  obtain ⟨v, ps, hrun, hv⟩ := hown.look_ok (string_keyed Tryd.underlying9) Tryd.underlying98 (zeroCn W) (zd := .held cnZ) (zp := []) rfl (key_str nm hs)
  obtain ⟨h1, h2⟩ := hall nm.data.toList
  cases hf : fstC fs nm.data.toList with
  | none =>
    rw [hf] at h1
    right
    refine ⟨rfl, ?_⟩
    rw [Maps.atKey_of_not_has h1] at hv
    rw [heldElem_inv hv, h1] at hrun
    exact hrun
  | some f =>
    rw [hf] at h1
    left
    refine ⟨f, rfl, ?_⟩
    rw [h2 f hf] at hv
    rw [heldElem_inv hv, h1] at hrun
    exact hrun
theorem fstC_app (fs : List CT) (f : CT) (x : List UInt8) : fstC (fs ++ [f]) x = match fstC fs x with | some y => some y | none => if f.1.data.toList == x then some f else none := by
  unfold fstC
  rw [List.find?_append]
  cases List.find? (fun f => f.1.data.toList == x) fs with
  | some y => rfl
  | none =>
    simp only [Option.none_or, List.find?_cons, List.find?_nil]
    cases f.1.data.toList == x <;> rfl
theorem CtSt.skip {W : World} {b c : Nat} {fs : List CT} (h : CtSt W b c fs) (f : CT) (hf : (fstC fs f.1.data.toList).isSome = true) : CtSt W b c (fs ++ [f]) := by
  have e : fstC (fs ++ [f]) = fstC fs := by
    funext x
    rw [fstC_app]
    cases hx : fstC fs x with
    | some y => rfl
    | none =>
      by_cases e : f.1.data.toList = x
      · subst e; rw [hx] at hf; cases hf
      · simp [e]
  unfold CtSt
  rw [e]
  exact h
theorem CtSt.put {W : World} {b c : Nat} {fs : List CT} (h : CtSt W b c fs) (hc : c < 4000000) (f : CT) (hs : f.1.size ≤ maxLen) (hf : fstC fs f.1.data.toList = none) :
    ∃ W', (Instr.mapUpdate 98 (.map (some b)) (.string f.1) (cnV f)).run Tryd.prog W = .ok () W' ∧ CtSt W' b (c + 1) (fs ++ [f]) ∧ But b W W' := by
  obtain ⟨D, hown, hD, hall⟩ := h
  obtain ⟨w', h5, h6, h7⟩ := hown.store (string_keyed Tryd.underlying9) Tryd.underlying98 (by unfold maxLen; omega) (key_str f.1 hs) (d := .held (cnV f)) (ps := []) rfl
  refine ⟨w', h5, ⟨_, h6, ?_, fun x => ?_⟩, ?_⟩
  · obtain ⟨es2, rfl⟩ := hD
    exact ⟨_, rfl⟩
  · by_cases hx : x = f.1.data.toList
    · subst hx
      rw [Maps.has_put_same hD (by constructor), fstC_app, hf]
      simp only [beq_self_eq_true, if_true]
      refine ⟨rfl, fun g hg => ?_⟩
      cases hg
      rw [Maps.atKey_put_same hD (by constructor)]
    · have e : fstC (fs ++ [f]) x = fstC fs x := by
        rw [fstC_app]
        cases fstC fs x with
        | some y => rfl
        | none => rw [if_neg (by simpa using Ne.symm hx)]
      rw [e, Maps.has_put_other (by simpa using hx)]
      refine ⟨(hall x).1, fun g hg => ?_⟩
      rw [Maps.atKey_put_other (by simpa using hx)]
      exact (hall x).2 g hg
  · obtain ⟨es, clock, es', clock', hb, rfl⟩ := h7
    refine ⟨rfl, rfl, rfl, ?_, fun k hk hn => Go.ChangeMaps.heap_setBlock_other hb _ hn⟩
    show _ ≤ (W.heap.setIfInBounds b _).size
    simp
set_option maxRecDepth 100000 in
set_option maxHeartbeats 2000000 in
theorem isChar_c (n : Int) (w : World) : Calls Tryd.prog 76 #[.int .i64 n] w fun e w' => e = .returned (.bool (decide (0 ≤ n) && decide (n ≤ 255))) ∧ w' = w := by
  by_cases h0 : 0 ≤ n
  · by_cases h1 : n ≤ 255
    · go_enter Tryd.func76, Tryd.ntmps76
      go_wp2
      go_ret
      exact ⟨by simp [h0, h1], rfl⟩
    · go_enter Tryd.func76, Tryd.ntmps76
      go_wp2
      go_ret
      exact ⟨by simp [h1], rfl⟩
  · go_enter Tryd.func76, Tryd.ntmps76
    go_wp2
    go_ret
    exact ⟨by rw [decide_eq_false (by omega : ¬ 0 ≤ n)]; rfl, rfl⟩
/-- Has a constructor of that name so many parts? -/
def takesM (fs : List CT) (x : List UInt8) (n : Nat) : Bool := match fstC fs x with | some f => decide (f.2.1 = (n : Int)) | none => false
set_option maxRecDepth 100000 in
set_option maxHeartbeats 2000000 in
theorem takes_c (fs : List CT) (m c n : Nat) (nm : ByteArray) (w : World) (hc : CtSt w m c fs) (hs : nm.size ≤ maxLen) : Calls Tryd.prog 79 #[.map (some m), .string nm, .int .i64 (n : Int)] w fun e w' => e = .returned (.bool (takesM fs nm.data.toList n)) ∧ Below w.heap.size w w' := by
  rcases hc.look nm hs with ⟨f, hf, hr⟩ | ⟨hf, hr⟩
  · have HR : Hid (takesM fs nm.data.toList n = decide (f.2.1 = (n : Int))) := by show _ = _; unfold takesM; rw [hf]
    have HB : Hid (Below w.heap.size w (w.alloc (.cells #[.string f.1, .int .i64 f.2.1, .string f.2.2.1, .int .i64 f.2.2.2] 79))) := below1 w _
    unfold cnV at hr
    clear hf hc hs
    by_cases e : f.2.1 = (n : Int)
    · have e1 : (f.2.1 == (n : Int)) = true := by simpa using e
      have e2 : decide (f.2.1 = (n : Int)) = true := by simpa using e
      go_enter Tryd.func79, Tryd.ntmps79
      go_wp2
      go_ret
      exact ⟨by rw [HR.out, decide_eq_true e]; rfl, below1 w _⟩
    · have e1 : (f.2.1 == (n : Int)) = false := by simpa using e
      have e2 : decide (f.2.1 = (n : Int)) = false := by simpa using e
      go_enter Tryd.func79, Tryd.ntmps79
      go_wp2
      go_ret
      exact ⟨by rw [HR.out, decide_eq_false e]; rfl, below1 w _⟩
  · have HR : Hid (takesM fs nm.data.toList n = false) := by show _ = _; unfold takesM; rw [hf]
    have HB : Hid (Below w.heap.size w (w.alloc (.cells #[.string ⟨#[]⟩, .int .i64 0, .string ⟨#[]⟩, .int .i64 0] 79))) := below1 w _
    unfold cnZ at hr
    clear hf hc hs
    go_enter Tryd.func79, Tryd.ntmps79
    go_wp2
    go_ret
    exact ⟨by rw [HR.out]; rfl, HB.out⟩
end Go.Proofs.YtjmpjfggbhongaaDoor
namespace Go.Proofs.YtjmpjfggbhongaaDoor
open Go.RowKit Go.Shelf Go.Maps
set_option linter.unusedVariables false
set_option maxRecDepth 100000 in
set_option maxHeartbeats 2000000 in
theorem constructorsOf_c (fs : List CT) (o : Option Addr) (cap B : Nat) (w : World) (hl : RowIn B 4 (ConAt w) o fs) (hw : B ≤ w.heap.size) (hn : fs.length ≤ 2000000) (hz : ∀ f ∈ fs, f.1.size ≤ maxLen) :
    Calls Tryd.prog 53 #[.slice o fs.length cap] w fun e w' => ∃ c, e = .returned (.map (some w.heap.size)) ∧ CtSt w' w.heap.size c fs ∧ Below w.heap.size w w' := by
  obtain ⟨n, hln⟩ : ∃ n, fs.length = n := ⟨_, rfl⟩
  have HN : Hid (RowIn B 4 (ConAt w) o fs ∧ B ≤ w.heap.size ∧ fs.length = n ∧ (∀ f ∈ fs, f.1.size ≤ maxLen) ∧ n ≤ 2000000) := ⟨hl, hw, hln, hz, by omega⟩
  have hni : (n : Int) ≤ 2000000 := by omega
  have hmm : ∀ W : World, (Instr.makeMap 98 none).run Tryd.prog W = .ok (.map (some W.heap.size)) (W.alloc (.map #[] 0)) := fun W => rfl
  have H0 : Hid (CtSt (w.alloc (.map #[] 0)) w.heap.size 0 [] ∧ Below w.heap.size w (w.alloc (.map #[] 0))) := ⟨ctSt_new w, below1 w _⟩
  rw [hln]
  clear hl hw hln hn hz
  go_enter Tryd.func53, Tryd.ntmps53
  go_wp2
  go_loopw [11] (fun v wr => ∃ k : Nat, v = .int .i64 (k : Int) ∧ Hid (k ≤ n ∧ (∃ c, c ≤ k ∧ CtSt wr w.heap.size c (fs.take k)) ∧ Below w.heap.size w wr)) (fun v _ => n - (intOf v).toNat)
  case atStart => exact ⟨0, rfl, ⟨Nat.zero_le _, ⟨0, Nat.le_refl _, H0.out.1⟩, H0.out.2⟩⟩
  case round =>
    clear H0 hmm
    obtain ⟨k, rfl, HI⟩ := hrel
    by_cases hk : k < n
    · have hkl : k < fs.length := by rw [HN.out.2.2.1]; exact hk
      obtain ⟨g, off, rfl, hg, hx⟩ : ∃ g off, o = some ⟨g, off, none⟩ ∧ g < B ∧ ConAt w fs[k] g (off + k * 4) := by
        rcases HN.out.1 with h9 | ⟨g, off, e, hg, h9⟩
        · rw [h9] at hkl; exact absurd hkl (Nat.not_lt_zero _)
        · exact ⟨g, off, e, hg, h9 k hkl⟩
      have hgw : g < w.heap.size := by have := HN.out.2.1; omega
      obtain ⟨-, ⟨c, hck, hC⟩, hB⟩ := HI.out
      have hgr : g < wr.heap.size := Nat.lt_of_lt_of_le hgw hB.size
      obtain ⟨x0, x1, x2, x3⟩ := hx.same (hB.block g hgw)
      have hki : (k : Int) < (n : Int) := by omega
      obtain ⟨f, hf⟩ : ∃ f, fs[k] = f := ⟨_, rfl⟩
      have hfm : f ∈ fs := by rw [← hf]; exact List.getElem_mem hkl
      rw [hf] at x0 x1 x2 x3
      have htk : fs.take (k + 1) = fs.take k ++ [f] := by rw [List.take_succ_eq_append_getElem hkl, hf]
      have hsz := HN.out.2.2.2.1 f hfm
      have hC1 : CtSt (wr.alloc (.cells #[.string f.1, .int .i64 f.2.1, .string f.2.2.1, .int .i64 f.2.2.2] 79)) w.heap.size c (fs.take k) := hC.below (below1 wr _)
      have hB1 : Below w.heap.size w (wr.alloc (.cells #[.string f.1, .int .i64 f.2.1, .string f.2.2.1, .int .i64 f.2.2.2] 79)) := hB.trans ((below1 wr _).mono hB.size)
      rcases hC1.look f.1 hsz with ⟨y, hy, hr⟩ | ⟨hy, hr⟩
      · have HE : Hid (∀ o, CtSt ((wr.alloc (.cells #[.string f.1, .int .i64 f.2.1, .string f.2.2.1, .int .i64 f.2.2.2] 79)).alloc o) w.heap.size c (fs.take (k + 1)) ∧ Below w.heap.size w ((wr.alloc (.cells #[.string f.1, .int .i64 f.2.1, .string f.2.2.1, .int .i64 f.2.2.2] 79)).alloc o) ∧ c ≤ k + 1 ∧ k < n) := fun o => ⟨by rw [htk]; exact (hC1.below (below1 _ o)).skip f (by rw [hy]; rfl), hB1.trans ((below1 _ o).mono hB1.size), by omega, hk⟩
        unfold cnV at hr
        clear hk hkl hx hg hgw hC hB hC1 hB1 hy hf hfm htk hsz hck
        go_wp2
        refine ⟨⟨k + 1, by congr 1, ⟨(HE.out (.cells #[] 0)).2.2.2, ⟨c, (HE.out (.cells #[] 0)).2.2.1, (HE.out _).1⟩, (HE.out _).2.1⟩⟩, ?_⟩
        show n - ((k : Int) + 1).toNat < n - ((k : Int)).toNat
        have := (HE.out (.cells #[] 0)).2.2.2; omega
      · obtain ⟨W2, hr2, hp2, hg2⟩ := (hC1.below (below1 _ (.cells #[.string ⟨#[]⟩, .int .i64 0, .string ⟨#[]⟩, .int .i64 0] 79))).put (by have := HN.out.2.2.2.2; omega) f hsz hy
        have HE : Hid (CtSt W2 w.heap.size (c + 1) (fs.take (k + 1)) ∧ Below w.heap.size w W2 ∧ c + 1 ≤ k + 1 ∧ k < n) := by
          have hB2 : Below w.heap.size w ((wr.alloc (.cells #[.string f.1, .int .i64 f.2.1, .string f.2.2.1, .int .i64 f.2.2.2] 79)).alloc (.cells #[.string ⟨#[]⟩, .int .i64 0, .string ⟨#[]⟩, .int .i64 0] 79)) := hB1.trans ((below1 _ _).mono hB1.size)
          refine ⟨by rw [htk]; exact hp2, ⟨hg2.os.trans hB2.os, hg2.tape.trans hB2.tape, hg2.output.trans hB2.output, Nat.le_trans hB2.size hg2.size, fun j hj => (hg2.block j (Nat.lt_of_lt_of_le hj hB2.size) (by omega)).trans (hB2.block j hj)⟩, by omega, hk⟩
        unfold cnZ at hr
        unfold cnV at hr2
        clear hk hkl hx hg hgw hC hB hC1 hB1 hy hf hfm htk hsz hck hp2 hg2
        go_wp2
        refine ⟨⟨k + 1, by congr 1, ⟨HE.out.2.2.2, ⟨c + 1, HE.out.2.2.1, HE.out.1⟩, HE.out.2.1⟩⟩, ?_⟩
        show n - ((k : Int) + 1).toNat < n - ((k : Int)).toNat
        have := HE.out.2.2.2; omega
    · have hki : ¬ (k : Int) < (n : Int) := by omega
      have HX : Hid (∃ c, CtSt wr w.heap.size c fs ∧ Below w.heap.size w wr) := by
        obtain ⟨-, ⟨c, hck, hC⟩, hB⟩ := HI.out
        rw [List.take_of_length_le (by have := HN.out.2.2.1; omega)] at hC
        exact ⟨c, hC, hB⟩
      clear hk HI
      go_wp2
      go_ret
      obtain ⟨c, h1, h2⟩ := HX.out
      exact ⟨rfl, ⟨c, h1⟩, h2⟩
end Go.Proofs.YtjmpjfggbhongaaDoor
namespace Go.Proofs.YtjmpjfggbhongaaDoor
open Go.RowKit Go.Shelf Go.Maps
set_option linter.unusedVariables false
theorem drew_below (w : World) : Below w.heap.size w w.drew := ⟨rfl, rfl, rfl, Nat.le_refl _, fun _ _ => rfl⟩
theorem dqb (w : World) (n : Nat) : Below w.heap.size w (w.drewN n) := ⟨rfl, rfl, rfl, Nat.le_refl _, fun _ _ => rfl⟩
/-- Has an alternative as many names as its constructor has parts? -/
def altShB (fs : List CT) (a : AltH) : Bool := !(decide (a.kind = 1)) || takesM fs a.name.data.toList a.vars.length
/-- Has an expression as many parts as its constructor or primitive? -/
def shN (fs : List CT) {T : Type} (t : TrN T) : Bool := if t.kind = 4 then takesM fs t.name.data.toList t.args.length else if t.kind = 9 then decide (arM t.name.toList = (t.args.length : Int)) else t.alts.all (fun a => altShB fs a.1)
set_option maxRecDepth 100000 in
set_option maxHeartbeats 4000000 in
theorem shaped_con (fs : List CT) (m c : Nat) (d : Nat) (t : Tr (d + 1)) (B g off : Nat) (w : World) (hC : CtSt w m c fs) (hE : ExAt w B (d + 1) t g off) (hw : B ≤ w.heap.size) (hF : FitN t) (hk : TrN.kind t = 4) :
    Calls Tryd.prog 56 #[.map (some m), .pointer (some ⟨g, off, none⟩)] w fun e w' => e = .returned (.bool (shN fs t)) ∧ Below w.heap.size w w' := by
  have HR : Hid (shN fs t = takesM fs (TrN.name t).data.toList (TrN.args t).length) := by show _ = _; unfold shN; rw [if_pos hk]
  have HT : Hid (Calls Tryd.prog 79 #[.map (some m), .string (TrN.name t), .int .i64 ((TrN.args t).length : Int)] w.drew fun e w' => e = .returned (.bool (takesM fs (TrN.name t).data.toList (TrN.args t).length)) ∧ Below w.heap.size w w') := by
    refine (takes_c fs m c _ _ w.drew (hC.below (drew_below w)) hF.1).mono ?_
    rintro e w' ⟨rfl, h9⟩
    exact ⟨rfl, (drew_below w).trans h9⟩
  obtain ⟨hg, h0, h1, h2, ⟨o3, c3, h3, k3⟩, ⟨o4, c4, h4, k4⟩, ⟨o5, c5, h5, k5⟩, ⟨o6, c6, h6, k6⟩⟩ := hE
  have hgw : g < w.heap.size := by omega
  have hln : ((TrN.args t).length : Int) ≤ 2000000 := by have := hF.2.2.2.1; omega
  rw [hk] at h0
  generalize (TrN.args t).length = n at HR HT h5 hln
  generalize TrN.name t = nm at HR HT h1
  generalize takesM fs nm.data.toList n = R at HR HT
  clear hC hw hF hk k3 k4 k5 k6 h2 h3 h4 h6 hg
  go_enter Tryd.func56, Tryd.ntmps56
  go_wp2
  go_region_with ((go_at_call 79; (with_reducible refine HT.out.mono ?_); rintro e w1 ⟨rfl, hk1⟩; have HK1 : Hid (Below w.heap.size w w1) := hk1; clear hk1))
  all_goals
    go_wp2
    go_ret
    exact ⟨by rw [HR.out]; rfl, HK1.out⟩
set_option maxRecDepth 100000 in
set_option maxHeartbeats 4000000 in
theorem shaped_prim (fs : List CT) (m : Nat) (d : Nat) (t : Tr (d + 1)) (B g off : Nat) (w : World) (hE : ExAt w B (d + 1) t g off) (hw : B ≤ w.heap.size) (hF : FitN t) (hk : TrN.kind t = 9) :
    Calls Tryd.prog 56 #[.map (some m), .pointer (some ⟨g, off, none⟩)] w fun e w' => e = .returned (.bool (shN fs t)) ∧ Below w.heap.size w w' := by
  have HR : Hid (shN fs t = decide (arM (TrN.name t).toList = ((TrN.args t).length : Int))) := by show _ = _; unfold shN; rw [if_neg (by rw [hk]; decide), if_pos hk]
  obtain ⟨hg, h0, h1, h2, ⟨o3, c3, h3, k3⟩, ⟨o4, c4, h4, k4⟩, ⟨o5, c5, h5, k5⟩, ⟨o6, c6, h6, k6⟩⟩ := hE
  have hgw : g < w.heap.size := by omega
  have hln : ((TrN.args t).length : Int) ≤ 2000000 := by have := hF.2.2.2.1; omega
  rw [hk] at h0
  generalize (TrN.args t).length = n at HR h5 hln
  generalize TrN.name t = nm at HR h1
  have HA : Hid (∀ W, Calls Tryd.prog 80 #[.string nm] W fun e w' => e = .returned (.int .i64 (arM nm.toList)) ∧ w' = W) := fun W => arity_c nm W
  generalize arM nm.toList = a at HR HA
  clear hw hF hk k3 k4 k5 k6 h2 h3 h4 h6 hg
  by_cases e : a = (n : Int)
  · have e1 : (a == (n : Int)) = true := by simpa using e
    have e2 : decide (a = (n : Int)) = true := by simpa using e
    have HR2 : Hid (shN fs t = true) := HR.out.trans e2
    clear e HR
    go_enter Tryd.func56, Tryd.ntmps56
    go_wp2
    go_big_quiet ((go_at_call 80; exact Calls.quiet_of_same (HA.out _)))
    go_wp2
    go_ret
    exact ⟨by rw [HR2.out]; rfl, dqb w _⟩
  · have e1 : (a == (n : Int)) = false := by simpa using e
    have e2 : decide (a = (n : Int)) = false := by simpa using e
    have HR2 : Hid (shN fs t = false) := HR.out.trans e2
    clear e HR
    go_enter Tryd.func56, Tryd.ntmps56
    go_wp2
    go_big_quiet ((go_at_call 80; exact Calls.quiet_of_same (HA.out _)))
    go_wp2
    go_ret
    exact ⟨by rw [HR2.out]; rfl, dqb w _⟩
set_option maxRecDepth 100000 in
set_option maxHeartbeats 4000000 in
theorem shaped_alts (fs : List CT) (m c : Nat) (d : Nat) (t : Tr (d + 1)) (B g off : Nat) (w : World) (hC : CtSt w m c fs) (hE : ExAt w B (d + 1) t g off) (hw : B ≤ w.heap.size) (hF : FitN t) (hk4 : TrN.kind t ≠ 4) (hk9 : TrN.kind t ≠ 9) :
    Calls Tryd.prog 56 #[.map (some m), .pointer (some ⟨g, off, none⟩)] w fun e w' => e = .returned (.bool (shN fs t)) ∧ Below w.heap.size w w' := by
  have HR : Hid (shN fs t = (TrN.alts t).all (fun a => altShB fs a.1)) := by show _ = _; unfold shN; rw [if_neg hk4, if_neg hk9]
  have e4 : (TrN.kind t == 4) = false := by simpa using hk4
  have e9 : (TrN.kind t == 9) = false := by simpa using hk9
  obtain ⟨hg, h0, h1, h2, ⟨o3, c3, h3, k3⟩, ⟨o4, c4, h4, k4⟩, ⟨o5, c5, h5, k5⟩, ⟨o6, c6, h6, k6⟩⟩ := hE
  have hgw : g < w.heap.size := by omega
  obtain ⟨n, hn⟩ : ∃ n, (TrN.alts t).length = n := ⟨_, rfl⟩
  obtain ⟨l, hl⟩ : ∃ l, TrN.alts t = l := ⟨_, rfl⟩
  have hni : (n : Int) ≤ 2000000 := by have := hF.2.2.2.2.1; omega
  have HL : Hid (l.length = n ∧ RowIn B 11 (AltAt w B d) o6 l ∧ CtSt w m c fs ∧ B ≤ w.heap.size ∧ ∀ a ∈ l, a.1.name.size ≤ maxLen ∧ a.1.vars.length ≤ 2000000) := ⟨by rw [← hl]; exact hn, by rw [← hl]; exact k6, hC, hw, by rw [← hl]; exact fun a ha => ⟨(hF.2.2.2.2.2 a ha).1, (hF.2.2.2.2.2 a ha).2.1⟩⟩
  rw [hl] at HR
  rw [hn] at h6
  have H6 : Hid (w.cell? ⟨g, off + 6, none⟩ = some (.slice o6 n c6) ∧ g < w.heap.size) := ⟨h6, hgw⟩
  generalize TrN.kind t = kd at e4 e9 h0
  clear hC hw hF k3 k4 k5 k6 h1 h2 h3 h4 h5 hg hk4 hk9 hn hl
  go_enter Tryd.func56, Tryd.ntmps56
  go_wp2
  go_loopw [42] (fun i wr => ∃ k : Nat, k ≤ n ∧ i = .int .i64 k ∧ Hid ((l.take k).all (fun a => altShB fs a.1) = true ∧ Below w.heap.size w wr)) (fun i _ => n - (intOf i).toNat)
  case atStart => exact ⟨0, Nat.zero_le _, rfl, ⟨rfl, Below.refl _ _⟩⟩
  case round =>
    obtain ⟨k, hk, rfl, hS⟩ := hrel
    clear h0 h6 hgw
    have h6r : wr.cell? ⟨g, off + 6, none⟩ = some (.slice o6 n c6) := (hS.out.2.cell (p := ⟨g, off + 6, none⟩) H6.out.2).trans H6.out.1
    have hgr : g < wr.heap.size := Nat.lt_of_lt_of_le H6.out.2 hS.out.2.size
    by_cases hkn : k < n
    · have hkl : k < l.length := by rw [HL.out.1]; exact hkn
      obtain ⟨ga, oa, rfl, hga, hA⟩ : ∃ g off, o6 = some ⟨g, off, none⟩ ∧ g < B ∧ AltAt w B d l[k] g (off + k * 11) := by
        rcases HL.out.2.1 with h9 | ⟨g, off, e, hg, h9⟩
        · rw [h9] at hkl; exact absurd hkl (Nat.not_lt_zero _)
        · exact ⟨g, off, e, hg, h9 k hkl⟩
      have hgaw : ga < w.heap.size := by have := HL.out.2.2.2.1; omega
      have hgar : ga < wr.heap.size := Nat.lt_of_lt_of_le hgaw hS.out.2.size
      have hcl : ∀ j, wr.cell? ⟨ga, j, none⟩ = w.cell? ⟨ga, j, none⟩ := fun j => cell_of_block (hS.out.2.block ga hgaw) j
      obtain ⟨a0, a1, a2, ⟨oo, cc, a3, -⟩, -⟩ := hA
      have b0 := (hcl _).trans a0
      have b1 := (hcl _).trans a1
      have b3 := (hcl _).trans a3
      have hfit := HL.out.2.2.2.2 _ (List.getElem_mem hkl)
      have HT : Hid (∀ b, altShB fs l[k].1 = b → (l.take (k + 1)).all (fun a => altShB fs a.1) = b ∧ (b = false → l.all (fun a => altShB fs a.1) = false)) := by
        intro b hb
        refine ⟨by rw [List.take_succ_eq_append_getElem hkl, List.all_append, hS.out.1]; simp [hb], fun e => ?_⟩
        subst e
        cases e : l.all (fun a => altShB fs a.1) with
        | false => rfl
        | true => have := List.all_eq_true.1 e _ (List.getElem_mem hkl); rw [hb] at this; cases this
      have HW : Hid (Below w.heap.size w wr ∧ k < n) := ⟨hS.out.2, hkn⟩
      have hvi : ((l[k].1.vars).length : Int) ≤ 2000000 := by have := hfit.2; omega
      have HTk : Hid (Calls Tryd.prog 79 #[.map (some m), .string l[k].1.name, .int .i64 ((l[k].1.vars).length : Int)] wr.drew fun e w' => e = .returned (.bool (takesM fs l[k].1.name.data.toList (l[k].1.vars).length)) ∧ Below w.heap.size w w' ∧ ∀ j, w'.cell? ⟨ga, j, none⟩ = wr.cell? ⟨ga, j, none⟩) := by
        refine (takes_c fs m c _ _ wr.drew ((HL.out.2.2.1.same (hS.out.2.block m HL.out.2.2.1.lt)).below (drew_below wr)) hfit.1).mono ?_
        rintro e w' ⟨rfl, h9⟩
        exact ⟨rfl, hS.out.2.trans (((drew_below wr).trans h9).mono hS.out.2.size), fun j => cell_of_block (((drew_below wr).trans h9).block ga hgar) j⟩
      by_cases hk1 : l[k].1.kind = 1
      · have HV : Hid (altShB fs l[k].1 = takesM fs l[k].1.name.data.toList (l[k].1.vars).length) := by show _ = _; unfold altShB; rw [hk1]; rfl
        rw [hk1] at b0
        generalize altShB fs l[k].1 = R at HT HV
        generalize takesM fs l[k].1.name.data.toList (l[k].1.vars).length = R2 at HTk HV
        obtain rfl : R = R2 := HV.out
        generalize l[k].1.name = nm at b1 HTk
        generalize (l[k].1.vars).length = nv at b3 HTk hvi
        clear HV hk1 hfit a0 a1 a2 a3 hcl hkl hS hk HL hga hgaw
        have hki : (k : Int) < (n : Int) := by omega
        have HS0 : (wr.cell? ⟨ga, oa + k * 11, none⟩ = some (.int .i64 1) ∧ wr.cell? ⟨ga, oa + k * 11 + 1, none⟩ = some (.string nm) ∧ wr.cell? ⟨ga, oa + k * 11 + 3, none⟩ = some (.slice oo nv cc)) := ⟨b0, b1, b3⟩
        have hm : Tryd.prog.follows Departure.mixedOrders = true := by kernel_rfl
        cases R with
        | true =>
          go_wp2
          go_region_held3 (fun X : World => X.cell? ⟨ga, oa + k * 11, none⟩ = some (.int .i64 1) ∧ X.cell? ⟨ga, oa + k * 11 + 1, none⟩ = some (.string nm) ∧ X.cell? ⟨ga, oa + k * 11 + 3, none⟩ = some (.slice oo nv cc))
            (first | with_reducible exact HS0 | with_reducible exact HS1 | go_keep)
            ((go_at_call 79; (with_reducible refine HTk.out.mono ?_); rintro e w1 ⟨rfl, hk1, hk2⟩; have HK1 : Hid (Below w.heap.size w w1) := hk1; have HS1 : (w1.cell? ⟨ga, oa + k * 11, none⟩ = some (.int .i64 1) ∧ w1.cell? ⟨ga, oa + k * 11 + 1, none⟩ = some (.string nm) ∧ w1.cell? ⟨ga, oa + k * 11 + 3, none⟩ = some (.slice oo nv cc)) := ⟨(hk2 _).trans b0, (hk2 _).trans b1, (hk2 _).trans b3⟩; clear hk1 hk2))
          all_goals
            go_wp2
            go_roundw
            case rel => exact ⟨k + 1, HW.out.2, by go_num, ⟨(HT.out true rfl).1, HK1.out⟩⟩
            case measure => simp [intOf]; omega
        | false =>
          go_wp2
          go_region_held3 (fun X : World => X.cell? ⟨ga, oa + k * 11, none⟩ = some (.int .i64 1) ∧ X.cell? ⟨ga, oa + k * 11 + 1, none⟩ = some (.string nm) ∧ X.cell? ⟨ga, oa + k * 11 + 3, none⟩ = some (.slice oo nv cc))
            (first | with_reducible exact HS0 | with_reducible exact HS1 | go_keep)
            ((go_at_call 79; (with_reducible refine HTk.out.mono ?_); rintro e w1 ⟨rfl, hk1, hk2⟩; have HK1 : Hid (Below w.heap.size w w1) := hk1; have HS1 : (w1.cell? ⟨ga, oa + k * 11, none⟩ = some (.int .i64 1) ∧ w1.cell? ⟨ga, oa + k * 11 + 1, none⟩ = some (.string nm) ∧ w1.cell? ⟨ga, oa + k * 11 + 3, none⟩ = some (.slice oo nv cc)) := ⟨(hk2 _).trans b0, (hk2 _).trans b1, (hk2 _).trans b3⟩; clear hk1 hk2))
          all_goals
            go_wp2
            go_ret
            exact ⟨by rw [HR.out, (HT.out false rfl).2 rfl]; rfl, HK1.out⟩
      · have HV : Hid (altShB fs l[k].1 = true) := by show _ = _; unfold altShB; rw [decide_eq_false hk1]; rfl
        have ek : (l[k].1.kind == 1) = false := by simpa using hk1
        generalize altShB fs l[k].1 = R at HT HV
        obtain rfl : R = true := HV.out
        generalize l[k].1.kind = kk at b0 ek
        generalize l[k].1.name = nm at b1
        generalize (l[k].1.vars).length = nv at b3 hvi
        clear HV hk1 hfit a0 a1 a2 a3 hcl hkl hS hk HL hga hgaw HTk
        have hki : (k : Int) < (n : Int) := by omega
        go_wp2
        go_big_quiet (fail)
        go_wp2
        go_roundw
        case rel => exact ⟨k + 1, HW.out.2, by go_num, ⟨(HT.out true rfl).1, HW.out.1.trans ((dqb wr _).mono HW.out.1.size)⟩⟩
        case measure => simp [intOf]; omega
    · have HFn : Hid (l.all (fun a => altShB fs a.1) = true ∧ Below w.heap.size w wr) := by
        have e : l.take k = l := List.take_of_length_le (by rw [HL.out.1]; omega)
        have h3 := hS.out
        rw [e] at h3
        exact h3
      clear hS HL
      go_wp2
      go_ret
      exact ⟨by rw [HR.out, HFn.out.1]; rfl, HFn.out.2⟩
theorem shaped_c (fs : List CT) (m c : Nat) (d : Nat) (t : Tr (d + 1)) (B g off : Nat) (w : World) (hC : CtSt w m c fs) (hE : ExAt w B (d + 1) t g off) (hw : B ≤ w.heap.size) (hF : FitN t) :
    Calls Tryd.prog 56 #[.map (some m), .pointer (some ⟨g, off, none⟩)] w fun e w' => e = .returned (.bool (shN fs t)) ∧ Below w.heap.size w w' := by
  by_cases h4 : TrN.kind t = 4
  · exact shaped_con fs m c d t B g off w hC hE hw hF h4
  · by_cases h9 : TrN.kind t = 9
    · exact shaped_prim fs m d t B g off w hE hw hF h9
    · exact shaped_alts fs m c d t B g off w hC hE hw hF h4 h9
end Go.Proofs.YtjmpjfggbhongaaDoor
namespace Go.Proofs.YtjmpjfggbhongaaDoor
open Go.RowKit Go.Shelf Go.Maps
set_option linter.unusedVariables false
/-- May an alternative's own fields be? -/
def altB (a : AltH) : Bool := if a.kind = 1 then nameB a.name.data.toList && (decide (a.num = 0) && areB a.vars) else if a.kind = 2 then a.name.toList.isEmpty && decide (a.vars.length = 0) else if a.kind = 3 then a.name.toList.isEmpty && (decide (a.vars.length = 0) && (decide (0 ≤ a.num) && decide (a.num ≤ 255))) else if a.kind = 4 then a.name.toList.isEmpty && (decide (a.num = 0) && (decide (a.vars.length ≤ 1) && areB a.vars)) else false
set_option maxRecDepth 100000 in
set_option maxHeartbeats 4000000 in
theorem mayBeAlt_c (a : AltH) (B g off : Nat) (w : World) (ov : Option Addr) (cv : Nat) (hgw : g < w.heap.size) (h0 : w.cell? ⟨g, off, none⟩ = some (.int .i64 a.kind)) (h1 : w.cell? ⟨g, off + 1, none⟩ = some (.string a.name)) (h2 : w.cell? ⟨g, off + 2, none⟩ = some (.int .i64 a.num)) (h3 : w.cell? ⟨g, off + 3, none⟩ = some (.slice ov a.vars.length cv)) (hv : TxIn w B ov a.vars) (hw : B ≤ w.heap.size) (hF : a.name.size ≤ maxLen ∧ a.vars.length ≤ 2000000 ∧ ∀ x ∈ a.vars, x.size ≤ maxLen) :
    Calls Tryd.prog 96 #[.pointer (some ⟨g, off, none⟩)] w fun e w' => e = .returned (.bool (altB a)) ∧ Below w.heap.size w w' := by
  obtain ⟨kd, nm, num, vs⟩ := a
  simp only at h0 h1 h2 h3 hv hF
  have HI : Hid (Calls Tryd.prog 75 #[.string nm] w fun e w' => e = .returned (.bool (nameB nm.data.toList)) ∧ w' = w) := isName_c nm (by have := hF.1; unfold maxLen at this; omega) w
  have HA : Hid (Calls Tryd.prog 77 #[.slice ov vs.length cv] w fun e w' => e = .returned (.bool (areB vs)) ∧ Below w.heap.size w w') := areNames_c vs ov cv B w hv hw hF.2.1 hF.2.2
  have HC : Hid (Calls Tryd.prog 76 #[.int .i64 num] w fun e w' => e = .returned (.bool (decide (0 ≤ num) && decide (num ≤ 255))) ∧ w' = w) := isChar_c num w
  have hvi : (vs.length : Int) ≤ 2000000 := by have := hF.2.1; omega
  have HR : Hid (altB ⟨kd, nm, num, vs⟩ = if kd = 1 then nameB nm.data.toList && (decide (num = 0) && areB vs) else if kd = 2 then nm.toList.isEmpty && decide (vs.length = 0) else if kd = 3 then nm.toList.isEmpty && (decide (vs.length = 0) && (decide (0 ≤ num) && decide (num ≤ 255))) else if kd = 4 then nm.toList.isEmpty && (decide (num = 0) && (decide (vs.length ≤ 1) && areB vs)) else false) := rfl
  generalize altB ⟨kd, nm, num, vs⟩ = R at HR ⊢
  generalize areB vs = RA at HA HR
  generalize nameB nm.data.toList = RI at HI HR
  generalize (decide (0 ≤ num) && decide (num ≤ 255)) = RC at HC HR
  generalize vs.length = n at h3 HA hvi HR
  clear hv hw hF
  by_cases k1 : kd = 1
  · subst k1
    have HR2 : Hid (R = (RI && (decide (num = 0) && RA))) := HR.out
    clear HR HC
    go_enter Tryd.func96, Tryd.ntmps96
    go_wp2_with (go_at_call 75; fail)
    refine HI.out.mono ?_
    rintro e w1 ⟨rfl, hw1⟩
    have hw2 := hw1.symm
    subst hw2
    clear hw1 HI
    cases RI with
    | false =>
      go_wp2
      go_ret
      exact ⟨by rw [HR2.out]; rfl, Below.refl _ _⟩
    | true =>
      by_cases hn : num = 0
      · subst hn
        go_wp2_with (go_at_call 77; fail)
        refine HA.out.mono ?_
        rintro e w2 ⟨rfl, hb⟩
        have HB : Hid (Below w.heap.size w w2) := hb
        clear hb
        go_wp2
        go_ret
        exact ⟨by rw [HR2.out]; rfl, HB.out⟩
      · have e1 : (num == 0) = false := by simpa using hn
        have HR3 : Hid (R = false) := by show _ = _; rw [HR2.out, decide_eq_false hn]; rfl
        clear hn
        go_wp2
        go_ret
        exact ⟨by rw [HR3.out]; rfl, Below.refl _ _⟩
  have d1 : (kd == 1) = false := by simpa using k1
  by_cases k2 : kd = 2
  · subst k2
    have HR2 : Hid (R = (nm.toList.isEmpty && decide (n = 0))) := HR.out
    clear HR HC HA HI k1 d1
    cases hE : nm.toList.isEmpty with
    | false =>
      have HR3 : Hid (R = false) := by show _ = _; rw [HR2.out, hE]; rfl
      clear HR2
      go_enter Tryd.func96, Tryd.ntmps96
      go_wp2
      go_ret
      exact ⟨by rw [HR3.out]; rfl, Below.refl _ _⟩
    | true =>
      by_cases hn : n = 0
      · subst hn
        have HR3 : Hid (R = true) := by show _ = _; rw [HR2.out, hE]; rfl
        clear HR2
        go_enter Tryd.func96, Tryd.ntmps96
        go_wp2
        go_ret
        exact ⟨by rw [HR3.out]; rfl, Below.refl _ _⟩
      · have e1 : ((n : Int) == 0) = false := by simpa using hn
        have e2 : decide (n = 0) = false := by simpa using hn
        have HR3 : Hid (R = false) := by show _ = _; rw [HR2.out, hE, e2]; rfl
        clear HR2
        go_enter Tryd.func96, Tryd.ntmps96
        go_wp2
        go_ret
        exact ⟨by rw [HR3.out]; rfl, Below.refl _ _⟩
  have d2 : (kd == 2) = false := by simpa using k2
  by_cases k3 : kd = 3
  · subst k3
    have HR2 : Hid (R = (nm.toList.isEmpty && (decide (n = 0) && RC))) := HR.out
    clear HR HA HI k1 d1 k2 d2
    cases hE : nm.toList.isEmpty with
    | false =>
      have HR3 : Hid (R = false) := by show _ = _; rw [HR2.out, hE]; rfl
      clear HR2
      go_enter Tryd.func96, Tryd.ntmps96
      go_wp2
      go_ret
      exact ⟨by rw [HR3.out]; rfl, Below.refl _ _⟩
    | true =>
      by_cases hn : n = 0
      · subst hn
        have HR3 : Hid (R = RC) := by show _ = _; rw [HR2.out, hE]; rfl
        clear HR2
        go_enter Tryd.func96, Tryd.ntmps96
        go_wp2_with (go_at_call 76; fail)
        refine HC.out.mono ?_
        rintro e w1 ⟨rfl, hw1⟩
        have hw2 := hw1.symm
        subst hw2
        clear hw1 HC
        go_wp2
        go_ret
        exact ⟨by rw [HR3.out]; rfl, Below.refl _ _⟩
      · have e1 : ((n : Int) == 0) = false := by simpa using hn
        have e2 : decide (n = 0) = false := by simpa using hn
        have HR3 : Hid (R = false) := by show _ = _; rw [HR2.out, hE, e2]; rfl
        clear HR2
        go_enter Tryd.func96, Tryd.ntmps96
        go_wp2
        go_ret
        exact ⟨by rw [HR3.out]; rfl, Below.refl _ _⟩
  have d3 : (kd == 3) = false := by simpa using k3
  by_cases k4 : kd = 4
  · subst k4
    have HR2 : Hid (R = (nm.toList.isEmpty && (decide (num = 0) && (decide (n ≤ 1) && RA)))) := HR.out
    clear HR HC HI k1 d1 k2 d2 k3 d3
    cases hE : nm.toList.isEmpty with
    | false =>
      have HR3 : Hid (R = false) := by show _ = _; rw [HR2.out, hE]; rfl
      clear HR2
      go_enter Tryd.func96, Tryd.ntmps96
      go_wp2
      go_ret
      exact ⟨by rw [HR3.out]; rfl, Below.refl _ _⟩
    | true =>
      by_cases hn : num = 0
      · subst hn
        by_cases h1n : n ≤ 1
        · have e2 : decide (n ≤ 1) = true := by simpa using h1n
          have e3 : (n : Int) ≤ 1 := by omega
          have HR3 : Hid (R = RA) := by show _ = _; rw [HR2.out, hE, e2]; rfl
          clear HR2
          go_enter Tryd.func96, Tryd.ntmps96
          go_wp2_with (go_at_call 77; fail)
          refine HA.out.mono ?_
          rintro e w2 ⟨rfl, hb⟩
          have HB : Hid (Below w.heap.size w w2) := hb
          clear hb
          go_wp2
          go_ret
          exact ⟨by rw [HR3.out]; rfl, HB.out⟩
        · have e2 : decide (n ≤ 1) = false := by simpa using h1n
          have e3 : ¬ (n : Int) ≤ 1 := by omega
          have HR3 : Hid (R = false) := by show _ = _; rw [HR2.out, hE, e2]; rfl
          clear HR2
          go_enter Tryd.func96, Tryd.ntmps96
          go_wp2
          go_ret
          exact ⟨by rw [HR3.out]; rfl, Below.refl _ _⟩
      · have e1 : (num == 0) = false := by simpa using hn
        have HR3 : Hid (R = false) := by show _ = _; rw [HR2.out, hE, decide_eq_false hn]; rfl
        clear hn HR2
        go_enter Tryd.func96, Tryd.ntmps96
        go_wp2
        go_ret
        exact ⟨by rw [HR3.out]; rfl, Below.refl _ _⟩
  have d4 : (kd == 4) = false := by simpa using k4
  have HR3 : Hid (R = false) := by show _ = _; rw [HR.out, if_neg k1, if_neg k2, if_neg k3, if_neg k4]
  clear HR HC HA HI k1 k2 k3 k4
  go_enter Tryd.func96, Tryd.ntmps96
  go_wp2
  go_ret
  exact ⟨by rw [HR3.out]; rfl, Below.refl _ _⟩
end Go.Proofs.YtjmpjfggbhongaaDoor
