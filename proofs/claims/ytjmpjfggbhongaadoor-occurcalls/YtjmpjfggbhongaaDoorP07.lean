/-
  Of the core, what is wanted here: part 7.
-/
import Derived.Test.YtjmpjfggbhongaaDoorP06
namespace Go.Proofs.YtjmpjfggbhongaaDoor
open Go.RowKit Go.Shelf Go.Maps
set_option linter.unusedVariables false
/-- What the table says of an expression's fields behind those that must not be filled. -/
def mbK (ab : List AltH → Bool) {T : Type} (t : TrN T) : Bool := if t.kind = 1 then nameB t.name.data.toList else if t.kind = 4 then nameB t.name.data.toList else if t.kind = 9 then nameB t.name.data.toList else if t.kind = 2 then true else if t.kind = 3 then (decide (0 ≤ t.num) && decide (t.num ≤ 255)) else if t.kind = 5 then decide (1 ≤ t.params.length) && (decide (t.params.length ≤ 32) && (areB t.params && decide (t.args.length = 1))) else if t.kind = 6 then decide (2 ≤ t.args.length) && decide (t.args.length ≤ 33) else if t.kind = 7 then decide (0 < t.binds.length) && (areB (t.binds.map Prod.fst) && decide (t.args.length = 1)) else if t.kind = 8 then decide (t.args.length = 1) && ab (t.alts.map Prod.fst) else false
/-- May an expression's own fields be? -/
def mbN (ab : List AltH → Bool) {T : Type} (t : TrN T) : Bool := okF (fillB t) (fieldsM t.kind) && mbK ab t
theorem cell_lt {W : World} {g off : Nat} {v : Value} (h : W.cell? ⟨g, off, none⟩ = some v) : g < W.heap.size := by
  rcases Nat.lt_or_ge g W.heap.size with h9 | h9
  · exact h9
  · have e : W.heap[g]? = none := Array.getElem?_eq_none h9
    simp [World.cell?, e] at h
theorem TxIn.fit {W : World} {B : Nat} {o : Option Addr} {l : List ByteArray} (h : TxIn W B o l) : TxIn W W.heap.size o l := by
  rcases h with h | ⟨g, off, e, hg, h⟩
  · exact .inl h
  · by_cases hl : l = []
    · exact .inl hl
    · exact .inr ⟨g, off, e, cell_lt (h 0 (List.length_pos_iff.2 hl)), h⟩
/-- What mayBeAlts answers. -/
def MbaOK (m : Nat) (ab : List AltH → Bool) (w : World) : Prop := ∀ (W : World), Below w.heap.size w W → ∀ (d : Nat) (l : List (AltH × Tr d)) (o : Option Addr) (cap B : Nat), RowIn B 11 (AltAt W B d) o l → B ≤ W.heap.size → l.length ≤ 2000000 → l.length ≤ cap → (∀ a ∈ l, a.1.name.size ≤ maxLen ∧ a.1.vars.length ≤ 2000000 ∧ (∀ x ∈ a.1.vars, x.size ≤ maxLen) ∧ Lit.wf (.int .i64 a.1.num) = true) → Calls Tryd.prog 78 #[.map (some m), .slice o l.length cap] W fun e w' => e = .returned (.bool (ab (l.map Prod.fst))) ∧ Below W.heap.size W w'
set_option maxRecDepth 100000 in
set_option maxHeartbeats 4000000 in
theorem mb1_c (m : Nat) (ab : List AltH → Bool) (d : Nat) (t : Tr (d + 1)) (B g off : Nat) (w : World) (hA : MbaOK m ab w) (hE : ExAt w B (d + 1) t g off) (hw : B ≤ w.heap.size) (hF : FitN t) (hcp : ∀ o n c, w.cell? ⟨g, off + 6, none⟩ = some (.slice o n c) → n ≤ c) (hk : TrN.kind t = 1) :
    Calls Tryd.prog 55 #[.map (some m), .pointer (some ⟨g, off, none⟩)] w fun e w' => e = .returned (.bool (mbN ab t)) ∧ Below w.heap.size w w' := by
  have HFi : Hid (∀ n, Calls Tryd.prog 73 #[.pointer (some ⟨g, off, none⟩)] (w.drewN n) fun e w' => e = .returned (.int .i64 (fillK (fillB t) 6 : Nat)) ∧ ∃ m, w' = (w.drewN n).drewN m) := fun n => filled_c d t B g off (w.drewN n) (hE.below ((dqb w n).mono hw)) hw ⟨hF.2.1.1, hF.2.2.1.1, hF.2.2.2.1, hF.2.2.2.2.1⟩
  have HFo : Hid (∀ n, Calls Tryd.prog 74 #[.int .i64 (TrN.kind t)] (w.drewN n) fun e w' => e = .returned (.int .i64 (fieldsM (TrN.kind t) : Nat)) ∧ w' = w.drewN n) := fun n => fieldsOf_c _ _
  have hx : (bits BinOp.andNot IntKind.i64 ((fillK (fillB t) 6 : Nat) : Int) (fieldsM (TrN.kind t) : Nat) != 0) = (!okF (fillB t) (fieldsM (TrN.kind t))) := anK _ _ (fieldsM_vals _)
  have HR : Hid (mbN ab t = (okF (fillB t) 1 && (nameB (TrN.name t).data.toList))) := by show _ = _; unfold mbN mbK; rw [hk]; rfl
  rw [hk] at HFo hx
  obtain ⟨hg, h0, h1, h2, ⟨o3, c3, h3, k3⟩, ⟨o4, c4, h4, k4⟩, ⟨o5, c5, h5, k5⟩, ⟨o6, c6, h6, k6⟩⟩ := id hE
  have hgw : g < w.heap.size := by omega
  have HC : Hid (∀ W, (∃ n, W = w.drewN n) → Calls Tryd.prog 75 #[.string (TrN.name t)] W fun e w' => e = .returned (.bool (nameB (TrN.name t).data.toList)) ∧ w' = W) := fun W _ => isName_c _ (by have := hF.1; unfold maxLen at this; omega) _
  have HW : Hid (∀ n, Below w.heap.size w (w.drewN n) ∧ g < (w.drewN n).heap.size ∧ (w.drewN n).cell? ⟨g, off, none⟩ = some (.int .i64 (TrN.kind t)) ∧ (w.drewN n).cell? ⟨g, off + 1, none⟩ = some (.string (TrN.name t)) ∧ (w.drewN n).cell? ⟨g, off + 2, none⟩ = some (.int .i64 (TrN.num t)) ∧ (w.drewN n).cell? ⟨g, off + 3, none⟩ = some (.slice o3 (TrN.params t).length c3) ∧ (w.drewN n).cell? ⟨g, off + 4, none⟩ = some (.slice o4 (TrN.binds t).length c4) ∧ (w.drewN n).cell? ⟨g, off + 5, none⟩ = some (.slice o5 (TrN.args t).length c5) ∧ (w.drewN n).cell? ⟨g, off + 6, none⟩ = some (.slice o6 (TrN.alts t).length c6)) := fun n => ⟨dqb w n, hgw, h0, h1, h2, h3, h4, h5, h6⟩
  have l3 : ((TrN.params t).length : Int) ≤ 2000000 := by have := hF.2.1.1; omega
  have l4 : ((TrN.binds t).length : Int) ≤ 2000000 := by have := hF.2.2.1.1; omega
  have l5 : ((TrN.args t).length : Int) ≤ 2000000 := by have := hF.2.2.2.1; omega
  have l6 : ((TrN.alts t).length : Int) ≤ 2000000 := by have := hF.2.2.2.2.1; omega
  rw [hk] at h0 HW
  have hf0 : fieldsM (1 : Int) = 1 := rfl
  rw [hf0] at HFo hx
  clear hf0 hk
  generalize okF (fillB t) 1 = RO at HR hx
  generalize fillK (fillB t) 6 = FK at HFi hx
  generalize nameB (TrN.name t).data.toList = RI at HR HC
  generalize (TrN.params t).length = n3 at *
  generalize (TrN.binds t).length = n4 at *
  generalize (TrN.args t).length = n5 at *
  generalize (TrN.alts t).length = n6 at *
  generalize TrN.name t = nm at *
  generalize TrN.num t = num at *
  clear hA hE hw hF hcp k3 k4 k5 k6 hg h1 h2 h3 h4 h5 h6
  go_enter Tryd.func55, Tryd.ntmps55
  go_wp2
  cases RO with
  | false =>
    have hx2 : (bits BinOp.andNot IntKind.i64 ((FK : Nat) : Int) 1 != 0) = true := hx
    clear hx
    go_big_quiet ((first | (go_at_call 73; exact Calls.quiet_of (HFi.out _)) | (go_at_call 74; exact Calls.quiet_of_same (HFo.out _))))
    go_wp2
    go_ret
    exact ⟨by rw [HR.out]; rfl, dqb w _⟩
  | true =>
    have hx2 : (bits BinOp.andNot IntKind.i64 ((FK : Nat) : Int) 1 != 0) = false := hx
    clear hx
    go_big_quiet ((first | (go_at_call 73; exact Calls.quiet_of (HFi.out _)) | (go_at_call 74; exact Calls.quiet_of_same (HFo.out _))))
    obtain ⟨hB1, hg1, r0, r1, r2, r3, r4, r5, r6⟩ := HW.out nq
    obtain ⟨wq, hwq⟩ : ∃ W, w.drewN nq = W := ⟨_, rfl⟩
    rw [hwq] at hB1 hg1 r0 r1 r2 r3 r4 r5 r6 ⊢
    have HB1 : Hid (Below w.heap.size w wq) := hB1
    have HQ : Hid (∃ n, wq = w.drewN n) := ⟨nq, hwq.symm⟩
    clear hB1 HW hwq HFi HFo h0 hgw hx2
    go_wp2_with (go_at_call 75; fail)
    refine (HC.out wq HQ.out).mono ?_
    rintro e w1 ⟨rfl, hw1⟩
    have hw2 := hw1.symm
    subst hw2
    clear hw1
    go_wp2
    go_ret
    exact ⟨by rw [HR.out]; rfl, HB1.out⟩
set_option maxRecDepth 100000 in
set_option maxHeartbeats 4000000 in
theorem mb4_c (m : Nat) (ab : List AltH → Bool) (d : Nat) (t : Tr (d + 1)) (B g off : Nat) (w : World) (hA : MbaOK m ab w) (hE : ExAt w B (d + 1) t g off) (hw : B ≤ w.heap.size) (hF : FitN t) (hcp : ∀ o n c, w.cell? ⟨g, off + 6, none⟩ = some (.slice o n c) → n ≤ c) (hk : TrN.kind t = 4) :
    Calls Tryd.prog 55 #[.map (some m), .pointer (some ⟨g, off, none⟩)] w fun e w' => e = .returned (.bool (mbN ab t)) ∧ Below w.heap.size w w' := by
  have HFi : Hid (∀ n, Calls Tryd.prog 73 #[.pointer (some ⟨g, off, none⟩)] (w.drewN n) fun e w' => e = .returned (.int .i64 (fillK (fillB t) 6 : Nat)) ∧ ∃ m, w' = (w.drewN n).drewN m) := fun n => filled_c d t B g off (w.drewN n) (hE.below ((dqb w n).mono hw)) hw ⟨hF.2.1.1, hF.2.2.1.1, hF.2.2.2.1, hF.2.2.2.2.1⟩
  have HFo : Hid (∀ n, Calls Tryd.prog 74 #[.int .i64 (TrN.kind t)] (w.drewN n) fun e w' => e = .returned (.int .i64 (fieldsM (TrN.kind t) : Nat)) ∧ w' = w.drewN n) := fun n => fieldsOf_c _ _
  have hx : (bits BinOp.andNot IntKind.i64 ((fillK (fillB t) 6 : Nat) : Int) (fieldsM (TrN.kind t) : Nat) != 0) = (!okF (fillB t) (fieldsM (TrN.kind t))) := anK _ _ (fieldsM_vals _)
  have HR : Hid (mbN ab t = (okF (fillB t) 17 && (nameB (TrN.name t).data.toList))) := by show _ = _; unfold mbN mbK; rw [hk]; rfl
  rw [hk] at HFo hx
  obtain ⟨hg, h0, h1, h2, ⟨o3, c3, h3, k3⟩, ⟨o4, c4, h4, k4⟩, ⟨o5, c5, h5, k5⟩, ⟨o6, c6, h6, k6⟩⟩ := id hE
  have hgw : g < w.heap.size := by omega
  have HC : Hid (∀ W, (∃ n, W = w.drewN n) → Calls Tryd.prog 75 #[.string (TrN.name t)] W fun e w' => e = .returned (.bool (nameB (TrN.name t).data.toList)) ∧ w' = W) := fun W _ => isName_c _ (by have := hF.1; unfold maxLen at this; omega) _
  have HW : Hid (∀ n, Below w.heap.size w (w.drewN n) ∧ g < (w.drewN n).heap.size ∧ (w.drewN n).cell? ⟨g, off, none⟩ = some (.int .i64 (TrN.kind t)) ∧ (w.drewN n).cell? ⟨g, off + 1, none⟩ = some (.string (TrN.name t)) ∧ (w.drewN n).cell? ⟨g, off + 2, none⟩ = some (.int .i64 (TrN.num t)) ∧ (w.drewN n).cell? ⟨g, off + 3, none⟩ = some (.slice o3 (TrN.params t).length c3) ∧ (w.drewN n).cell? ⟨g, off + 4, none⟩ = some (.slice o4 (TrN.binds t).length c4) ∧ (w.drewN n).cell? ⟨g, off + 5, none⟩ = some (.slice o5 (TrN.args t).length c5) ∧ (w.drewN n).cell? ⟨g, off + 6, none⟩ = some (.slice o6 (TrN.alts t).length c6)) := fun n => ⟨dqb w n, hgw, h0, h1, h2, h3, h4, h5, h6⟩
  have l3 : ((TrN.params t).length : Int) ≤ 2000000 := by have := hF.2.1.1; omega
  have l4 : ((TrN.binds t).length : Int) ≤ 2000000 := by have := hF.2.2.1.1; omega
  have l5 : ((TrN.args t).length : Int) ≤ 2000000 := by have := hF.2.2.2.1; omega
  have l6 : ((TrN.alts t).length : Int) ≤ 2000000 := by have := hF.2.2.2.2.1; omega
  rw [hk] at h0 HW
  have hf0 : fieldsM (4 : Int) = 17 := rfl
  rw [hf0] at HFo hx
  clear hf0 hk
  generalize okF (fillB t) 17 = RO at HR hx
  generalize fillK (fillB t) 6 = FK at HFi hx
  generalize nameB (TrN.name t).data.toList = RI at HR HC
  generalize (TrN.params t).length = n3 at *
  generalize (TrN.binds t).length = n4 at *
  generalize (TrN.args t).length = n5 at *
  generalize (TrN.alts t).length = n6 at *
  generalize TrN.name t = nm at *
  generalize TrN.num t = num at *
  clear hA hE hw hF hcp k3 k4 k5 k6 hg h1 h2 h3 h4 h5 h6
  go_enter Tryd.func55, Tryd.ntmps55
  go_wp2
  cases RO with
  | false =>
    have hx2 : (bits BinOp.andNot IntKind.i64 ((FK : Nat) : Int) 17 != 0) = true := hx
    clear hx
    go_big_quiet ((first | (go_at_call 73; exact Calls.quiet_of (HFi.out _)) | (go_at_call 74; exact Calls.quiet_of_same (HFo.out _))))
    go_wp2
    go_ret
    exact ⟨by rw [HR.out]; rfl, dqb w _⟩
  | true =>
    have hx2 : (bits BinOp.andNot IntKind.i64 ((FK : Nat) : Int) 17 != 0) = false := hx
    clear hx
    go_big_quiet ((first | (go_at_call 73; exact Calls.quiet_of (HFi.out _)) | (go_at_call 74; exact Calls.quiet_of_same (HFo.out _))))
    obtain ⟨hB1, hg1, r0, r1, r2, r3, r4, r5, r6⟩ := HW.out nq
    obtain ⟨wq, hwq⟩ : ∃ W, w.drewN nq = W := ⟨_, rfl⟩
    rw [hwq] at hB1 hg1 r0 r1 r2 r3 r4 r5 r6 ⊢
    have HB1 : Hid (Below w.heap.size w wq) := hB1
    have HQ : Hid (∃ n, wq = w.drewN n) := ⟨nq, hwq.symm⟩
    clear hB1 HW hwq HFi HFo h0 hgw hx2
    go_wp2_with (go_at_call 75; fail)
    refine (HC.out wq HQ.out).mono ?_
    rintro e w1 ⟨rfl, hw1⟩
    have hw2 := hw1.symm
    subst hw2
    clear hw1
    go_wp2
    go_ret
    exact ⟨by rw [HR.out]; rfl, HB1.out⟩
set_option maxRecDepth 100000 in
set_option maxHeartbeats 4000000 in
theorem mb9_c (m : Nat) (ab : List AltH → Bool) (d : Nat) (t : Tr (d + 1)) (B g off : Nat) (w : World) (hA : MbaOK m ab w) (hE : ExAt w B (d + 1) t g off) (hw : B ≤ w.heap.size) (hF : FitN t) (hcp : ∀ o n c, w.cell? ⟨g, off + 6, none⟩ = some (.slice o n c) → n ≤ c) (hk : TrN.kind t = 9) :
    Calls Tryd.prog 55 #[.map (some m), .pointer (some ⟨g, off, none⟩)] w fun e w' => e = .returned (.bool (mbN ab t)) ∧ Below w.heap.size w w' := by
  have HFi : Hid (∀ n, Calls Tryd.prog 73 #[.pointer (some ⟨g, off, none⟩)] (w.drewN n) fun e w' => e = .returned (.int .i64 (fillK (fillB t) 6 : Nat)) ∧ ∃ m, w' = (w.drewN n).drewN m) := fun n => filled_c d t B g off (w.drewN n) (hE.below ((dqb w n).mono hw)) hw ⟨hF.2.1.1, hF.2.2.1.1, hF.2.2.2.1, hF.2.2.2.2.1⟩
  have HFo : Hid (∀ n, Calls Tryd.prog 74 #[.int .i64 (TrN.kind t)] (w.drewN n) fun e w' => e = .returned (.int .i64 (fieldsM (TrN.kind t) : Nat)) ∧ w' = w.drewN n) := fun n => fieldsOf_c _ _
  have hx : (bits BinOp.andNot IntKind.i64 ((fillK (fillB t) 6 : Nat) : Int) (fieldsM (TrN.kind t) : Nat) != 0) = (!okF (fillB t) (fieldsM (TrN.kind t))) := anK _ _ (fieldsM_vals _)
  have HR : Hid (mbN ab t = (okF (fillB t) 17 && (nameB (TrN.name t).data.toList))) := by show _ = _; unfold mbN mbK; rw [hk]; rfl
  rw [hk] at HFo hx
  obtain ⟨hg, h0, h1, h2, ⟨o3, c3, h3, k3⟩, ⟨o4, c4, h4, k4⟩, ⟨o5, c5, h5, k5⟩, ⟨o6, c6, h6, k6⟩⟩ := id hE
  have hgw : g < w.heap.size := by omega
  have HC : Hid (∀ W, (∃ n, W = w.drewN n) → Calls Tryd.prog 75 #[.string (TrN.name t)] W fun e w' => e = .returned (.bool (nameB (TrN.name t).data.toList)) ∧ w' = W) := fun W _ => isName_c _ (by have := hF.1; unfold maxLen at this; omega) _
  have HW : Hid (∀ n, Below w.heap.size w (w.drewN n) ∧ g < (w.drewN n).heap.size ∧ (w.drewN n).cell? ⟨g, off, none⟩ = some (.int .i64 (TrN.kind t)) ∧ (w.drewN n).cell? ⟨g, off + 1, none⟩ = some (.string (TrN.name t)) ∧ (w.drewN n).cell? ⟨g, off + 2, none⟩ = some (.int .i64 (TrN.num t)) ∧ (w.drewN n).cell? ⟨g, off + 3, none⟩ = some (.slice o3 (TrN.params t).length c3) ∧ (w.drewN n).cell? ⟨g, off + 4, none⟩ = some (.slice o4 (TrN.binds t).length c4) ∧ (w.drewN n).cell? ⟨g, off + 5, none⟩ = some (.slice o5 (TrN.args t).length c5) ∧ (w.drewN n).cell? ⟨g, off + 6, none⟩ = some (.slice o6 (TrN.alts t).length c6)) := fun n => ⟨dqb w n, hgw, h0, h1, h2, h3, h4, h5, h6⟩
  have l3 : ((TrN.params t).length : Int) ≤ 2000000 := by have := hF.2.1.1; omega
  have l4 : ((TrN.binds t).length : Int) ≤ 2000000 := by have := hF.2.2.1.1; omega
  have l5 : ((TrN.args t).length : Int) ≤ 2000000 := by have := hF.2.2.2.1; omega
  have l6 : ((TrN.alts t).length : Int) ≤ 2000000 := by have := hF.2.2.2.2.1; omega
  rw [hk] at h0 HW
  have hf0 : fieldsM (9 : Int) = 17 := rfl
  rw [hf0] at HFo hx
  clear hf0 hk
  generalize okF (fillB t) 17 = RO at HR hx
  generalize fillK (fillB t) 6 = FK at HFi hx
  generalize nameB (TrN.name t).data.toList = RI at HR HC
  generalize (TrN.params t).length = n3 at *
  generalize (TrN.binds t).length = n4 at *
  generalize (TrN.args t).length = n5 at *
  generalize (TrN.alts t).length = n6 at *
  generalize TrN.name t = nm at *
  generalize TrN.num t = num at *
  clear hA hE hw hF hcp k3 k4 k5 k6 hg h1 h2 h3 h4 h5 h6
  go_enter Tryd.func55, Tryd.ntmps55
  go_wp2
  cases RO with
  | false =>
    have hx2 : (bits BinOp.andNot IntKind.i64 ((FK : Nat) : Int) 17 != 0) = true := hx
    clear hx
    go_big_quiet ((first | (go_at_call 73; exact Calls.quiet_of (HFi.out _)) | (go_at_call 74; exact Calls.quiet_of_same (HFo.out _))))
    go_wp2
    go_ret
    exact ⟨by rw [HR.out]; rfl, dqb w _⟩
  | true =>
    have hx2 : (bits BinOp.andNot IntKind.i64 ((FK : Nat) : Int) 17 != 0) = false := hx
    clear hx
    go_big_quiet ((first | (go_at_call 73; exact Calls.quiet_of (HFi.out _)) | (go_at_call 74; exact Calls.quiet_of_same (HFo.out _))))
    obtain ⟨hB1, hg1, r0, r1, r2, r3, r4, r5, r6⟩ := HW.out nq
    obtain ⟨wq, hwq⟩ : ∃ W, w.drewN nq = W := ⟨_, rfl⟩
    rw [hwq] at hB1 hg1 r0 r1 r2 r3 r4 r5 r6 ⊢
    have HB1 : Hid (Below w.heap.size w wq) := hB1
    have HQ : Hid (∃ n, wq = w.drewN n) := ⟨nq, hwq.symm⟩
    clear hB1 HW hwq HFi HFo h0 hgw hx2
    go_wp2_with (go_at_call 75; fail)
    refine (HC.out wq HQ.out).mono ?_
    rintro e w1 ⟨rfl, hw1⟩
    have hw2 := hw1.symm
    subst hw2
    clear hw1
    go_wp2
    go_ret
    exact ⟨by rw [HR.out]; rfl, HB1.out⟩
set_option maxRecDepth 100000 in
set_option maxHeartbeats 4000000 in
theorem mb2_c (m : Nat) (ab : List AltH → Bool) (d : Nat) (t : Tr (d + 1)) (B g off : Nat) (w : World) (hA : MbaOK m ab w) (hE : ExAt w B (d + 1) t g off) (hw : B ≤ w.heap.size) (hF : FitN t) (hcp : ∀ o n c, w.cell? ⟨g, off + 6, none⟩ = some (.slice o n c) → n ≤ c) (hk : TrN.kind t = 2) :
    Calls Tryd.prog 55 #[.map (some m), .pointer (some ⟨g, off, none⟩)] w fun e w' => e = .returned (.bool (mbN ab t)) ∧ Below w.heap.size w w' := by
  have HFi : Hid (∀ n, Calls Tryd.prog 73 #[.pointer (some ⟨g, off, none⟩)] (w.drewN n) fun e w' => e = .returned (.int .i64 (fillK (fillB t) 6 : Nat)) ∧ ∃ m, w' = (w.drewN n).drewN m) := fun n => filled_c d t B g off (w.drewN n) (hE.below ((dqb w n).mono hw)) hw ⟨hF.2.1.1, hF.2.2.1.1, hF.2.2.2.1, hF.2.2.2.2.1⟩
  have HFo : Hid (∀ n, Calls Tryd.prog 74 #[.int .i64 (TrN.kind t)] (w.drewN n) fun e w' => e = .returned (.int .i64 (fieldsM (TrN.kind t) : Nat)) ∧ w' = w.drewN n) := fun n => fieldsOf_c _ _
  have hx : (bits BinOp.andNot IntKind.i64 ((fillK (fillB t) 6 : Nat) : Int) (fieldsM (TrN.kind t) : Nat) != 0) = (!okF (fillB t) (fieldsM (TrN.kind t))) := anK _ _ (fieldsM_vals _)
  have HR : Hid (mbN ab t = (okF (fillB t) 2 && (true))) := by show _ = _; unfold mbN mbK; rw [hk]; rfl
  rw [hk] at HFo hx
  obtain ⟨hg, h0, h1, h2, ⟨o3, c3, h3, k3⟩, ⟨o4, c4, h4, k4⟩, ⟨o5, c5, h5, k5⟩, ⟨o6, c6, h6, k6⟩⟩ := id hE
  have hgw : g < w.heap.size := by omega
  have HC : Hid (∀ n : Nat, True) := fun _ => trivial
  have HW : Hid (∀ n, Below w.heap.size w (w.drewN n) ∧ g < (w.drewN n).heap.size ∧ (w.drewN n).cell? ⟨g, off, none⟩ = some (.int .i64 (TrN.kind t)) ∧ (w.drewN n).cell? ⟨g, off + 1, none⟩ = some (.string (TrN.name t)) ∧ (w.drewN n).cell? ⟨g, off + 2, none⟩ = some (.int .i64 (TrN.num t)) ∧ (w.drewN n).cell? ⟨g, off + 3, none⟩ = some (.slice o3 (TrN.params t).length c3) ∧ (w.drewN n).cell? ⟨g, off + 4, none⟩ = some (.slice o4 (TrN.binds t).length c4) ∧ (w.drewN n).cell? ⟨g, off + 5, none⟩ = some (.slice o5 (TrN.args t).length c5) ∧ (w.drewN n).cell? ⟨g, off + 6, none⟩ = some (.slice o6 (TrN.alts t).length c6)) := fun n => ⟨dqb w n, hgw, h0, h1, h2, h3, h4, h5, h6⟩
  have l3 : ((TrN.params t).length : Int) ≤ 2000000 := by have := hF.2.1.1; omega
  have l4 : ((TrN.binds t).length : Int) ≤ 2000000 := by have := hF.2.2.1.1; omega
  have l5 : ((TrN.args t).length : Int) ≤ 2000000 := by have := hF.2.2.2.1; omega
  have l6 : ((TrN.alts t).length : Int) ≤ 2000000 := by have := hF.2.2.2.2.1; omega
  rw [hk] at h0 HW
  have hf0 : fieldsM (2 : Int) = 2 := rfl
  rw [hf0] at HFo hx
  clear hf0 hk
  generalize okF (fillB t) 2 = RO at HR hx
  generalize fillK (fillB t) 6 = FK at HFi hx

  generalize (TrN.params t).length = n3 at *
  generalize (TrN.binds t).length = n4 at *
  generalize (TrN.args t).length = n5 at *
  generalize (TrN.alts t).length = n6 at *
  generalize TrN.name t = nm at *
  generalize TrN.num t = num at *
  clear hA hE hw hF hcp k3 k4 k5 k6 hg h1 h2 h3 h4 h5 h6
  go_enter Tryd.func55, Tryd.ntmps55
  go_wp2
  cases RO with
  | false =>
    have hx2 : (bits BinOp.andNot IntKind.i64 ((FK : Nat) : Int) 2 != 0) = true := hx
    clear hx
    go_big_quiet ((first | (go_at_call 73; exact Calls.quiet_of (HFi.out _)) | (go_at_call 74; exact Calls.quiet_of_same (HFo.out _))))
    go_wp2
    go_ret
    exact ⟨by rw [HR.out]; rfl, dqb w _⟩
  | true =>
    have hx2 : (bits BinOp.andNot IntKind.i64 ((FK : Nat) : Int) 2 != 0) = false := hx
    clear hx
    go_big_quiet ((first | (go_at_call 73; exact Calls.quiet_of (HFi.out _)) | (go_at_call 74; exact Calls.quiet_of_same (HFo.out _))))
    obtain ⟨hB1, hg1, r0, r1, r2, r3, r4, r5, r6⟩ := HW.out nq
    obtain ⟨wq, hwq⟩ : ∃ W, w.drewN nq = W := ⟨_, rfl⟩
    rw [hwq] at hB1 hg1 r0 r1 r2 r3 r4 r5 r6 ⊢
    have HB1 : Hid (Below w.heap.size w wq) := hB1
    have HQ : Hid (∃ n, wq = w.drewN n) := ⟨nq, hwq.symm⟩
    clear hB1 HW hwq HFi HFo h0 hgw hx2
    go_wp2
    go_ret
    exact ⟨by rw [HR.out]; rfl, HB1.out⟩
set_option maxRecDepth 100000 in
set_option maxHeartbeats 4000000 in
theorem mb3_c (m : Nat) (ab : List AltH → Bool) (d : Nat) (t : Tr (d + 1)) (B g off : Nat) (w : World) (hA : MbaOK m ab w) (hE : ExAt w B (d + 1) t g off) (hw : B ≤ w.heap.size) (hF : FitN t) (hcp : ∀ o n c, w.cell? ⟨g, off + 6, none⟩ = some (.slice o n c) → n ≤ c) (hk : TrN.kind t = 3) :
    Calls Tryd.prog 55 #[.map (some m), .pointer (some ⟨g, off, none⟩)] w fun e w' => e = .returned (.bool (mbN ab t)) ∧ Below w.heap.size w w' := by
  have HFi : Hid (∀ n, Calls Tryd.prog 73 #[.pointer (some ⟨g, off, none⟩)] (w.drewN n) fun e w' => e = .returned (.int .i64 (fillK (fillB t) 6 : Nat)) ∧ ∃ m, w' = (w.drewN n).drewN m) := fun n => filled_c d t B g off (w.drewN n) (hE.below ((dqb w n).mono hw)) hw ⟨hF.2.1.1, hF.2.2.1.1, hF.2.2.2.1, hF.2.2.2.2.1⟩
  have HFo : Hid (∀ n, Calls Tryd.prog 74 #[.int .i64 (TrN.kind t)] (w.drewN n) fun e w' => e = .returned (.int .i64 (fieldsM (TrN.kind t) : Nat)) ∧ w' = w.drewN n) := fun n => fieldsOf_c _ _
  have hx : (bits BinOp.andNot IntKind.i64 ((fillK (fillB t) 6 : Nat) : Int) (fieldsM (TrN.kind t) : Nat) != 0) = (!okF (fillB t) (fieldsM (TrN.kind t))) := anK _ _ (fieldsM_vals _)
  have HR : Hid (mbN ab t = (okF (fillB t) 2 && ((decide (0 ≤ TrN.num t) && decide (TrN.num t ≤ 255))))) := by show _ = _; unfold mbN mbK; rw [hk]; rfl
  rw [hk] at HFo hx
  obtain ⟨hg, h0, h1, h2, ⟨o3, c3, h3, k3⟩, ⟨o4, c4, h4, k4⟩, ⟨o5, c5, h5, k5⟩, ⟨o6, c6, h6, k6⟩⟩ := id hE
  have hgw : g < w.heap.size := by omega
  have HC : Hid (∀ W, (∃ n, W = w.drewN n) → Calls Tryd.prog 76 #[.int .i64 (TrN.num t)] W fun e w' => e = .returned (.bool (decide (0 ≤ TrN.num t) && decide (TrN.num t ≤ 255))) ∧ w' = W) := fun W _ => isChar_c _ _
  have HW : Hid (∀ n, Below w.heap.size w (w.drewN n) ∧ g < (w.drewN n).heap.size ∧ (w.drewN n).cell? ⟨g, off, none⟩ = some (.int .i64 (TrN.kind t)) ∧ (w.drewN n).cell? ⟨g, off + 1, none⟩ = some (.string (TrN.name t)) ∧ (w.drewN n).cell? ⟨g, off + 2, none⟩ = some (.int .i64 (TrN.num t)) ∧ (w.drewN n).cell? ⟨g, off + 3, none⟩ = some (.slice o3 (TrN.params t).length c3) ∧ (w.drewN n).cell? ⟨g, off + 4, none⟩ = some (.slice o4 (TrN.binds t).length c4) ∧ (w.drewN n).cell? ⟨g, off + 5, none⟩ = some (.slice o5 (TrN.args t).length c5) ∧ (w.drewN n).cell? ⟨g, off + 6, none⟩ = some (.slice o6 (TrN.alts t).length c6)) := fun n => ⟨dqb w n, hgw, h0, h1, h2, h3, h4, h5, h6⟩
  have l3 : ((TrN.params t).length : Int) ≤ 2000000 := by have := hF.2.1.1; omega
  have l4 : ((TrN.binds t).length : Int) ≤ 2000000 := by have := hF.2.2.1.1; omega
  have l5 : ((TrN.args t).length : Int) ≤ 2000000 := by have := hF.2.2.2.1; omega
  have l6 : ((TrN.alts t).length : Int) ≤ 2000000 := by have := hF.2.2.2.2.1; omega
  rw [hk] at h0 HW
  have hf0 : fieldsM (3 : Int) = 2 := rfl
  rw [hf0] at HFo hx
  clear hf0 hk
  generalize okF (fillB t) 2 = RO at HR hx
  generalize fillK (fillB t) 6 = FK at HFi hx
  generalize (decide (0 ≤ TrN.num t) && decide (TrN.num t ≤ 255)) = RI at HR HC
  generalize (TrN.params t).length = n3 at *
  generalize (TrN.binds t).length = n4 at *
  generalize (TrN.args t).length = n5 at *
  generalize (TrN.alts t).length = n6 at *
  generalize TrN.name t = nm at *
  generalize TrN.num t = num at *
  clear hA hE hw hF hcp k3 k4 k5 k6 hg h1 h2 h3 h4 h5 h6
  go_enter Tryd.func55, Tryd.ntmps55
  go_wp2
  cases RO with
  | false =>
    have hx2 : (bits BinOp.andNot IntKind.i64 ((FK : Nat) : Int) 2 != 0) = true := hx
    clear hx
    go_big_quiet ((first | (go_at_call 73; exact Calls.quiet_of (HFi.out _)) | (go_at_call 74; exact Calls.quiet_of_same (HFo.out _))))
    go_wp2
    go_ret
    exact ⟨by rw [HR.out]; rfl, dqb w _⟩
  | true =>
    have hx2 : (bits BinOp.andNot IntKind.i64 ((FK : Nat) : Int) 2 != 0) = false := hx
    clear hx
    go_big_quiet ((first | (go_at_call 73; exact Calls.quiet_of (HFi.out _)) | (go_at_call 74; exact Calls.quiet_of_same (HFo.out _))))
    obtain ⟨hB1, hg1, r0, r1, r2, r3, r4, r5, r6⟩ := HW.out nq
    obtain ⟨wq, hwq⟩ : ∃ W, w.drewN nq = W := ⟨_, rfl⟩
    rw [hwq] at hB1 hg1 r0 r1 r2 r3 r4 r5 r6 ⊢
    have HB1 : Hid (Below w.heap.size w wq) := hB1
    have HQ : Hid (∃ n, wq = w.drewN n) := ⟨nq, hwq.symm⟩
    clear hB1 HW hwq HFi HFo h0 hgw hx2
    go_wp2_with (go_at_call 76; fail)
    refine (HC.out wq HQ.out).mono ?_
    rintro e w1 ⟨rfl, hw1⟩
    have hw2 := hw1.symm
    subst hw2
    clear hw1
    go_wp2
    go_ret
    exact ⟨by rw [HR.out]; rfl, HB1.out⟩
set_option maxRecDepth 100000 in
set_option maxHeartbeats 4000000 in
theorem mb5_c (m : Nat) (ab : List AltH → Bool) (d : Nat) (t : Tr (d + 1)) (B g off : Nat) (w : World) (hA : MbaOK m ab w) (hE : ExAt w B (d + 1) t g off) (hw : B ≤ w.heap.size) (hF : FitN t) (hcp : ∀ o n c, w.cell? ⟨g, off + 6, none⟩ = some (.slice o n c) → n ≤ c) (hk : TrN.kind t = 5) :
    Calls Tryd.prog 55 #[.map (some m), .pointer (some ⟨g, off, none⟩)] w fun e w' => e = .returned (.bool (mbN ab t)) ∧ Below w.heap.size w w' := by
  have HFi : Hid (∀ n, Calls Tryd.prog 73 #[.pointer (some ⟨g, off, none⟩)] (w.drewN n) fun e w' => e = .returned (.int .i64 (fillK (fillB t) 6 : Nat)) ∧ ∃ m, w' = (w.drewN n).drewN m) := fun n => filled_c d t B g off (w.drewN n) (hE.below ((dqb w n).mono hw)) hw ⟨hF.2.1.1, hF.2.2.1.1, hF.2.2.2.1, hF.2.2.2.2.1⟩
  have HFo : Hid (∀ n, Calls Tryd.prog 74 #[.int .i64 (TrN.kind t)] (w.drewN n) fun e w' => e = .returned (.int .i64 (fieldsM (TrN.kind t) : Nat)) ∧ w' = w.drewN n) := fun n => fieldsOf_c _ _
  have hx : (bits BinOp.andNot IntKind.i64 ((fillK (fillB t) 6 : Nat) : Int) (fieldsM (TrN.kind t) : Nat) != 0) = (!okF (fillB t) (fieldsM (TrN.kind t))) := anK _ _ (fieldsM_vals _)
  have HR : Hid (mbN ab t = (okF (fillB t) 20 && (decide (1 ≤ (TrN.params t).length) && (decide ((TrN.params t).length ≤ 32) && (areB (TrN.params t) && decide ((TrN.args t).length = 1)))))) := by show _ = _; unfold mbN mbK; rw [hk]; rfl
  rw [hk] at HFo hx
  obtain ⟨hg, h0, h1, h2, ⟨o3, c3, h3, k3⟩, ⟨o4, c4, h4, k4⟩, ⟨o5, c5, h5, k5⟩, ⟨o6, c6, h6, k6⟩⟩ := id hE
  have hgw : g < w.heap.size := by omega
  have HC : Hid (∀ W, (∃ n, W = w.drewN n) → Calls Tryd.prog 77 #[.slice o3 (TrN.params t).length c3] W fun e w' => e = .returned (.bool (areB (TrN.params t))) ∧ Below W.heap.size W w') := fun W hW => by
    obtain ⟨n, rfl⟩ := hW
    exact areNames_c _ o3 c3 B _ k3 hw hF.2.1.1 hF.2.1.2
  have HW : Hid (∀ n, Below w.heap.size w (w.drewN n) ∧ g < (w.drewN n).heap.size ∧ (w.drewN n).cell? ⟨g, off, none⟩ = some (.int .i64 (TrN.kind t)) ∧ (w.drewN n).cell? ⟨g, off + 1, none⟩ = some (.string (TrN.name t)) ∧ (w.drewN n).cell? ⟨g, off + 2, none⟩ = some (.int .i64 (TrN.num t)) ∧ (w.drewN n).cell? ⟨g, off + 3, none⟩ = some (.slice o3 (TrN.params t).length c3) ∧ (w.drewN n).cell? ⟨g, off + 4, none⟩ = some (.slice o4 (TrN.binds t).length c4) ∧ (w.drewN n).cell? ⟨g, off + 5, none⟩ = some (.slice o5 (TrN.args t).length c5) ∧ (w.drewN n).cell? ⟨g, off + 6, none⟩ = some (.slice o6 (TrN.alts t).length c6)) := fun n => ⟨dqb w n, hgw, h0, h1, h2, h3, h4, h5, h6⟩
  have l3 : ((TrN.params t).length : Int) ≤ 2000000 := by have := hF.2.1.1; omega
  have l4 : ((TrN.binds t).length : Int) ≤ 2000000 := by have := hF.2.2.1.1; omega
  have l5 : ((TrN.args t).length : Int) ≤ 2000000 := by have := hF.2.2.2.1; omega
  have l6 : ((TrN.alts t).length : Int) ≤ 2000000 := by have := hF.2.2.2.2.1; omega
  rw [hk] at h0 HW
  have hf0 : fieldsM (5 : Int) = 20 := rfl
  rw [hf0] at HFo hx
  clear hf0 hk
  generalize okF (fillB t) 20 = RO at HR hx
  generalize fillK (fillB t) 6 = FK at HFi hx
  generalize areB (TrN.params t) = RI at HR HC
  generalize (TrN.params t).length = n3 at *
  generalize (TrN.binds t).length = n4 at *
  generalize (TrN.args t).length = n5 at *
  generalize (TrN.alts t).length = n6 at *
  generalize TrN.name t = nm at *
  generalize TrN.num t = num at *
  clear hA hE hw hF hcp k3 k4 k5 k6 hg h1 h2 h3 h4 h5 h6
  go_enter Tryd.func55, Tryd.ntmps55
  go_wp2
  cases RO with
  | false =>
    have hx2 : (bits BinOp.andNot IntKind.i64 ((FK : Nat) : Int) 20 != 0) = true := hx
    clear hx
    go_big_quiet ((first | (go_at_call 73; exact Calls.quiet_of (HFi.out _)) | (go_at_call 74; exact Calls.quiet_of_same (HFo.out _))))
    go_wp2
    go_ret
    exact ⟨by rw [HR.out]; rfl, dqb w _⟩
  | true =>
    have hx2 : (bits BinOp.andNot IntKind.i64 ((FK : Nat) : Int) 20 != 0) = false := hx
    clear hx
    go_big_quiet ((first | (go_at_call 73; exact Calls.quiet_of (HFi.out _)) | (go_at_call 74; exact Calls.quiet_of_same (HFo.out _))))
    obtain ⟨hB1, hg1, r0, r1, r2, r3, r4, r5, r6⟩ := HW.out nq
    obtain ⟨wq, hwq⟩ : ∃ W, w.drewN nq = W := ⟨_, rfl⟩
    rw [hwq] at hB1 hg1 r0 r1 r2 r3 r4 r5 r6 ⊢
    have HB1 : Hid (Below w.heap.size w wq) := hB1
    have HQ : Hid (∃ n, wq = w.drewN n) := ⟨nq, hwq.symm⟩
    clear hB1 HW hwq HFi HFo h0 hgw hx2
    by_cases p1 : 1 ≤ n3
    · have p1i : (1 : Int) ≤ (n3 : Int) := by omega
      have e5 : decide (1 ≤ n3) = true := by simpa using p1
      rw [e5] at HR
      by_cases p2 : n3 ≤ 32
      · have p2i : (n3 : Int) ≤ 32 := by omega
        have e6 : decide (n3 ≤ 32) = true := by simpa using p2
        rw [e6] at HR
        go_wp2_with (go_at_call 77; fail)
        refine (HC.out wq HQ.out).mono ?_
        rintro e w1 ⟨rfl, hb1⟩
        have HB2 : Hid (Below w.heap.size w w1 ∧ g < w1.heap.size ∧ w1.cell? ⟨g, off + 5, none⟩ = some (.slice o5 n5 c5)) := ⟨HB1.out.trans (hb1.mono HB1.out.size), Nat.lt_of_lt_of_le hg1 hb1.size, (hb1.cell (p := ⟨g, off + 5, none⟩) hg1).trans r5⟩
        have hg2 := HB2.out.2.1
        have q5 := HB2.out.2.2
        clear hb1
        cases RI with
        | false =>
          go_wp2
          go_ret
          exact ⟨by rw [HR.out]; first | rfl | simp, HB2.out.1⟩
        | true =>
          by_cases e1 : n5 = 1
          · subst e1
            go_wp2
            go_ret
            exact ⟨by rw [HR.out]; first | rfl | simp, HB2.out.1⟩
          · have e2 : ((n5 : Int) == 1) = false := by simp; omega
            have e3 : decide (n5 = 1) = false := by simpa using e1
            have HR2 : Hid (mbN ab t = false) := by show _ = _; rw [HR.out, e3]; first | rfl | simp
            go_wp2
            go_ret
            exact ⟨by rw [HR2.out]; rfl, HB2.out.1⟩
      · have p2i : ¬ (n3 : Int) ≤ 32 := by omega
        have e6 : decide (n3 ≤ 32) = false := by simpa using p2
        have HR2 : Hid (mbN ab t = false) := by show _ = _; rw [HR.out, e6]; first | rfl | simp
        go_wp2
        go_ret
        exact ⟨by rw [HR2.out]; rfl, HB1.out⟩
    · have p1i : ¬ (1 : Int) ≤ (n3 : Int) := by omega
      have e5 : decide (1 ≤ n3) = false := by simpa using p1
      have HR2 : Hid (mbN ab t = false) := by show _ = _; rw [HR.out, e5]; first | rfl | simp
      go_wp2
      go_ret
      exact ⟨by rw [HR2.out]; rfl, HB1.out⟩
set_option maxRecDepth 100000 in
set_option maxHeartbeats 4000000 in
theorem mb6_c (m : Nat) (ab : List AltH → Bool) (d : Nat) (t : Tr (d + 1)) (B g off : Nat) (w : World) (hA : MbaOK m ab w) (hE : ExAt w B (d + 1) t g off) (hw : B ≤ w.heap.size) (hF : FitN t) (hcp : ∀ o n c, w.cell? ⟨g, off + 6, none⟩ = some (.slice o n c) → n ≤ c) (hk : TrN.kind t = 6) :
    Calls Tryd.prog 55 #[.map (some m), .pointer (some ⟨g, off, none⟩)] w fun e w' => e = .returned (.bool (mbN ab t)) ∧ Below w.heap.size w w' := by
  have HFi : Hid (∀ n, Calls Tryd.prog 73 #[.pointer (some ⟨g, off, none⟩)] (w.drewN n) fun e w' => e = .returned (.int .i64 (fillK (fillB t) 6 : Nat)) ∧ ∃ m, w' = (w.drewN n).drewN m) := fun n => filled_c d t B g off (w.drewN n) (hE.below ((dqb w n).mono hw)) hw ⟨hF.2.1.1, hF.2.2.1.1, hF.2.2.2.1, hF.2.2.2.2.1⟩
  have HFo : Hid (∀ n, Calls Tryd.prog 74 #[.int .i64 (TrN.kind t)] (w.drewN n) fun e w' => e = .returned (.int .i64 (fieldsM (TrN.kind t) : Nat)) ∧ w' = w.drewN n) := fun n => fieldsOf_c _ _
  have hx : (bits BinOp.andNot IntKind.i64 ((fillK (fillB t) 6 : Nat) : Int) (fieldsM (TrN.kind t) : Nat) != 0) = (!okF (fillB t) (fieldsM (TrN.kind t))) := anK _ _ (fieldsM_vals _)
  have HR : Hid (mbN ab t = (okF (fillB t) 16 && (decide (2 ≤ (TrN.args t).length) && decide ((TrN.args t).length ≤ 33)))) := by show _ = _; unfold mbN mbK; rw [hk]; rfl
  rw [hk] at HFo hx
  obtain ⟨hg, h0, h1, h2, ⟨o3, c3, h3, k3⟩, ⟨o4, c4, h4, k4⟩, ⟨o5, c5, h5, k5⟩, ⟨o6, c6, h6, k6⟩⟩ := id hE
  have hgw : g < w.heap.size := by omega
  have HC : Hid (∀ n : Nat, True) := fun _ => trivial
  have HW : Hid (∀ n, Below w.heap.size w (w.drewN n) ∧ g < (w.drewN n).heap.size ∧ (w.drewN n).cell? ⟨g, off, none⟩ = some (.int .i64 (TrN.kind t)) ∧ (w.drewN n).cell? ⟨g, off + 1, none⟩ = some (.string (TrN.name t)) ∧ (w.drewN n).cell? ⟨g, off + 2, none⟩ = some (.int .i64 (TrN.num t)) ∧ (w.drewN n).cell? ⟨g, off + 3, none⟩ = some (.slice o3 (TrN.params t).length c3) ∧ (w.drewN n).cell? ⟨g, off + 4, none⟩ = some (.slice o4 (TrN.binds t).length c4) ∧ (w.drewN n).cell? ⟨g, off + 5, none⟩ = some (.slice o5 (TrN.args t).length c5) ∧ (w.drewN n).cell? ⟨g, off + 6, none⟩ = some (.slice o6 (TrN.alts t).length c6)) := fun n => ⟨dqb w n, hgw, h0, h1, h2, h3, h4, h5, h6⟩
  have l3 : ((TrN.params t).length : Int) ≤ 2000000 := by have := hF.2.1.1; omega
  have l4 : ((TrN.binds t).length : Int) ≤ 2000000 := by have := hF.2.2.1.1; omega
  have l5 : ((TrN.args t).length : Int) ≤ 2000000 := by have := hF.2.2.2.1; omega
  have l6 : ((TrN.alts t).length : Int) ≤ 2000000 := by have := hF.2.2.2.2.1; omega
  rw [hk] at h0 HW
  have hf0 : fieldsM (6 : Int) = 16 := rfl
  rw [hf0] at HFo hx
  clear hf0 hk
  generalize okF (fillB t) 16 = RO at HR hx
  generalize fillK (fillB t) 6 = FK at HFi hx

  generalize (TrN.params t).length = n3 at *
  generalize (TrN.binds t).length = n4 at *
  generalize (TrN.args t).length = n5 at *
  generalize (TrN.alts t).length = n6 at *
  generalize TrN.name t = nm at *
  generalize TrN.num t = num at *
  clear hA hE hw hF hcp k3 k4 k5 k6 hg h1 h2 h3 h4 h5 h6
  go_enter Tryd.func55, Tryd.ntmps55
  go_wp2
  cases RO with
  | false =>
    have hx2 : (bits BinOp.andNot IntKind.i64 ((FK : Nat) : Int) 16 != 0) = true := hx
    clear hx
    go_big_quiet ((first | (go_at_call 73; exact Calls.quiet_of (HFi.out _)) | (go_at_call 74; exact Calls.quiet_of_same (HFo.out _))))
    go_wp2
    go_ret
    exact ⟨by rw [HR.out]; rfl, dqb w _⟩
  | true =>
    have hx2 : (bits BinOp.andNot IntKind.i64 ((FK : Nat) : Int) 16 != 0) = false := hx
    clear hx
    go_big_quiet ((first | (go_at_call 73; exact Calls.quiet_of (HFi.out _)) | (go_at_call 74; exact Calls.quiet_of_same (HFo.out _))))
    obtain ⟨hB1, hg1, r0, r1, r2, r3, r4, r5, r6⟩ := HW.out nq
    obtain ⟨wq, hwq⟩ : ∃ W, w.drewN nq = W := ⟨_, rfl⟩
    rw [hwq] at hB1 hg1 r0 r1 r2 r3 r4 r5 r6 ⊢
    have HB1 : Hid (Below w.heap.size w wq) := hB1
    have HQ : Hid (∃ n, wq = w.drewN n) := ⟨nq, hwq.symm⟩
    clear hB1 HW hwq HFi HFo h0 hgw hx2
    by_cases p1 : 2 ≤ n5
    · have p1i : (2 : Int) ≤ (n5 : Int) := by omega
      have e5 : decide (2 ≤ n5) = true := by simpa using p1
      rw [e5] at HR
      by_cases p2 : n5 ≤ 33
      · have p2i : (n5 : Int) ≤ 33 := by omega
        have e6 : decide (n5 ≤ 33) = true := by simpa using p2
        have HR2 : Hid (mbN ab t = true) := by show _ = _; rw [HR.out, e6]; first | rfl | simp
        go_wp2
        go_ret
        exact ⟨by rw [HR2.out]; rfl, HB1.out⟩
      · have p2i : ¬ (n5 : Int) ≤ 33 := by omega
        have e6 : decide (n5 ≤ 33) = false := by simpa using p2
        have HR2 : Hid (mbN ab t = false) := by show _ = _; rw [HR.out, e6]; first | rfl | simp
        go_wp2
        go_ret
        exact ⟨by rw [HR2.out]; rfl, HB1.out⟩
    · have p1i : ¬ (2 : Int) ≤ (n5 : Int) := by omega
      have e5 : decide (2 ≤ n5) = false := by simpa using p1
      have HR2 : Hid (mbN ab t = false) := by show _ = _; rw [HR.out, e5]; first | rfl | simp
      go_wp2
      go_ret
      exact ⟨by rw [HR2.out]; rfl, HB1.out⟩
set_option maxRecDepth 100000 in
set_option maxHeartbeats 4000000 in
theorem mb7_c (m : Nat) (ab : List AltH → Bool) (d : Nat) (t : Tr (d + 1)) (B g off : Nat) (w : World) (hA : MbaOK m ab w) (hE : ExAt w B (d + 1) t g off) (hw : B ≤ w.heap.size) (hF : FitN t) (hcp : ∀ o n c, w.cell? ⟨g, off + 6, none⟩ = some (.slice o n c) → n ≤ c) (hk : TrN.kind t = 7) :
    Calls Tryd.prog 55 #[.map (some m), .pointer (some ⟨g, off, none⟩)] w fun e w' => e = .returned (.bool (mbN ab t)) ∧ Below w.heap.size w w' := by
  have HFi : Hid (∀ n, Calls Tryd.prog 73 #[.pointer (some ⟨g, off, none⟩)] (w.drewN n) fun e w' => e = .returned (.int .i64 (fillK (fillB t) 6 : Nat)) ∧ ∃ m, w' = (w.drewN n).drewN m) := fun n => filled_c d t B g off (w.drewN n) (hE.below ((dqb w n).mono hw)) hw ⟨hF.2.1.1, hF.2.2.1.1, hF.2.2.2.1, hF.2.2.2.2.1⟩
  have HFo : Hid (∀ n, Calls Tryd.prog 74 #[.int .i64 (TrN.kind t)] (w.drewN n) fun e w' => e = .returned (.int .i64 (fieldsM (TrN.kind t) : Nat)) ∧ w' = w.drewN n) := fun n => fieldsOf_c _ _
  have hx : (bits BinOp.andNot IntKind.i64 ((fillK (fillB t) 6 : Nat) : Int) (fieldsM (TrN.kind t) : Nat) != 0) = (!okF (fillB t) (fieldsM (TrN.kind t))) := anK _ _ (fieldsM_vals _)
  have HR : Hid (mbN ab t = (okF (fillB t) 24 && (decide (0 < (TrN.binds t).length) && (areB ((TrN.binds t).map Prod.fst) && decide ((TrN.args t).length = 1))))) := by show _ = _; unfold mbN mbK; rw [hk]; rfl
  rw [hk] at HFo hx
  obtain ⟨hg, h0, h1, h2, ⟨o3, c3, h3, k3⟩, ⟨o4, c4, h4, k4⟩, ⟨o5, c5, h5, k5⟩, ⟨o6, c6, h6, k6⟩⟩ := id hE
  have hgw : g < w.heap.size := by omega
  have HC : Hid (∀ W, (∃ n, W = w.drewN n) → Calls Tryd.prog 36 #[.slice o4 (TrN.binds t).length c4] W fun e w' => e = .returned (.slice (some ⟨W.heap.size, 0, none⟩) (TrN.binds t).length (TrN.binds t).length) ∧ Calls Tryd.prog 77 #[.slice (some ⟨W.heap.size, 0, none⟩) (TrN.binds t).length (TrN.binds t).length] w' fun e w'' => e = .returned (.bool (areB ((TrN.binds t).map Prod.fst))) ∧ Below W.heap.size W w'') := fun W hW => by
    obtain ⟨n, rfl⟩ := hW
    have hc : ∀ g' off', g' < B → (w.drewN n).cell? ⟨g', off', none⟩ = w.cell? ⟨g', off', none⟩ := fun _ _ _ => rfl
    refine (boundBy_c d (TrN.binds t) o4 c4 B (w.drewN n) (k4.mono (fun y g off hg h => ⟨h.1, ExAt.same hc d _ _ _ h.2⟩)) hw hF.2.2.1.1).mono ?_
    rintro e w' ⟨rfl, hT, hb⟩
    refine ⟨rfl, ?_⟩
    have ha := areNames_c ((TrN.binds t).map Prod.fst) (some ⟨(w.drewN n).heap.size, 0, none⟩) (TrN.binds t).length w'.heap.size w' hT.fit (Nat.le_refl _) (by rw [List.length_map]; exact hF.2.2.1.1) (by intro x hx; obtain ⟨b, hb9, rfl⟩ := List.mem_map.1 hx; exact hF.2.2.1.2 b hb9)
    rw [List.length_map] at ha
    refine ha.mono ?_
    rintro e w'' ⟨rfl, h9⟩
    exact ⟨rfl, hb.trans (h9.mono hb.size)⟩
  have HW : Hid (∀ n, Below w.heap.size w (w.drewN n) ∧ g < (w.drewN n).heap.size ∧ (w.drewN n).cell? ⟨g, off, none⟩ = some (.int .i64 (TrN.kind t)) ∧ (w.drewN n).cell? ⟨g, off + 1, none⟩ = some (.string (TrN.name t)) ∧ (w.drewN n).cell? ⟨g, off + 2, none⟩ = some (.int .i64 (TrN.num t)) ∧ (w.drewN n).cell? ⟨g, off + 3, none⟩ = some (.slice o3 (TrN.params t).length c3) ∧ (w.drewN n).cell? ⟨g, off + 4, none⟩ = some (.slice o4 (TrN.binds t).length c4) ∧ (w.drewN n).cell? ⟨g, off + 5, none⟩ = some (.slice o5 (TrN.args t).length c5) ∧ (w.drewN n).cell? ⟨g, off + 6, none⟩ = some (.slice o6 (TrN.alts t).length c6)) := fun n => ⟨dqb w n, hgw, h0, h1, h2, h3, h4, h5, h6⟩
  have l3 : ((TrN.params t).length : Int) ≤ 2000000 := by have := hF.2.1.1; omega
  have l4 : ((TrN.binds t).length : Int) ≤ 2000000 := by have := hF.2.2.1.1; omega
  have l5 : ((TrN.args t).length : Int) ≤ 2000000 := by have := hF.2.2.2.1; omega
  have l6 : ((TrN.alts t).length : Int) ≤ 2000000 := by have := hF.2.2.2.2.1; omega
  rw [hk] at h0 HW
  have hf0 : fieldsM (7 : Int) = 24 := rfl
  rw [hf0] at HFo hx
  clear hf0 hk
  generalize okF (fillB t) 24 = RO at HR hx
  generalize fillK (fillB t) 6 = FK at HFi hx
  generalize areB ((TrN.binds t).map Prod.fst) = RI at HR HC
  generalize (TrN.params t).length = n3 at *
  generalize (TrN.binds t).length = n4 at *
  generalize (TrN.args t).length = n5 at *
  generalize (TrN.alts t).length = n6 at *
  generalize TrN.name t = nm at *
  generalize TrN.num t = num at *
  clear hA hE hw hF hcp k3 k4 k5 k6 hg h1 h2 h3 h4 h5 h6
  go_enter Tryd.func55, Tryd.ntmps55
  go_wp2
  cases RO with
  | false =>
    have hx2 : (bits BinOp.andNot IntKind.i64 ((FK : Nat) : Int) 24 != 0) = true := hx
    clear hx
    go_big_quiet ((first | (go_at_call 73; exact Calls.quiet_of (HFi.out _)) | (go_at_call 74; exact Calls.quiet_of_same (HFo.out _))))
    go_wp2
    go_ret
    exact ⟨by rw [HR.out]; rfl, dqb w _⟩
  | true =>
    have hx2 : (bits BinOp.andNot IntKind.i64 ((FK : Nat) : Int) 24 != 0) = false := hx
    clear hx
    go_big_quiet ((first | (go_at_call 73; exact Calls.quiet_of (HFi.out _)) | (go_at_call 74; exact Calls.quiet_of_same (HFo.out _))))
    obtain ⟨hB1, hg1, r0, r1, r2, r3, r4, r5, r6⟩ := HW.out nq
    obtain ⟨wq, hwq⟩ : ∃ W, w.drewN nq = W := ⟨_, rfl⟩
    rw [hwq] at hB1 hg1 r0 r1 r2 r3 r4 r5 r6 ⊢
    have HB1 : Hid (Below w.heap.size w wq) := hB1
    have HQ : Hid (∃ n, wq = w.drewN n) := ⟨nq, hwq.symm⟩
    clear hB1 HW hwq HFi HFo h0 hgw hx2
    by_cases p1 : 0 < n4
    · have p1i : (0 : Int) < (n4 : Int) := by omega
      have e5 : decide (0 < n4) = true := by simpa using p1
      rw [e5] at HR
      go_wp2_with (go_at_call 36; fail)
      refine (HC.out wq HQ.out).mono ?_
      rintro e w0 ⟨rfl, hca⟩
      have HCA : Hid (Calls Tryd.prog 77 #[.slice (some ⟨wq.heap.size, 0, none⟩) n4 n4] w0 fun e w'' => e = .returned (.bool RI) ∧ Below wq.heap.size wq w'') := hca
      clear hca HC
      go_wp2_with (go_at_call 77; fail)
      refine HCA.out.mono ?_
      rintro e w1 ⟨rfl, hb1⟩
      have HB2 : Hid (Below w.heap.size w w1 ∧ g < w1.heap.size ∧ w1.cell? ⟨g, off + 5, none⟩ = some (.slice o5 n5 c5)) := ⟨HB1.out.trans (hb1.mono HB1.out.size), Nat.lt_of_lt_of_le hg1 hb1.size, (hb1.cell (p := ⟨g, off + 5, none⟩) hg1).trans r5⟩
      have hg2 := HB2.out.2.1
      have q5 := HB2.out.2.2
      clear hb1
      cases RI with
      | false =>
        go_wp2
        go_ret
        exact ⟨by rw [HR.out]; first | rfl | simp, HB2.out.1⟩
      | true =>
        by_cases e1 : n5 = 1
        · subst e1
          go_wp2
          go_ret
          exact ⟨by rw [HR.out]; first | rfl | simp, HB2.out.1⟩
        · have e2 : ((n5 : Int) == 1) = false := by simp; omega
          have e3 : decide (n5 = 1) = false := by simpa using e1
          have HR2 : Hid (mbN ab t = false) := by show _ = _; rw [HR.out, e3]; first | rfl | simp
          go_wp2
          go_ret
          exact ⟨by rw [HR2.out]; rfl, HB2.out.1⟩
    · have p1i : ¬ (0 : Int) < (n4 : Int) := by omega
      have e5 : decide (0 < n4) = false := by simpa using p1
      have HR2 : Hid (mbN ab t = false) := by show _ = _; rw [HR.out, e5]; first | rfl | simp
      go_wp2
      go_ret
      exact ⟨by rw [HR2.out]; rfl, HB1.out⟩
set_option maxRecDepth 100000 in
set_option maxHeartbeats 4000000 in
theorem mb8_c (m : Nat) (ab : List AltH → Bool) (d : Nat) (t : Tr (d + 1)) (B g off : Nat) (w : World) (hA : MbaOK m ab w) (hE : ExAt w B (d + 1) t g off) (hw : B ≤ w.heap.size) (hF : FitN t) (hcp : ∀ o n c, w.cell? ⟨g, off + 6, none⟩ = some (.slice o n c) → n ≤ c) (hk : TrN.kind t = 8) :
    Calls Tryd.prog 55 #[.map (some m), .pointer (some ⟨g, off, none⟩)] w fun e w' => e = .returned (.bool (mbN ab t)) ∧ Below w.heap.size w w' := by
  have HFi : Hid (∀ n, Calls Tryd.prog 73 #[.pointer (some ⟨g, off, none⟩)] (w.drewN n) fun e w' => e = .returned (.int .i64 (fillK (fillB t) 6 : Nat)) ∧ ∃ m, w' = (w.drewN n).drewN m) := fun n => filled_c d t B g off (w.drewN n) (hE.below ((dqb w n).mono hw)) hw ⟨hF.2.1.1, hF.2.2.1.1, hF.2.2.2.1, hF.2.2.2.2.1⟩
  have HFo : Hid (∀ n, Calls Tryd.prog 74 #[.int .i64 (TrN.kind t)] (w.drewN n) fun e w' => e = .returned (.int .i64 (fieldsM (TrN.kind t) : Nat)) ∧ w' = w.drewN n) := fun n => fieldsOf_c _ _
  have hx : (bits BinOp.andNot IntKind.i64 ((fillK (fillB t) 6 : Nat) : Int) (fieldsM (TrN.kind t) : Nat) != 0) = (!okF (fillB t) (fieldsM (TrN.kind t))) := anK _ _ (fieldsM_vals _)
  have HR : Hid (mbN ab t = (okF (fillB t) 48 && (decide ((TrN.args t).length = 1) && ab ((TrN.alts t).map Prod.fst)))) := by show _ = _; unfold mbN mbK; rw [hk]; rfl
  rw [hk] at HFo hx
  obtain ⟨hg, h0, h1, h2, ⟨o3, c3, h3, k3⟩, ⟨o4, c4, h4, k4⟩, ⟨o5, c5, h5, k5⟩, ⟨o6, c6, h6, k6⟩⟩ := id hE
  have hgw : g < w.heap.size := by omega
  have HC : Hid (∀ W, (∃ n, W = w.drewN n) → Calls Tryd.prog 78 #[.map (some m), .slice o6 (TrN.alts t).length c6] W fun e w' => e = .returned (.bool (ab ((TrN.alts t).map Prod.fst))) ∧ Below W.heap.size W w') := fun W hW => by
    obtain ⟨n, rfl⟩ := hW
    have hc : ∀ g' off', g' < B → (w.drewN n).cell? ⟨g', off', none⟩ = w.cell? ⟨g', off', none⟩ := fun _ _ _ => rfl
    exact hA (w.drewN n) (dqb w n) d (TrN.alts t) o6 c6 B (k6.mono (fun y g off hg h => AltAt.same hc h)) hw hF.2.2.2.2.1 (hcp _ _ _ h6) hF.2.2.2.2.2
  have HW : Hid (∀ n, Below w.heap.size w (w.drewN n) ∧ g < (w.drewN n).heap.size ∧ (w.drewN n).cell? ⟨g, off, none⟩ = some (.int .i64 (TrN.kind t)) ∧ (w.drewN n).cell? ⟨g, off + 1, none⟩ = some (.string (TrN.name t)) ∧ (w.drewN n).cell? ⟨g, off + 2, none⟩ = some (.int .i64 (TrN.num t)) ∧ (w.drewN n).cell? ⟨g, off + 3, none⟩ = some (.slice o3 (TrN.params t).length c3) ∧ (w.drewN n).cell? ⟨g, off + 4, none⟩ = some (.slice o4 (TrN.binds t).length c4) ∧ (w.drewN n).cell? ⟨g, off + 5, none⟩ = some (.slice o5 (TrN.args t).length c5) ∧ (w.drewN n).cell? ⟨g, off + 6, none⟩ = some (.slice o6 (TrN.alts t).length c6)) := fun n => ⟨dqb w n, hgw, h0, h1, h2, h3, h4, h5, h6⟩
  have l3 : ((TrN.params t).length : Int) ≤ 2000000 := by have := hF.2.1.1; omega
  have l4 : ((TrN.binds t).length : Int) ≤ 2000000 := by have := hF.2.2.1.1; omega
  have l5 : ((TrN.args t).length : Int) ≤ 2000000 := by have := hF.2.2.2.1; omega
  have l6 : ((TrN.alts t).length : Int) ≤ 2000000 := by have := hF.2.2.2.2.1; omega
  rw [hk] at h0 HW
  have hf0 : fieldsM (8 : Int) = 48 := rfl
  rw [hf0] at HFo hx
  clear hf0 hk
  generalize okF (fillB t) 48 = RO at HR hx
  generalize fillK (fillB t) 6 = FK at HFi hx
  generalize ab ((TrN.alts t).map Prod.fst) = RI at HR HC
  generalize (TrN.params t).length = n3 at *
  generalize (TrN.binds t).length = n4 at *
  generalize (TrN.args t).length = n5 at *
  generalize (TrN.alts t).length = n6 at *
  generalize TrN.name t = nm at *
  generalize TrN.num t = num at *
  clear hA hE hw hF hcp k3 k4 k5 k6 hg h1 h2 h3 h4 h5 h6
  go_enter Tryd.func55, Tryd.ntmps55
  go_wp2
  cases RO with
  | false =>
    have hx2 : (bits BinOp.andNot IntKind.i64 ((FK : Nat) : Int) 48 != 0) = true := hx
    clear hx
    go_big_quiet ((first | (go_at_call 73; exact Calls.quiet_of (HFi.out _)) | (go_at_call 74; exact Calls.quiet_of_same (HFo.out _))))
    go_wp2
    go_ret
    exact ⟨by rw [HR.out]; rfl, dqb w _⟩
  | true =>
    have hx2 : (bits BinOp.andNot IntKind.i64 ((FK : Nat) : Int) 48 != 0) = false := hx
    clear hx
    go_big_quiet ((first | (go_at_call 73; exact Calls.quiet_of (HFi.out _)) | (go_at_call 74; exact Calls.quiet_of_same (HFo.out _))))
    obtain ⟨hB1, hg1, r0, r1, r2, r3, r4, r5, r6⟩ := HW.out nq
    obtain ⟨wq, hwq⟩ : ∃ W, w.drewN nq = W := ⟨_, rfl⟩
    rw [hwq] at hB1 hg1 r0 r1 r2 r3 r4 r5 r6 ⊢
    have HB1 : Hid (Below w.heap.size w wq) := hB1
    have HQ : Hid (∃ n, wq = w.drewN n) := ⟨nq, hwq.symm⟩
    clear hB1 HW hwq HFi HFo h0 hgw hx2
    by_cases e1 : n5 = 1
    · subst e1
      go_wp2_with (go_at_call 78; fail)
      refine (HC.out wq HQ.out).mono ?_
      rintro e w1 ⟨rfl, hb1⟩
      have HB2 : Hid (Below w.heap.size w w1) := HB1.out.trans (hb1.mono HB1.out.size)
      clear hb1
      go_wp2
      go_ret
      exact ⟨by rw [HR.out]; first | rfl | simp, HB2.out⟩
    · have e2 : ((n5 : Int) == 1) = false := by simp; omega
      have e3 : decide (n5 = 1) = false := by simpa using e1
      have HR2 : Hid (mbN ab t = false) := by show _ = _; rw [HR.out, e3]; first | rfl | simp
      go_wp2
      go_ret
      exact ⟨by rw [HR2.out]; rfl, HB1.out⟩
set_option maxRecDepth 100000 in
set_option maxHeartbeats 4000000 in
theorem mb0_c (m : Nat) (ab : List AltH → Bool) (d : Nat) (t : Tr (d + 1)) (B g off : Nat) (w : World) (hA : MbaOK m ab w) (hE : ExAt w B (d + 1) t g off) (hw : B ≤ w.heap.size) (hF : FitN t) (hcp : ∀ o n c, w.cell? ⟨g, off + 6, none⟩ = some (.slice o n c) → n ≤ c) (hf : fieldsM (TrN.kind t) = 0) (hk1 : TrN.kind t ≠ 1) (hk4 : TrN.kind t ≠ 4) (hk9 : TrN.kind t ≠ 9) (hk2 : TrN.kind t ≠ 2) (hk3 : TrN.kind t ≠ 3) (hk5 : TrN.kind t ≠ 5) (hk6 : TrN.kind t ≠ 6) (hk7 : TrN.kind t ≠ 7) (hk8 : TrN.kind t ≠ 8) :
    Calls Tryd.prog 55 #[.map (some m), .pointer (some ⟨g, off, none⟩)] w fun e w' => e = .returned (.bool (mbN ab t)) ∧ Below w.heap.size w w' := by
  have HFi : Hid (∀ n, Calls Tryd.prog 73 #[.pointer (some ⟨g, off, none⟩)] (w.drewN n) fun e w' => e = .returned (.int .i64 (fillK (fillB t) 6 : Nat)) ∧ ∃ m, w' = (w.drewN n).drewN m) := fun n => filled_c d t B g off (w.drewN n) (hE.below ((dqb w n).mono hw)) hw ⟨hF.2.1.1, hF.2.2.1.1, hF.2.2.2.1, hF.2.2.2.2.1⟩
  have HFo : Hid (∀ n, Calls Tryd.prog 74 #[.int .i64 (TrN.kind t)] (w.drewN n) fun e w' => e = .returned (.int .i64 (fieldsM (TrN.kind t) : Nat)) ∧ w' = w.drewN n) := fun n => fieldsOf_c _ _
  have hx : (bits BinOp.andNot IntKind.i64 ((fillK (fillB t) 6 : Nat) : Int) (fieldsM (TrN.kind t) : Nat) != 0) = (!okF (fillB t) (fieldsM (TrN.kind t))) := anK _ _ (fieldsM_vals _)
  have HR : Hid (mbN ab t = (okF (fillB t) 0 && false)) := by
    show _ = _
    unfold mbN mbK
    rw [if_neg hk1, if_neg hk4, if_neg hk9, if_neg hk2, if_neg hk3, if_neg hk5, if_neg hk6, if_neg hk7, if_neg hk8, hf]
  rw [hf] at HFo hx
  have d1 : (TrN.kind t == 1) = false := by simpa using hk1
  have d4 : (TrN.kind t == 4) = false := by simpa using hk4
  have d9 : (TrN.kind t == 9) = false := by simpa using hk9
  have d2 : (TrN.kind t == 2) = false := by simpa using hk2
  have d3 : (TrN.kind t == 3) = false := by simpa using hk3
  have d5 : (TrN.kind t == 5) = false := by simpa using hk5
  have d6 : (TrN.kind t == 6) = false := by simpa using hk6
  have d7 : (TrN.kind t == 7) = false := by simpa using hk7
  have d8 : (TrN.kind t == 8) = false := by simpa using hk8
  obtain ⟨hg, h0, h1, h2, ⟨o3, c3, h3, k3⟩, ⟨o4, c4, h4, k4⟩, ⟨o5, c5, h5, k5⟩, ⟨o6, c6, h6, k6⟩⟩ := id hE
  have hgw : g < w.heap.size := by omega
  have HC : Hid (∀ n : Nat, True) := fun _ => trivial
  have HW : Hid (∀ n, Below w.heap.size w (w.drewN n) ∧ g < (w.drewN n).heap.size ∧ (w.drewN n).cell? ⟨g, off, none⟩ = some (.int .i64 (TrN.kind t)) ∧ (w.drewN n).cell? ⟨g, off + 1, none⟩ = some (.string (TrN.name t)) ∧ (w.drewN n).cell? ⟨g, off + 2, none⟩ = some (.int .i64 (TrN.num t)) ∧ (w.drewN n).cell? ⟨g, off + 3, none⟩ = some (.slice o3 (TrN.params t).length c3) ∧ (w.drewN n).cell? ⟨g, off + 4, none⟩ = some (.slice o4 (TrN.binds t).length c4) ∧ (w.drewN n).cell? ⟨g, off + 5, none⟩ = some (.slice o5 (TrN.args t).length c5) ∧ (w.drewN n).cell? ⟨g, off + 6, none⟩ = some (.slice o6 (TrN.alts t).length c6)) := fun n => ⟨dqb w n, hgw, h0, h1, h2, h3, h4, h5, h6⟩
  have l3 : ((TrN.params t).length : Int) ≤ 2000000 := by have := hF.2.1.1; omega
  have l4 : ((TrN.binds t).length : Int) ≤ 2000000 := by have := hF.2.2.1.1; omega
  have l5 : ((TrN.args t).length : Int) ≤ 2000000 := by have := hF.2.2.2.1; omega
  have l6 : ((TrN.alts t).length : Int) ≤ 2000000 := by have := hF.2.2.2.2.1; omega
  clear hf hk1 hk4 hk9 hk2 hk3 hk5 hk6 hk7 hk8
  generalize TrN.kind t = kd at *
  generalize okF (fillB t) 0 = RO at HR hx
  generalize fillK (fillB t) 6 = FK at HFi hx

  generalize (TrN.params t).length = n3 at *
  generalize (TrN.binds t).length = n4 at *
  generalize (TrN.args t).length = n5 at *
  generalize (TrN.alts t).length = n6 at *
  generalize TrN.name t = nm at *
  generalize TrN.num t = num at *
  clear hA hE hw hF hcp k3 k4 k5 k6 hg h1 h2 h3 h4 h5 h6
  go_enter Tryd.func55, Tryd.ntmps55
  go_wp2
  cases RO with
  | false =>
    have hx2 : (bits BinOp.andNot IntKind.i64 ((FK : Nat) : Int) 0 != 0) = true := hx
    clear hx
    go_big_quiet ((first | (go_at_call 73; exact Calls.quiet_of (HFi.out _)) | (go_at_call 74; exact Calls.quiet_of_same (HFo.out _))))
    go_wp2
    go_ret
    exact ⟨by rw [HR.out]; rfl, dqb w _⟩
  | true =>
    have hx2 : (bits BinOp.andNot IntKind.i64 ((FK : Nat) : Int) 0 != 0) = false := hx
    clear hx
    go_big_quiet ((first | (go_at_call 73; exact Calls.quiet_of (HFi.out _)) | (go_at_call 74; exact Calls.quiet_of_same (HFo.out _))))
    obtain ⟨hB1, hg1, r0, r1, r2, r3, r4, r5, r6⟩ := HW.out nq
    obtain ⟨wq, hwq⟩ : ∃ W, w.drewN nq = W := ⟨_, rfl⟩
    rw [hwq] at hB1 hg1 r0 r1 r2 r3 r4 r5 r6 ⊢
    have HB1 : Hid (Below w.heap.size w wq) := hB1
    have HQ : Hid (∃ n, wq = w.drewN n) := ⟨nq, hwq.symm⟩
    clear hB1 HW hwq HFi HFo h0 hgw hx2
    go_wp2
    go_ret
    exact ⟨by rw [HR.out]; rfl, HB1.out⟩
theorem mayBe_c (m : Nat) (ab : List AltH → Bool) (d : Nat) (t : Tr (d + 1)) (B g off : Nat) (w : World) (hA : MbaOK m ab w) (hE : ExAt w B (d + 1) t g off) (hw : B ≤ w.heap.size) (hF : FitN t) (hcp : ∀ o n c, w.cell? ⟨g, off + 6, none⟩ = some (.slice o n c) → n ≤ c) :
    Calls Tryd.prog 55 #[.map (some m), .pointer (some ⟨g, off, none⟩)] w fun e w' => e = .returned (.bool (mbN ab t)) ∧ Below w.heap.size w w' := by
  by_cases h1 : TrN.kind t = 1
  · exact mb1_c m ab d t B g off w hA hE hw hF hcp h1
  by_cases h4 : TrN.kind t = 4
  · exact mb4_c m ab d t B g off w hA hE hw hF hcp h4
  by_cases h9 : TrN.kind t = 9
  · exact mb9_c m ab d t B g off w hA hE hw hF hcp h9
  by_cases h2 : TrN.kind t = 2
  · exact mb2_c m ab d t B g off w hA hE hw hF hcp h2
  by_cases h3 : TrN.kind t = 3
  · exact mb3_c m ab d t B g off w hA hE hw hF hcp h3
  by_cases h5 : TrN.kind t = 5
  · exact mb5_c m ab d t B g off w hA hE hw hF hcp h5
  by_cases h6 : TrN.kind t = 6
  · exact mb6_c m ab d t B g off w hA hE hw hF hcp h6
  by_cases h7 : TrN.kind t = 7
  · exact mb7_c m ab d t B g off w hA hE hw hF hcp h7
  by_cases h8 : TrN.kind t = 8
  · exact mb8_c m ab d t B g off w hA hE hw hF hcp h8
  have hf : fieldsM (TrN.kind t) = 0 := by unfold fieldsM; rw [if_neg h1, if_neg h2, if_neg h3, if_neg h4, if_neg h9, if_neg h5, if_neg h6, if_neg h7, if_neg h8]
  exact mb0_c m ab d t B g off w hA hE hw hF hcp hf h1 h4 h9 h2 h3 h5 h6 h7 h8
end Go.Proofs.YtjmpjfggbhongaaDoor
