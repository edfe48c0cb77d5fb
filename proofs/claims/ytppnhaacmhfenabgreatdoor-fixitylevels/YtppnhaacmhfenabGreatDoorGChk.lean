/-
  May a node be: the mathematics, and the map of patterns as it is asked.
  May a node be: by a contract.
  syntax.Check, by a contract.
-/
import Derived.Test.YtppnhaacmhfenabGreatDoorGNf
import Derived.Test.YtppnhaacmhfenabGreatDoorGKp
import Derived.Test.YtppnhaacmhfenabGreatDoorGLexi
import Derived.Deep.RegionHeld3
namespace Go.Proofs.YtppnhaacmhfenabGreatDoor
open Go.RowKit Go.Shelf Go.Maps
set_option linter.unusedVariables false
variable {b0 : Nat}

/-- Is a node itself as its kind asks? -/
def ownM (n : Nd) : Bool := match kp n.kind with
  | none => false
  | some ps => nameM n.kind (bs n.name) n.kids.length && numM n.kind n.num && fitsB ps (kinds n.kids)
/-- May a tree be, down to some depth? -/
def mbM : Nat → Nd → Bool
  | 0, _ => false
  | d + 1, n => ownM n && n.kids.all (mbM d)
def cntT : Nat → Nd → Nat
  | 0, _ => 0
  | d + 1, n => 1 + (n.kids.map (cntT d)).sum
def deepLe : Nat → Nd → Prop
  | 0, _ => False
  | d + 1, n => ∀ k ∈ n.kids, deepLe d k
theorem hK_all (d : Nat) (ih : ∀ (m : Nat) (n : Nd), (hN d m n).1 = true → deepLe d n ∧ cntT d n + (hN d m n).2 = m) : ∀ (l : List Nd) (m : Nat), (hK (hN d) m l).1 = true → (∀ k ∈ l, deepLe d k) ∧ (l.map (cntT d)).sum + (hK (hN d) m l).2 = m
  | [], m, _ => ⟨fun k hk => (by cases hk), by simp [hK]⟩
  | n :: ns, m, h => by
    unfold hK at h ⊢
    by_cases h1 : (hN d m n).1 = true
    · rw [if_pos h1] at h ⊢
      have h2 := ih m n h1
      have h3 := hK_all d ih ns _ h
      refine ⟨fun k hk => ?_, ?_⟩
      · rcases List.mem_cons.1 hk with rfl | hk
        · exact h2.1
        · exact h3.1 k hk
      · rw [List.map_cons, List.sum_cons]; omega
    · rw [if_neg h1] at h; cases h
theorem hNall : ∀ (d m : Nat) (n : Nd), (hN d m n).1 = true → deepLe d n ∧ cntT d n + (hN d m n).2 = m
  | 0, m, n, h => by cases h
  | d + 1, m, n, h => by
    unfold hN at h ⊢
    by_cases h0 : m = 0
    · rw [if_pos h0] at h; cases h
    · rw [if_neg h0] at h ⊢
      have := hK_all d (hNall d) n.kids (m - 1) h
      exact ⟨this.1, by unfold cntT; omega⟩
theorem sum_take (f : Nd → Nat) : ∀ (l : List Nd) (k : Nat) (h : k < l.length), ((l.take (k + 1)).map f).sum = ((l.take k).map f).sum + f l[k]
  | l, k, h => by rw [List.take_succ_eq_append_getElem h, List.map_append, List.sum_append]; simp
theorem sum_take_le (f : Nd → Nat) (l : List Nd) (k : Nat) : ((l.take k).map f).sum ≤ (l.map f).sum := by
  have : l.map f = (l.take k).map f ++ (l.drop k).map f := by rw [← List.map_append, List.take_append_drop]
  rw [this, List.sum_append]; omega
theorem len_le_cnt (d : Nat) (l : List Nd) (h : ∀ k ∈ l, deepLe d k) : l.length ≤ (l.map (cntT d)).sum := by
  induction l with
  | nil => exact Nat.zero_le _
  | cons n ns ih =>
    have h1 := ih (fun k hk => h k (List.mem_cons_of_mem _ hk))
    have h2 : 1 ≤ cntT d n := by
      have h3 := h n (List.mem_cons_self)
      cases d with
      | zero => cases h3
      | succ d => unfold cntT; omega
    rw [List.map_cons, List.sum_cons, List.length_cons]; omega
theorem all_take (p : Nd → Bool) (l : List Nd) (k : Nat) (h : k < l.length) (ht : (l.take k).all p = true) : l.all p = (p l[k] && (l.drop (k + 1)).all p) := by
  have e : l = l.take k ++ l[k] :: l.drop (k + 1) := by rw [← List.drop_eq_getElem_cons h, List.take_append_drop]
  refine (congrArg (fun x => List.all x p) e).trans ?_
  show (List.take k l ++ l[k] :: List.drop (k + 1) l).all p = _
  rw [List.all_append, ht, List.all_cons]
  simp
theorem take_all_succ (p : Nd → Bool) (l : List Nd) (k : Nat) (h : k < l.length) : (l.take (k + 1)).all p = ((l.take k).all p && p l[k]) := by
  rw [List.take_succ_eq_append_getElem h, List.all_append]; simp

theorem lenOf {o : Option (List (List Int → Int))} {ps : List (List Int → Int)} {m : Nat} (h : o = some ps) (e : o.map List.length = some m) (hm : m ≤ 3) : ps.length ≤ 3 := by
  rw [h] at e; simp at e; omega
theorem kp_none (k : Int) (h : ∀ i : Nat, i < 44 → k ≠ (i : Int) + 1) : kp k = none := by
  have hk : k < 1 ∨ 44 < k := by
    by_cases h1 : k < 1
    · exact .inl h1
    · by_cases h2 : 44 < k
      · exact .inr h2
      · exact absurd (by omega) (h (k - 1).toNat (by omega))
  unfold kp
  repeat rw [if_neg (by omega)]
set_option maxRecDepth 100000 in
theorem kp_len (k : Int) (ps : List (List Int → Int)) (h : kp k = some ps) : ps.length ≤ 3 := by
  by_cases q1 : k = 1
  · subst q1; exact lenOf h rfl (by decide)
  by_cases q2 : k = 2
  · subst q2; exact lenOf h rfl (by decide)
  by_cases q3 : k = 3
  · subst q3; exact lenOf h rfl (by decide)
  by_cases q4 : k = 4
  · subst q4; exact lenOf h rfl (by decide)
  by_cases q5 : k = 5
  · subst q5; exact lenOf h rfl (by decide)
  by_cases q6 : k = 6
  · subst q6; exact lenOf h rfl (by decide)
  by_cases q7 : k = 7
  · subst q7; exact lenOf h rfl (by decide)
  by_cases q8 : k = 8
  · subst q8; exact lenOf h rfl (by decide)
  by_cases q9 : k = 9
  · subst q9; exact lenOf h rfl (by decide)
  by_cases q10 : k = 10
  · subst q10; exact lenOf h rfl (by decide)
  by_cases q11 : k = 11
  · subst q11; exact lenOf h rfl (by decide)
  by_cases q12 : k = 12
  · subst q12; exact lenOf h rfl (by decide)
  by_cases q13 : k = 13
  · subst q13; exact lenOf h rfl (by decide)
  by_cases q14 : k = 14
  · subst q14; exact lenOf h rfl (by decide)
  by_cases q15 : k = 15
  · subst q15; exact lenOf h rfl (by decide)
  by_cases q16 : k = 16
  · subst q16; exact lenOf h rfl (by decide)
  by_cases q17 : k = 17
  · subst q17; exact lenOf h rfl (by decide)
  by_cases q18 : k = 18
  · subst q18; exact lenOf h rfl (by decide)
  by_cases q19 : k = 19
  · subst q19; exact lenOf h rfl (by decide)
  by_cases q20 : k = 20
  · subst q20; exact lenOf h rfl (by decide)
  by_cases q21 : k = 21
  · subst q21; exact lenOf h rfl (by decide)
  by_cases q22 : k = 22
  · subst q22; exact lenOf h rfl (by decide)
  by_cases q23 : k = 23
  · subst q23; exact lenOf h rfl (by decide)
  by_cases q24 : k = 24
  · subst q24; exact lenOf h rfl (by decide)
  by_cases q25 : k = 25
  · subst q25; exact lenOf h rfl (by decide)
  by_cases q26 : k = 26
  · subst q26; exact lenOf h rfl (by decide)
  by_cases q27 : k = 27
  · subst q27; exact lenOf h rfl (by decide)
  by_cases q28 : k = 28
  · subst q28; exact lenOf h rfl (by decide)
  by_cases q29 : k = 29
  · subst q29; exact lenOf h rfl (by decide)
  by_cases q30 : k = 30
  · subst q30; exact lenOf h rfl (by decide)
  by_cases q31 : k = 31
  · subst q31; exact lenOf h rfl (by decide)
  by_cases q32 : k = 32
  · subst q32; exact lenOf h rfl (by decide)
  by_cases q33 : k = 33
  · subst q33; exact lenOf h rfl (by decide)
  by_cases q34 : k = 34
  · subst q34; exact lenOf h rfl (by decide)
  by_cases q35 : k = 35
  · subst q35; exact lenOf h rfl (by decide)
  by_cases q36 : k = 36
  · subst q36; exact lenOf h rfl (by decide)
  by_cases q37 : k = 37
  · subst q37; exact lenOf h rfl (by decide)
  by_cases q38 : k = 38
  · subst q38; exact lenOf h rfl (by decide)
  by_cases q39 : k = 39
  · subst q39; exact lenOf h rfl (by decide)
  by_cases q40 : k = 40
  · subst q40; exact lenOf h rfl (by decide)
  by_cases q41 : k = 41
  · subst q41; exact lenOf h rfl (by decide)
  by_cases q42 : k = 42
  · subst q42; exact lenOf h rfl (by decide)
  by_cases q43 : k = 43
  · subst q43; exact lenOf h rfl (by decide)
  by_cases q44 : k = 44
  · subst q44; exact lenOf h rfl (by decide)
  rw [kp_none k (fun i hi e => by omega)] at h
  cases h

/-- The map of kinds and patterns, whole. -/
def KM (b0 : Nat) (W : World) : Prop := ∃ L : List (Int × Value), L.map Prod.fst = (List.range 44).map (fun i : Nat => (i : Int) + 1) ∧ MapSt b0 W L
theorem KM.lt {W : World} (h : KM b0 W) : b0 < W.heap.size := by
  obtain ⟨L, h1, h2⟩ := h
  exact h2.1.lt
theorem KM.below {W W' : World} (h : KM b0 W) (hb : Below W.heap.size W W') : KM b0 W' := by
  obtain ⟨L, h1, h2⟩ := h
  exact ⟨L, h1, h2.below hb⟩
theorem KM.but {W W' : World} {bl : Nat} (h : KM b0 W) (hb : But bl W W') (hl : bl + 3 < b0) : KM b0 W' := by
  obtain ⟨L, h1, h2⟩ := h
  refine ⟨L, h1, ?_, fun p hp => ?_⟩
  · have hlt := h2.1.lt
    obtain ⟨es, clock, k1, k2⟩ := h2.1
    exact ⟨es, clock, by rw [hb.block b0 hlt (by omega)]; exact k1, k2⟩
  · obtain ⟨ps, o, cap, k1, k2, k3⟩ := h2.2 p hp
    exact ⟨ps, o, cap, k1, k2, k3.agr (agr_but hb hl)⟩
theorem km_of {w W : World} {vw vr vo : Value} (h : KS2 b0 w W vw vr vo 44) : KM b0 W := by
  obtain ⟨L, h1, h2⟩ := h
  exact ⟨L, h1, h2.2.2.2.2⟩
theorem zeroPats (w : World) : (zeroValue 87).run Tryz.prog w = .ok (.slice none 0 0) w := by kernel_rfl
theorem KM.look {W : World} (h : KM b0 W) (k : Int) (hk : -9223372036854775808 ≤ k ∧ k ≤ 9223372036854775807) :
    ∃ (v : Value) (b : Bool), (∀ X : World, X.heap = W.heap → (Instr.lookup 64 (.map (some b0)) (.int .i64 k) true).run Tryz.prog X = .ok (.tuple #[v, .bool b]) X) ∧ ((kp k = none ∧ b = false ∧ v = .slice none 0 0) ∨ ∃ ps o cap, kp k = some ps ∧ b = true ∧ v = .slice o ps.length cap ∧ PatsAt b0 W o ps) := by
  obtain ⟨L, h1, h2⟩ := h
  have hkey : keyOf Tryz.prog 3 (.int .i64 k) = some (.int .i64 k) := keyOf_int_mk Tryz.underlying3 (by simp [Lit.wf, IntKind.min, IntKind.max, IntKind.signed, IntKind.bits]; omega)
  have hrunAll : ∀ X : World, X.heap = W.heap → ∃ v ps, (Instr.lookup 64 (.map (some b0)) (.int .i64 k) true).run Tryz.prog X = .ok (.tuple #[v, .bool (Maps.has (Dkp L) (.int .i64 k))]) X ∧ heldElem v = some ((Dkp L).atKey (.int .i64 k) (.held (.slice none 0 0)), ps) := by
    intro X hX
    have hown : X.ownsMap Tryz.prog 3 heldElem b0 L.length (Dkp L) := by
      obtain ⟨es, clock, k1, k2⟩ := h2.1
      exact ⟨es, clock, by rw [hX]; exact k1, k2⟩
    exact hown.look_ok (int_keyed Tryz.underlying3) Tryz.underlying64 (zeroPats X) (zd := .held (.slice none 0 0)) (zp := []) rfl hkey
  rcases Dkp_look L k (.held (.slice none 0 0)) with ⟨v, hm, ha, hh⟩ | ⟨hm, ha, hh⟩
  · refine ⟨v, true, fun X hX => ?_, .inr ?_⟩
    · obtain ⟨v', ps, hr, hv⟩ := hrunAll X hX
      rw [ha] at hv
      rw [hh] at hr
      rw [heldElem_inv hv] at hr
      exact hr
    · obtain ⟨ps, o, cap, k1, k2, k3⟩ := h2.2 _ hm
      exact ⟨ps, o, cap, k1, rfl, k2, k3⟩
  · refine ⟨.slice none 0 0, false, fun X hX => ?_, .inl ⟨?_, rfl, rfl⟩⟩
    · obtain ⟨v', ps, hr, hv⟩ := hrunAll X hX
      rw [ha] at hv
      rw [hh] at hr
      rw [heldElem_inv hv] at hr
      exact hr
    · refine kp_none k (fun i hi e => ?_)
      have hmem : k ∈ L.map Prod.fst := by rw [h1, e]; exact List.mem_map.2 ⟨i, List.mem_range.2 hi, rfl⟩
      obtain ⟨p, hp, hpk⟩ := List.mem_map.1 hmem
      exact hm p hp hpk
end Go.Proofs.YtppnhaacmhfenabGreatDoor

namespace Go.Proofs.YtppnhaacmhfenabGreatDoor
open Go.RowKit Go.Shelf Go.Maps
set_option linter.unusedVariables false
variable {b0 : Nat}

/-- What holds whenever a node is looked at. -/
def MSt (b0 bl B c : Nat) (W : World) (n : Nd) (g off : Nat) : Prop := NdAt W B n g off ∧ g < W.heap.size ∧ KM b0 W ∧ GOK W ∧ LexSt W bl c
theorem MSt.below {bl B c : Nat} {W W' : World} {n : Nd} {g off : Nat} (h : MSt b0 bl B c W n g off) (hb : Below W.heap.size W W') (hB : B ≤ bl) (hgb : g ≠ bl) : MSt b0 bl B c W' n g off := by
  have hlt := h.2.2.2.2.lt
  exact ⟨NdAt.but (but_below hb bl) hB (by omega) n g off h.2.1 hgb h.1, Nat.lt_of_lt_of_le h.2.1 hb.size, h.2.2.1.below hb, h.2.2.2.1.below hb, h.2.2.2.2.below hb⟩
theorem MSt.but {bl B c c' : Nat} {W W' : World} {n : Nd} {g off : Nat} (h : MSt b0 bl B c W n g off) (hb : But bl W W') (hl : LexSt W' bl c') (hB : B ≤ bl) (hgb : g ≠ bl) (hbl : bl + 3 < b0) (hG : 6 ≤ bl) : MSt b0 bl B c' W' n g off := by
  have hlt := h.2.2.2.2.lt
  exact ⟨NdAt.but hb hB (by omega) n g off h.2.1 hgb h.1, Nat.lt_of_lt_of_le h.2.1 hb.size, h.2.2.1.but hb hbl, h.2.2.2.1.but hb hG, hl⟩

set_option maxRecDepth 100000 in
set_option maxHeartbeats 8000000 in
theorem nodeBe_c (bl B : Nat) (hB : B ≤ bl) (hbl : bl + 3 < b0) (hGs : 6 ≤ bl) : ∀ (d : Nat) (n : Nd) (g off c : Nat) (w : World), deepLe d n → g ≠ bl → MSt b0 bl B c w n g off → c + cntT d n ≤ 4611686018427387904 →
    Calls Tryz.prog 29 #[.agg #[.map (some b0), .map (some bl)], .pointer (some ⟨g, off, none⟩)] w fun e W' => e = .returned (.bool (mbM d n)) ∧ But bl w W' ∧ LexSt W' bl (c + cntT d n) := by
  intro d
  induction d with
  | zero => intro n g off c w h; cases h
  | succ d ih =>
    intro n g off c w hd hgb hM hcn
    have hdep : Tryz.prog.follows Departure.mixedOrders = true := by kernel_rfl
    have hd' : ∀ k ∈ n.kids, deepLe d k := hd
    have hlen := len_le_cnt d n.kids hd'
    have hcT : cntT (d + 1) n = 1 + (n.kids.map (cntT d)).sum := rfl
    have HI : Hid (∀ (n : Nd) (g off c : Nat) (w : World), deepLe d n → g ≠ bl → MSt b0 bl B c w n g off → c + cntT d n ≤ 4611686018427387904 → Calls Tryz.prog 29 #[.agg #[.map (some b0), .map (some bl)], .pointer (some ⟨g, off, none⟩)] w fun e W' => e = .returned (.bool (mbM d n)) ∧ But bl w W' ∧ LexSt W' bl (c + cntT d n)) := ih
    clear ih
    -- the world behind the box of the checker
    obtain ⟨V, hV⟩ : ∃ V, w.alloc (.cells #[.map (some b0), .map (some bl)] 67) = V := ⟨_, rfl⟩
    have hVb : Below w.heap.size w V := by rw [← hV]; exact (Below.refl _ w).alloc (Nat.le_refl _) _
    have hVs : V.heap.size = w.heap.size + 1 := by rw [← hV]; simp
    have hBx : Blk V w.heap.size #[.map (some b0), .map (some bl)] 67 := by rw [← hV]; exact Blk.new w _ _
    have hMV : MSt b0 bl B c V n g off := hM.below hVb hB hgb
    have hlt := hM.2.2.2.2.lt
    obtain ⟨o, cap, k0, k1, k2, k3, k4, hc1, hc2, hKI⟩ := hMV.1.cells
    obtain ⟨⟨wk1, wk2⟩, wn, wu1, wu2⟩ := hMV.1.wf
    obtain ⟨v, b, hlk, hkp⟩ := hMV.2.2.1.look n.kind ⟨wk1, wk2⟩
    have HBV : Hid (But bl w V) := but_below hVb bl
    have hbx : w.heap.size ≠ bl := by omega
    have j0 : V.cell? ⟨w.heap.size, 0, none⟩ = some (.map (some b0)) := hBx.cell 0 _ rfl
    have j1 : V.cell? ⟨w.heap.size, 1, none⟩ = some (.map (some bl)) := hBx.cell 1 _ rfl
    have hgV : g < V.heap.size := hMV.2.1
    have hlkD : ∀ m : Nat, (Instr.lookup 64 (.map (some b0)) (.int .i64 n.kind) true).run Tryz.prog (V.drewN m) = .ok (.tuple #[v, .bool b]) (V.drewN m) := fun m => hlk _ rfl
    rcases hkp with ⟨hkn, rfl, rfl⟩ | ⟨ps, ol, capl, hks, rfl, rfl, hPA⟩
    · have HR : Hid (mbM (d + 1) n = false) := by show _ = _; unfold mbM ownM; rw [hkn]; rfl
      have HLf : Hid (LexSt V bl (c + cntT (d + 1) n)) := hMV.2.2.2.2.mono (by omega)
      generalize n.kind = kd at k0 hlkD
      clear hM hMV hcn hd hd' hlen hcT HI hVb hVs hBx hlt k1 k2 k3 k4 hc1 hc2 hKI wk1 wk2 wn wu1 wu2 hlk hkn
      go_enter Tryz.func29, Tryz.ntmps29
      go_wp2
      go_big_quiet (fail)
      go_wp2
      go_ret
      exact ⟨by rw [HR.out]; rfl, HBV.out.trans ⟨rfl, rfl, rfl, Nat.le_refl _, fun _ _ _ => rfl⟩, HLf.out.below ⟨rfl, rfl, rfl, Nat.le_refl _, fun _ _ => rfl⟩⟩
    · obtain ⟨P, hP⟩ : ∃ P, ps.length = P := ⟨_, rfl⟩
      obtain ⟨L, hL⟩ : ∃ L, n.kids.length = L := ⟨_, rfl⟩
      have hp3 := kp_len _ _ hks
      have HLL : Hid (n.kids.length = L) := hL
      have HCnt : Hid (cntT (d + 1) n = 1 + (n.kids.map (cntT d)).sum) := hcT
      have HCN : Hid (c + cntT (d + 1) n ≤ 4611686018427387904) := hcn
      have HDk : Hid (∀ k ∈ n.kids, deepLe d k) := hd'
      have HO : Hid (ownM n = (nameM n.kind (bs n.name) n.kids.length && numM n.kind n.num && fitsB ps (kinds n.kids))) := by show _ = _; unfold ownM; rw [hks]
      -- all that is asked of a node in a world
      have HCell : Hid (∀ (X : World) (c' : Nat), MSt b0 bl B c' X n g off → But bl V X → X.cell? ⟨g, off, none⟩ = some (.int .i64 n.kind) ∧ X.cell? ⟨g, off + 1, none⟩ = some (.string (bs n.name)) ∧ X.cell? ⟨g, off + 2, none⟩ = some (.int .i64 n.num) ∧ X.cell? ⟨g, off + 3, none⟩ = some (.slice o L cap) ∧ KIn X B o n.kids) := by
        intro X c' hX hb
        have hk3 : X.cell? ⟨g, off + 3, none⟩ = some (.slice o L cap) := by rw [← hL]; exact (hb.cell g (off + 3) hgV hgb).trans k3
        exact ⟨(hb.cell g off hgV hgb).trans k0, (hb.cell g (off + 1) hgV hgb).trans k1, (hb.cell g (off + 2) hgV hgb).trans k2, hk3, hKI.below (hb.below hB (by omega))⟩
      have HNF : Hid (∀ (X : World), MSt b0 bl B c X n g off → But bl V X → Calls Tryz.prog 50 #[.agg #[.map (some b0), .map (some bl)], .pointer (some ⟨g, off, none⟩)] X fun e W' => e = .returned (.bool (nameM n.kind (bs n.name) n.kids.length)) ∧ But bl X W' ∧ LexSt W' bl (c + 1)) := by
        intro X hX hb
        have hcl := HCell.out X c hX hb
        rw [hL]
        exact nameFits_c n.kind (bs n.name) (by rw [bs_size]; exact wn) o L cap g off b0 bl c (by omega) X hX.2.2.2.1 hX.2.2.2.2 hcl.1 hcl.2.1 hcl.2.2.2.1 hX.2.1 hgb
      have HNU : Hid (∀ (X : World) (c' : Nat), MSt b0 bl B c' X n g off → But bl V X → Calls Tryz.prog 51 #[.pointer (some ⟨g, off, none⟩)] X fun e W' => e = .returned (.bool (numM n.kind n.num)) ∧ Below X.heap.size X W') := by
        intro X c' hX hb
        have hcl := HCell.out X c' hX hb
        exact numFits_c n.kind n.num g off X hcl.1 hcl.2.2.1 hX.2.1
      have HFT : Hid (∀ (X : World) (c' : Nat), MSt b0 bl B c' X n g off → But bl V X → Calls Tryz.prog 52 #[.slice ol P capl, .slice o L cap] X fun e W' => e = .returned (.bool (fitsB ps (kinds n.kids))) ∧ Below X.heap.size X W') := by
        intro X c' hX hb
        have hcl := HCell.out X c' hX hb
        have := fits_c ps ol capl X (hPA.agr (agr_but hb hbl)) (by omega) B o n.kids cap hcl.2.2.2.2 (by have := hX.2.2.2.2.lt; omega) hc1 (by omega)
        rw [hP, hL] at this
        exact this
      have HBox : Hid (∀ X : World, But bl V X → X.cell? ⟨w.heap.size, 0, none⟩ = some (.map (some b0)) ∧ X.cell? ⟨w.heap.size, 1, none⟩ = some (.map (some bl))) := fun X hb => ⟨(hb.cell w.heap.size 0 (by omega) hbx).trans j0, (hb.cell w.heap.size 1 (by omega) hbx).trans j1⟩
      have HMB : Hid (∀ (X X' : World) (c1 c2 : Nat), MSt b0 bl B c1 X n g off → But bl X X' → LexSt X' bl c2 → MSt b0 bl B c2 X' n g off) := fun X X' c1 c2 h1 h2 h3 => h1.but h2 h3 hB hgb hbl hGs
      have HMV : Hid (MSt b0 bl B c V n g off) := hMV
      have HKid : Hid (∀ (X : World) (c' k : Nat) (hk : k < n.kids.length), MSt b0 bl B c' X n g off → But bl V X → c' + cntT d n.kids[k] ≤ 4611686018427387904 → ∃ g2 off2, o = some ⟨g2, off2, none⟩ ∧ Calls Tryz.prog 29 #[.agg #[.map (some b0), .map (some bl)], .pointer (some ⟨g2, off2 + k * 5, none⟩)] X fun e W' => e = .returned (.bool (mbM d n.kids[k])) ∧ But bl X W' ∧ LexSt W' bl (c' + cntT d n.kids[k])) := by
        intro X c' k hk hX hb hcc
        have hcl := HCell.out X c' hX hb
        obtain ⟨g2, off2, e, hg2, hKA⟩ := hcl.2.2.2.2.at k hk
        refine ⟨g2, off2, e, HI.out n.kids[k] g2 (off2 + k * 5) c' X (hd' _ (List.getElem_mem hk)) (by omega) ⟨hKA.get n.kids g2 off2 k hk, by have := hX.2.2.2.2.lt; omega, hX.2.2.1, hX.2.2.2.1, hX.2.2.2.2⟩ hcc⟩
      have HMb : Hid (mbM (d + 1) n = (ownM n && n.kids.all (mbM d))) := rfl
      have hLi : (L : Int) ≤ 4611686018427387904 := by omega
      generalize nameM n.kind (bs n.name) n.kids.length = bN at HNF HO
      generalize numM n.kind n.num = bU at HNU HO
      generalize fitsB ps (kinds n.kids) = bF at HFT HO
      generalize n.kind = kd at k0 hlkD HCell
      rw [hP] at hlkD
      clear hM hMV hcn hd hd' hlen hcT HI hVb hBx hlt k1 k2 k3 k4 hc1 hc2 hKI wk1 wk2 wn wu1 wu2 hlk hks hp3 hP hL hPA
      go_enter Tryz.func29, Tryz.ntmps29
      go_wp2
      go_big_quiet (fail)
      obtain ⟨V1, hV1⟩ : ∃ V1, V.drewN nq = V1 := ⟨_, rfl⟩
      have hVV1 : Below V.heap.size V V1 := by rw [← hV1]; exact ⟨rfl, rfl, rfl, Nat.le_refl _, fun _ _ => rfl⟩
      have HM1 : Hid (MSt b0 bl B c V1 n g off) := HMV.out.below hVV1 hB hgb
      have HB1 : Hid (But bl V V1) := but_below hVV1 bl
      have hbx1 := HBox.out V1 HB1.out
      obtain ⟨i0, i1⟩ := hbx1
      have hwV1 : w.heap.size < V1.heap.size := by have := hVV1.size; omega
      clear hVV1 j0 j1 hlkD k0
      go_wp2_with (go_at_call 50; fail)
      refine (HNF.out V1 HM1.out HB1.out).mono ?_
      rintro e w1 ⟨rfl, hb1, hl1⟩
      have HM2 : Hid (MSt b0 bl B (c + 1) w1 n g off) := HMB.out _ _ _ _ HM1.out hb1 hl1
      have HB2 : Hid (But bl V w1) := HB1.out.trans hb1
      have HL2 : Hid (LexSt w1 bl (c + cntT (d + 1) n)) := hl1.mono (by have := HCnt.out; omega)
      clear hb1 hl1 i0 i1 HNF
      cases bN with
      | false =>
        go_wp2
        go_ret
        exact ⟨by rw [HMb.out, HO.out]; rfl, HBV.out.trans HB2.out, HL2.out⟩
      | true =>
        go_wp2_with (go_at_call 51; fail)
        refine (HNU.out w1 _ HM2.out HB2.out).mono ?_
        rintro e w2 ⟨rfl, hb2⟩
        have HM3 : Hid (MSt b0 bl B (c + 1) w2 n g off) := HM2.out.below hb2 hB hgb
        have HB3 : Hid (But bl V w2) := HB2.out.trans (but_below hb2 bl)
        have HL3 : Hid (LexSt w2 bl (c + cntT (d + 1) n)) := HL2.out.below hb2
        clear hb2 HL2 HM2 HNU
        cases bU with
        | false =>
          go_wp2
          go_ret
          exact ⟨by rw [HMb.out, HO.out]; rfl, HBV.out.trans HB3.out, HL3.out⟩
        | true =>
          have c3 := (HCell.out w2 _ HM3.out HB3.out).2.2.2.1
          have hg3 : g < w2.heap.size := HM3.out.2.1
          go_wp2_with (go_at_call 52; fail)
          refine (HFT.out w2 _ HM3.out HB3.out).mono ?_
          rintro e w3 ⟨rfl, hb3⟩
          have HM4 : Hid (MSt b0 bl B (c + 1) w3 n g off) := HM3.out.below hb3 hB hgb
          have HB4 : Hid (But bl V w3) := HB3.out.trans (but_below hb3 bl)
          have HL4 : Hid (LexSt w3 bl (c + cntT (d + 1) n)) := HL3.out.below hb3
          clear hb3 HL3 HM3 HFT c3 hg3
          cases bF with
          | false =>
            go_wp2
            go_ret
            exact ⟨by rw [HMb.out, HO.out]; rfl, HBV.out.trans HB4.out, HL4.out⟩
          | true =>
            have c4 := (HCell.out w3 _ HM4.out HB4.out).2.2.2.1
            have hg4 : g < w3.heap.size := HM4.out.2.1
            have HMb2 : Hid (mbM (d + 1) n = n.kids.all (mbM d)) := by show _ = _; rw [HMb.out, HO.out]; rfl
            go_wp2
            go_loopw [45] (fun i wr => ∃ (k c2 : Nat), k ≤ L ∧ i = .int .i64 k ∧ Hid (c2 = c + 1 + ((n.kids.take k).map (cntT d)).sum) ∧ Hid (MSt b0 bl B c2 wr n g off) ∧ Hid (But bl V wr) ∧ Hid ((n.kids.take k).all (mbM d) = true)) (fun i _ => L - (intOf i).toNat)
            case atStart => exact ⟨0, c + 1, Nat.zero_le _, rfl, rfl, HM4, HB4, rfl⟩
            case round =>
              obtain ⟨k, c2, hk, rfl, hc2, hMr, hBr, hAl⟩ := hrel
              clear c4 hg4 HM4 HB4 HL4 HB3 HB2 HM1 HB1
              by_cases hlt : k < L
              · have hkL : k < n.kids.length := by rw [HLL.out]; exact hlt
                have hki : (k : Int) < (L : Int) := by omega
                have hst := sum_take (cntT d) n.kids k hkL
                have hsl := sum_take_le (cntT d) n.kids (k + 1)
                have hcc : c2 + cntT d n.kids[k] ≤ 4611686018427387904 := by have h1 := hc2.out; have h2 := HCN.out; have h3 := HCnt.out; omega
                have hMd : MSt b0 bl B c2 wr.drew n g off := hMr.out.below ⟨rfl, rfl, rfl, Nat.le_refl _, fun _ _ => rfl⟩ hB hgb
                have hBd : But bl V wr.drew := hBr.out.trans ⟨rfl, rfl, rfl, Nat.le_refl _, fun _ _ _ => rfl⟩
                obtain ⟨g2, off2, ho2, -⟩ := HKid.out wr c2 k hkL hMr.out hBr.out hcc
                have HCk : Hid (∀ X : World, Hid (MSt b0 bl B c2 X n g off ∧ But bl V X) → Calls Tryz.prog 29 #[.agg #[.map (some b0), .map (some bl)], .pointer (some ⟨g2, off2 + k * 5, none⟩)] X fun e W' => e = .returned (.bool (mbM d n.kids[k])) ∧ But bl X W' ∧ LexSt W' bl (c2 + cntT d n.kids[k])) := by
                  intro X hX
                  obtain ⟨g3, off3, ho3, hcl⟩ := HKid.out X c2 k hkL hX.out.1 hX.out.2 hcc
                  rw [ho2] at ho3
                  simp only [Option.some.injEq, Addr.mk.injEq, and_true] at ho3
                  obtain ⟨rfl, rfl⟩ := ho3
                  exact hcl
                have HPre : Hid (MSt b0 bl B c2 wr n g off ∧ But bl V wr) := ⟨hMr.out, hBr.out⟩
                have HPreD : Hid (MSt b0 bl B c2 wr.drew n g off ∧ But bl V wr.drew) := ⟨hMd, hBd⟩
                have hS := fun (X : World) (c' : Nat) (h1 : MSt b0 bl B c' X n g off) (h2 : But bl V X) => (⟨(HBox.out X h2).1, (HBox.out X h2).2, (HCell.out X c' h1 h2).2.2.2.1⟩ : X.cell? ⟨w.heap.size, 0, none⟩ = some (.map (some b0)) ∧ X.cell? ⟨w.heap.size, 1, none⟩ = some (.map (some bl)) ∧ X.cell? ⟨g, off + 3, none⟩ = some (.slice o L cap))
                have hS0 := hS wr c2 hMr.out hBr.out
                have hS0d := hS wr.drew c2 hMd hBd
                subst ho2
                have HS0 : Hid (wr.cell? ⟨w.heap.size, 0, none⟩ = some (.map (some b0)) ∧ wr.cell? ⟨w.heap.size, 1, none⟩ = some (.map (some bl)) ∧ wr.cell? ⟨g, off + 3, none⟩ = some (.slice (some ⟨g2, off2, none⟩) L cap)) := hS0
                have HS0d : Hid (wr.drew.cell? ⟨w.heap.size, 0, none⟩ = some (.map (some b0)) ∧ wr.drew.cell? ⟨w.heap.size, 1, none⟩ = some (.map (some bl)) ∧ wr.drew.cell? ⟨g, off + 3, none⟩ = some (.slice (some ⟨g2, off2, none⟩) L cap)) := hS0d
                have HS2 : Hid (∀ (X X' : World), Hid (MSt b0 bl B c2 X n g off ∧ But bl V X) → But bl X X' → LexSt X' bl (c2 + cntT d n.kids[k]) → (X'.cell? ⟨w.heap.size, 0, none⟩ = some (.map (some b0)) ∧ X'.cell? ⟨w.heap.size, 1, none⟩ = some (.map (some bl)) ∧ X'.cell? ⟨g, off + 3, none⟩ = some (.slice (some ⟨g2, off2, none⟩) L cap)) ∧ Hid (MSt b0 bl B (c2 + cntT d n.kids[k]) X' n g off) ∧ Hid (But bl V X')) := fun X X' h1 h2 h3 => ⟨hS X' _ (HMB.out _ _ _ _ h1.out.1 h2 h3) (h1.out.2.trans h2), HMB.out _ _ _ _ h1.out.1 h2 h3, h1.out.2.trans h2⟩
                have Hc2 : Hid (c2 + cntT d n.kids[k] = c + 1 + ((n.kids.take (k + 1)).map (cntT d)).sum) := by show _ = _; rw [hst, hc2.out]; omega
                have HAl2 : Hid ((n.kids.take (k + 1)).all (mbM d) = mbM d n.kids[k]) := by show _ = _; rw [take_all_succ _ _ _ hkL, hAl.out]; rfl
                have HAlF : Hid (mbM d n.kids[k] = false → mbM (d + 1) n = false) := fun h => by rw [HMb2.out, all_take _ _ _ hkL hAl.out, h]; rfl
                have HcF : Hid (c2 + cntT d n.kids[k] ≤ c + cntT (d + 1) n) := by show _ ≤ _; have h1 := hc2.out; have h3 := HCnt.out; omega
                have hwr : w.heap.size < wr.heap.size := by have := hBr.out.size; omega
                have hgr : g < wr.heap.size := hMr.out.2.1
                generalize mbM d n.kids[k] = bk at HCk HAl2 HAlF
                generalize c2 + cntT d n.kids[k] = c3 at HCk HS2 Hc2 HcF
                clear hst hsl hcc hMd hBd hS hS0 hS0d hMr hBr hkL hAl hc2
                go_wp2
                go_region_held3 (fun X : World => X.cell? ⟨w.heap.size, 0, none⟩ = some (.map (some b0)) ∧ X.cell? ⟨w.heap.size, 1, none⟩ = some (.map (some bl)) ∧ X.cell? ⟨g, off + 3, none⟩ = some (.slice (some ⟨g2, off2, none⟩) L cap))
                  (first
                    | with_reducible exact HS0.out
                    | with_reducible exact HS0d.out
                    | with_reducible exact hS2)
                  (first
                    | (go_at_call 29; (with_reducible refine (HCk.out _ HPreD).mono ?_); rintro e w4 ⟨rfl, hb4, hl4⟩; have hQ := HS2.out _ _ HPreD hb4 hl4; have hS2 := hQ.1; have HM5 := hQ.2.1; have HB5 := hQ.2.2; have HL5 : Hid (LexSt w4 bl c3) := hl4; clear hb4 hl4 hQ))
                cases bk with
                | true =>
                  go_wp2
                  go_roundw
                  all_goals first | exact ⟨k + 1, c3, by omega, by go_num, Hc2, HM5, HB5, HAl2⟩ | (simp [intOf]; omega)
                | false =>
                  have HF2 : Hid (mbM (d + 1) n = false) := HAlF.out rfl
                  clear HAlF
                  go_wp2
                  go_ret
                  exact ⟨by rw [HF2.out]; rfl, HBV.out.trans HB5.out, HL5.out.mono HcF.out⟩
              · obtain rfl : k = L := by omega
                have HT : Hid (mbM (d + 1) n = true) := by
                  show _ = _
                  rw [HMb2.out]
                  have := hAl.out
                  rw [List.take_of_length_le (by rw [HLL.out]; exact Nat.le_refl _)] at this
                  exact this
                have HLf : Hid (LexSt wr bl (c + cntT (d + 1) n)) := by
                  have h1 := hc2.out
                  rw [List.take_of_length_le (by rw [HLL.out]; exact Nat.le_refl _)] at h1
                  exact hMr.out.2.2.2.2.mono (by have := HCnt.out; omega)
                go_wp2
                go_ret
                exact ⟨by rw [HT.out]; rfl, HBV.out.trans hBr.out, HLf.out⟩
end Go.Proofs.YtppnhaacmhfenabGreatDoor

namespace Go.Proofs.YtppnhaacmhfenabGreatDoor
open Go.RowKit Go.Shelf Go.Maps
set_option linter.unusedVariables false

mutual
theorem NdAt.mono {W : World} {B B' : Nat} (hb : B ≤ B') : ∀ (n : Nd) (g off : Nat), NdAt W B n g off → NdAt W B' n g off
  | .mk k nm nu kids ps, g, off, h => by
    simp only [NdAt] at h ⊢
    obtain ⟨o, cap, h0, h1, h2, h3, h4, hc, hc2, hwf, hk⟩ := h
    refine ⟨o, cap, h0, h1, h2, h3, h4, hc, hc2, hwf, ?_⟩
    rcases hk with hk | ⟨g', off', e, hg', hk⟩
    · exact .inl hk
    · exact .inr ⟨g', off', e, by omega, KidsAt.mono hb kids g' off' hk⟩
theorem KidsAt.mono {W : World} {B B' : Nat} (hb : B ≤ B') : ∀ (ns : List Nd) (g off : Nat), KidsAt W B ns g off → KidsAt W B' ns g off
  | [], _, _, _ => by simp only [KidsAt]
  | n :: ns, g, off, h => by
    simp only [KidsAt] at h ⊢
    exact ⟨NdAt.mono hb n g off h.1, KidsAt.mono hb ns g (off + 5) h.2⟩
end
theorem Blk.new2 (w : World) (o : Obj) (vs : Array Value) (T : TypeId) : Blk ((w.alloc o).alloc (.cells vs T)) (w.heap.size + 1) vs T := by
  have := Blk.new (w.alloc o) vs T
  have hs : (w.alloc o).heap.size = w.heap.size + 1 := by simp
  rw [hs] at this
  exact this
/-- What Check answers. -/
def chkM (n : Nd) : Int := if (hN 256 1048576 n).1 = true then (if mbM 256 n = true then 0 else 2) else 3
/-- A node as a value. -/
def ndV (n : Nd) (o : Option Addr) (cap : Nat) : Value := .agg #[.int .i64 n.kind, .string (bs n.name), .int .i64 n.num, .slice o n.kids.length cap, .int .i64 n.pos]
/-- A node that was handed over by value: its parts lie below B. -/
def NdIn (W : World) (B : Nat) (n : Nd) (o : Option Addr) (cap : Nat) : Prop := KIn W B o n.kids ∧ n.kids.length ≤ cap ∧ cap ≤ 9223372036854775807 ∧ (-9223372036854775808 ≤ n.kind ∧ n.kind ≤ 9223372036854775807) ∧ n.name.length ≤ 9223372036854775807 ∧ (-9223372036854775808 ≤ n.num ∧ n.num ≤ 9223372036854775807)
theorem NdIn.below {W W' : World} {B : Nat} {n : Nd} {o : Option Addr} {cap : Nat} (h : NdIn W B n o cap) (hb : Below B W W') : NdIn W' B n o cap := ⟨h.1.below hb, h.2⟩
/-- A node that lies in a block of its own. -/
theorem ndAt_blk {W : World} {B g : Nat} {n : Nd} {o : Option Addr} {cap : Nat} {T : TypeId} (h : NdIn W B n o cap) (hb : Blk W g #[.int .i64 n.kind, .string (bs n.name), .int .i64 n.num, .slice o n.kids.length cap, .int .i64 n.pos] T) : NdAt W B n g 0 := by
  obtain ⟨h1, h2, h3, h4, h5, h6⟩ := h
  cases n
  simp only [NdAt]
  exact ⟨o, cap, hb.cell 0 _ rfl, hb.cell 1 _ rfl, hb.cell 2 _ rfl, hb.cell 3 _ rfl, hb.cell 4 _ rfl, h2, h3, ⟨h4, h5, h6⟩, h1⟩

set_option maxRecDepth 100000 in
set_option maxHeartbeats 8000000 in
theorem nodeChk_c (n : Nd) (o : Option Addr) (cap B bl c : Nat) (w : World) (hn : NdIn w B n o cap) (hB : B ≤ bl) (hG : GOK w) (hGs : 6 ≤ bl) (hL : LexSt w bl c) (hc : c + 1048576 ≤ 4611686018427387904) :
    Calls Tryz.prog 18 #[.agg #[.int .i64 n.kind, .string (bs n.name), .int .i64 n.num, .slice o n.kids.length cap, .int .i64 n.pos], .map (some bl)] w fun e W' => e = .returned (.int .i64 (chkM n)) ∧ But bl w W' ∧ LexSt W' bl (c + 1048576) := by
  have hlt := hL.lt
  obtain ⟨V, hV⟩ : ∃ V, (w.alloc (.cells #[.int .i64 n.kind, .string (bs n.name), .int .i64 n.num, .slice o n.kids.length cap, .int .i64 n.pos] 28)).alloc (.cells #[.int .i64 1048576] 63) = V := ⟨_, rfl⟩
  have hVb : Below w.heap.size w V := by rw [← hV]; exact ((Below.refl _ w).alloc (Nat.le_refl _) _).alloc (by simp) _
  have hVs : V.heap.size = w.heap.size + 2 := by rw [← hV]; simp
  have hB1 : Blk V w.heap.size #[.int .i64 n.kind, .string (bs n.name), .int .i64 n.num, .slice o n.kids.length cap, .int .i64 n.pos] 28 := by rw [← hV]; exact (Blk.new w _ _).alloc _
  have hB2 : Blk V (w.heap.size + 1) #[.int .i64 1048576] 63 := by rw [← hV]; exact Blk.new2 w _ _ _
  have hnV : NdIn V B n o cap := hn.below (hVb.mono (by omega))
  have HH : Hid (Calls Tryz.prog 27 #[.pointer (some ⟨w.heap.size + 1, 0, none⟩), .pointer (some ⟨w.heap.size, 0, none⟩), .int .i64 256] V fun e w' => e = .returned (.bool (hN 256 1048576 n).1) ∧ Blk w' (w.heap.size + 1) #[.int .i64 ((hN 256 1048576 n).2 : Int)] 63 ∧ Below (w.heap.size + 1) V w' ∧ w'.heap.size = V.heap.size) := by
    exact holds_c 256 1048576 n w.heap.size 0 (w.heap.size + 1) (w.heap.size + 1) V (NdAt.mono (by omega) n w.heap.size 0 (ndAt_blk hnV hB1)) (by omega) (Nat.le_refl _) hB2 (by omega) (by omega)
  have HR : Hid (chkM n = if (hN 256 1048576 n).1 = true then (if mbM 256 n = true then 0 else 2) else 3) := rfl
  have HA : Hid ((hN 256 1048576 n).1 = true → deepLe 256 n ∧ cntT 256 n ≤ 1048576) := fun h => by have := hNall 256 1048576 n h; exact ⟨this.1, by omega⟩
  have HBV : Hid (But bl w V) := but_below hVb bl
  have HGV : Hid (∀ X : World, Below w.heap.size w X → GOK X ∧ LexSt X bl c) := fun X hX => ⟨hG.below hX, hL.below hX⟩
  have HVb : Hid (Below w.heap.size w V) := hVb
  have HNV : Hid (∀ X : World, Below (w.heap.size + 1) V X → NdAt X B n w.heap.size 0) := fun X hX => ndAt_blk (hnV.below (hX.mono (by omega))) (by unfold Blk; rw [hX.block w.heap.size (by omega)]; exact hB1)
  have HKP : Hid (∀ X : World, Calls Tryz.prog 28 #[] X fun e W' => ∃ vw vr vo, e = .returned (.map (some (X.heap.size + 3))) ∧ KS2 (X.heap.size + 3) X W' vw vr vo 44) := kidPatterns_c
  have HMB : Hid (∀ (b0 : Nat) (X : World), bl + 3 < b0 → deepLe 256 n → MSt b0 bl B c X n w.heap.size 0 → c + cntT 256 n ≤ 4611686018427387904 → Calls Tryz.prog 29 #[.agg #[.map (some b0), .map (some bl)], .pointer (some ⟨w.heap.size, 0, none⟩)] X fun e W' => e = .returned (.bool (mbM 256 n)) ∧ But bl X W' ∧ LexSt W' bl (c + cntT 256 n)) := fun b0 X h1 h2 h3 h4 => nodeBe_c bl B hB h1 hGs 256 n w.heap.size 0 c X h2 (by omega) h3 h4
  have HCc : Hid (c + 1048576 ≤ 4611686018427387904) := hc
  have HVs : Hid (V.heap.size = w.heap.size + 2 ∧ bl < w.heap.size) := ⟨hVs, hlt⟩
  generalize (hN 256 1048576 n).2 = m2 at HH
  generalize (hN 256 1048576 n).1 = bh at HH HR HA
  clear hn hB hG hGs hL hc hlt hVb hVs hB1 hB2 hnV
  go_enter Tryz.func18, Tryz.ntmps18
  go_wp2_with (go_at_call 27; fail)
  refine HH.out.mono ?_
  rintro e w1 ⟨rfl, hb1, hb2, hb3⟩
  have H1 : Hid (Below (w.heap.size + 1) V w1) := hb2
  have H2 : Hid (w1.heap.size = V.heap.size) := hb3
  have H3 : Hid (Below w.heap.size w w1) := HVb.out.trans (hb2.mono (by omega))
  clear hb1 hb2 hb3 HH
  cases bh with
  | false =>
    go_wp2
    go_ret
    exact ⟨by rw [HR.out]; rfl, but_below H3.out bl, (HGV.out w1 H3.out).2.mono (by omega)⟩
  | true =>
    have HA2 : Hid (deepLe 256 n ∧ cntT 256 n ≤ 1048576) := HA.out rfl
    clear HA
    go_wp2_with (go_at_call 28; fail)
    refine (HKP.out w1).mono ?_
    rintro e w2 ⟨vw, vr, vo, rfl, hks⟩
    have hb4 : Below w1.heap.size w1 w2 := by
      obtain ⟨L, _, h⟩ := hks
      exact h.1
    obtain ⟨W3, hW3⟩ : ∃ W3, w2.alloc (.cells #[.map (some (w1.heap.size + 3)), .map (some bl)] 67) = W3 := ⟨_, rfl⟩
    have hb5 : Below w2.heap.size w2 W3 := by rw [← hW3]; exact (Below.refl _ _).alloc (Nat.le_refl _) _
    have hKM : KM (w1.heap.size + 3) W3 := (km_of hks).below hb5
    have hB3 : Below w1.heap.size w1 W3 := hb4.trans (hb5.mono hb4.size)
    have hB4 : Below w.heap.size w W3 := H3.out.trans (hB3.mono H3.out.size)
    have hBlk := Blk.new w2 #[.map (some (w1.heap.size + 3)), .map (some bl)] 67
    rw [hW3] at hBlk
    have i0 : W3.cell? ⟨w2.heap.size, 0, none⟩ = some (.map (some (w1.heap.size + 3))) := hBlk.cell 0 _ rfl
    have i1 : W3.cell? ⟨w2.heap.size, 1, none⟩ = some (.map (some bl)) := hBlk.cell 1 _ rfl
    have hbl2 := hBlk.lt
    have hA := HA2.out
    have HC : Hid (Calls Tryz.prog 29 #[.agg #[.map (some (w1.heap.size + 3)), .map (some bl)], .pointer (some ⟨w.heap.size, 0, none⟩)] W3 fun e W' => e = .returned (.bool (mbM 256 n)) ∧ But bl W3 W' ∧ LexSt W' bl (c + cntT 256 n)) := by
      have h2 := H2.out
      have h3 := HVs.out
      refine HMB.out (w1.heap.size + 3) W3 (by omega) hA.1 ⟨?_, ?_, hKM, (HGV.out W3 hB4).1, (HGV.out W3 hB4).2⟩ (by have := HCc.out; omega)
      · exact HNV.out W3 (H1.out.trans (hB3.mono (by omega)))
      · have := hB4.size
        have := hB3.size
        omega
    have HB6 : Hid (But bl w W3) := but_below hB4 bl
    have HCt : Hid (c + cntT 256 n ≤ c + 1048576) := by have := hA.2; show _ ≤ _; omega
    generalize mbM 256 n = bm at HC HR
    clear hks hb4 hb5 hKM hB3 hB4 hBlk hA HA2 HMB HKP HNV
    go_wp2_with (go_at_call 29; fail)
    refine HC.out.mono ?_
    rintro e w4 ⟨rfl, hb6, hl6⟩
    have HB7 : Hid (But bl w w4) := HB6.out.trans hb6
    have HL7 : Hid (LexSt w4 bl (c + 1048576)) := hl6.mono HCt.out
    clear hb6 hl6 i0 i1
    cases bm with
    | true =>
      go_wp2
      go_ret
      exact ⟨by rw [HR.out]; rfl, HB7.out, HL7.out⟩
    | false =>
      go_wp2
      go_ret
      exact ⟨by rw [HR.out]; rfl, HB7.out, HL7.out⟩

set_option maxRecDepth 100000 in
set_option maxHeartbeats 8000000 in
theorem checkS_c (n : Nd) (o : Option Addr) (cap : Nat) (w : World) (hn : NdIn w w.heap.size n o cap) (hG : GOK w) :
    Calls Tryz.prog 8 #[.agg #[.int .i64 n.kind, .string (bs n.name), .int .i64 n.num, .slice o n.kids.length cap, .int .i64 n.pos]] w fun e W' => e = .returned (.int .i64 (chkM n)) ∧ Below w.heap.size w W' := by
  have hmm : ∀ W : World, (Instr.makeMap 48 none).run Tryz.prog W = .ok (.map (some W.heap.size)) (W.alloc (.map #[] 0)) := fun W => rfl
  obtain ⟨V, hV⟩ : ∃ V, w.alloc (.cells #[.int .i64 n.kind, .string (bs n.name), .int .i64 n.num, .slice o n.kids.length cap, .int .i64 n.pos] 28) = V := ⟨_, rfl⟩
  have hVb : Below w.heap.size w V := by rw [← hV]; exact (Below.refl _ w).alloc (Nat.le_refl _) _
  have hVs : V.heap.size = w.heap.size + 1 := by rw [← hV]; simp
  have hB1 : Blk V w.heap.size #[.int .i64 n.kind, .string (bs n.name), .int .i64 n.num, .slice o n.kids.length cap, .int .i64 n.pos] 28 := by rw [← hV]; exact Blk.new w _ _
  have hA : Below V.heap.size V (V.alloc (.map #[] 0)) := (Below.refl _ _).alloc (Nat.le_refl _) _
  have hVA : Below w.heap.size w (V.alloc (.map #[] 0)) := hVb.trans (hA.mono (by omega))
  have HC : Hid (Calls Tryz.prog 18 #[.agg #[.int .i64 n.kind, .string (bs n.name), .int .i64 n.num, .slice o n.kids.length cap, .int .i64 n.pos], .map (some (w.heap.size + 1))] (V.alloc (.map #[] 0)) fun e W' => e = .returned (.int .i64 (chkM n)) ∧ But (w.heap.size + 1) (V.alloc (.map #[] 0)) W' ∧ LexSt W' (w.heap.size + 1) (0 + 1048576)) := by
    have hL := lexSt_new V
    rw [hVs] at hL
    exact nodeChk_c n o cap w.heap.size (w.heap.size + 1) 0 (V.alloc (.map #[] 0)) (hn.below hVA) (by omega) (hG.below hVA) (by have := hG.size; omega) hL (by omega)
  have HB : Hid (∀ X : World, But (w.heap.size + 1) (V.alloc (.map #[] 0)) X → Below w.heap.size w X) := fun X hX => hVA.trans (hX.below (by omega) hVA.size)
  have c0 : V.cell? ⟨w.heap.size, 0, none⟩ = some (.int .i64 n.kind) := hB1.cell 0 _ rfl
  have c1 : V.cell? ⟨w.heap.size, 1, none⟩ = some (.string (bs n.name)) := hB1.cell 1 _ rfl
  have c2 : V.cell? ⟨w.heap.size, 2, none⟩ = some (.int .i64 n.num) := hB1.cell 2 _ rfl
  have c3 : V.cell? ⟨w.heap.size, 3, none⟩ = some (.slice o n.kids.length cap) := hB1.cell 3 _ rfl
  have c4 : V.cell? ⟨w.heap.size, 4, none⟩ = some (.int .i64 n.pos) := hB1.cell 4 _ rfl
  generalize chkM n = ck at HC
  clear hn hG hVb hB1 hA hVA
  go_enter Tryz.func8, Tryz.ntmps8
  go_wp2_with (go_at_call 18; fail)
  refine HC.out.mono ?_
  rintro e w1 ⟨rfl, hb, -⟩
  have HB1 : Hid (Below w.heap.size w w1) := HB.out _ hb
  clear hb
  go_wp2
  go_ret
  exact ⟨rfl, HB1.out⟩
end Go.Proofs.YtppnhaacmhfenabGreatDoor
