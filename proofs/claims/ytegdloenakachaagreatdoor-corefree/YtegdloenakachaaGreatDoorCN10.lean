/-
  distinct, areNames, by contracts.
  The fields of an expression that are filled, by contracts.
  All expressions of a tree are asked: allExpr, by contracts.
  Stores and rows, small facts.
  Expressions in memory of their own: each row has a block, all blocks of a part lie between two numbers, those of other parts elsewhere.
-/
import Derived.Test.YtegdloenakachaaGreatDoorCN09
import Derived.Test.YtegdloenakachaaGreatDoorCN01
import Derived.Test.YtegdloenakachaaGreatDoorCN08
import Derived.Maps.AppendAt
namespace Go.Proofs.YtegdloenakachaaGreatDoor
open Go.RowKit Go.Shelf Go.Maps
set_option linter.unusedVariables false

/-- A set of these names, with its size. -/
def DS (W : World) (b : Nat) (ms : List (List UInt8)) : Prop := ∃ (c : Nat) (D : DataW Value), c ≤ ms.length ∧ W.ownsMap Tryz.prog 9 heldElem b c D ∧ Maps.IsMap D ∧ (∀ x, Maps.has D (.string x) = decide (x ∈ ms)) ∧ Maps.size D ≤ ms.length ∧ (Maps.size D = ms.length ↔ ms.Nodup)
theorem ds_new (W : World) : DS (W.alloc (.map #[] 0)) W.heap.size [] := ⟨0, .map [], Nat.le_refl _, World.ownsMap_made W Tryz.prog 9 heldElem, ⟨_, rfl⟩, fun x => rfl, Nat.le_refl _, ⟨fun _ => .nil, fun _ => rfl⟩⟩
theorem DS.upd {W : World} {b : Nat} {ms : List (List UInt8)} (h : DS W b ms) (hc : ms.length ≤ 3000000) (s : ByteArray) (hs : s.size ≤ maxLen) :
    ∃ W', (Instr.mapUpdate 65 (.map (some b)) (.string s) (.agg #[])).run Tryz.prog W = .ok () W' ∧ DS W' b (ms ++ [s.data.toList]) ∧ W.grownBy W' (some b) := by
  obtain ⟨c, D, h0, hown, hD, hhas, hsz, hnd⟩ := h
  have hkey : keyOf Tryz.prog 9 (.string s) = some (.string s.data.toList) := by
    have hs2 : s.size ≤ 9223372036854775807 := by unfold maxLen at hs; omega
    simp [keyOf, mapKey, Tryz.underlying9, maxLen, hs2]
  obtain ⟨W', hrun, r1, r2⟩ := hown.update (string_keyed Tryz.underlying9) Tryz.underlying65 (by unfold maxLen; omega) hkey (show heldElem (.agg #[]) = some (.held (.agg #[]), []) from rfl)
  have htidy := hown.tidy (string_keyed Tryz.underlying9)
  have hput := Maps.size_put (k := .string s.data.toList) htidy (.held (.agg #[]))
  rw [hhas] at hput
  generalize s.data.toList = nm at hput r1 ⊢
  refine ⟨W', hrun, ⟨c + 1, _, by simp; omega, r1, ?_, fun x => ?_, ?_, ?_⟩, r2⟩
  · obtain ⟨es, rfl⟩ := hD
    exact ⟨_, rfl⟩
  · by_cases hx : x = nm
    · subst hx
      rw [Maps.has_put_same hD (by constructor)]; simp
    · rw [Maps.has_put_other (by simpa using hx), hhas x]; simp [hx]
  · rw [hput]; simp; split <;> omega
  · rw [hput]
    by_cases hx : nm ∈ ms
    · simp only [hx, decide_true, if_true, List.length_append, List.length_cons, List.length_nil]
      constructor
      · intro e; omega
      · intro hn
        exact absurd rfl ((List.nodup_append.1 hn).2.2 nm hx nm (by simp))
    · simp only [hx, decide_false, List.length_append, List.length_cons, List.length_nil]
      constructor
      · intro e
        have : ms.Nodup := hnd.1 (by simpa using e)
        exact List.nodup_append.2 ⟨this, by simp, fun a ha b hb => by simp at hb; subst hb; intro e2; exact hx (e2 ▸ ha)⟩
      · intro hn
        have := hnd.2 (List.nodup_append.1 hn).1
        simpa using this
theorem DS.len {W : World} {b : Nat} {ms : List (List UInt8)} (h : DS W b ms) (ty : TypeId) : ∃ k : Nat, (Builtin.len_ #[65] ty #[.map (some b)]).run Tryz.prog W = .ok (.int .i64 (k : Int)) W ∧ k ≤ ms.length ∧ (k = ms.length ↔ ms.Nodup) := by
  obtain ⟨c, D, h0, hown, hD, hhas, hsz, hnd⟩ := h
  exact ⟨Maps.size D, hown.len Tryz.underlying65 ty, hsz, hnd⟩
theorem mmS_run (n : Nat) (W : World) (hn : n ≤ 4611686018427387904) : (Instr.makeMap 65 (some (.int .i64 n))).run Tryz.prog W = .ok (.map (some W.heap.size)) (W.alloc (.map #[] 0)) := by
  simp [Instr.makeMap, go_sem]
set_option maxRecDepth 100000 in
set_option maxHeartbeats 4000000 in
theorem distinct_c (l : List ByteArray) (o : Option Addr) (cap B : Nat) (w : World) (hl : TxIn w B o l) (hw : B ≤ w.heap.size) (hn : l.length ≤ 2000000) (hz : ∀ x ∈ l, x.size ≤ maxLen) :
    Calls Tryz.prog 121 #[.slice o l.length cap] w fun e w' => e = .returned (.bool (decide ((dl l).Nodup))) ∧ Below w.heap.size w w' := by
  obtain ⟨n, hln⟩ : ∃ n, l.length = n := ⟨_, rfl⟩
  have HN : Hid (TxIn w B o l ∧ B ≤ w.heap.size ∧ l.length = n ∧ (∀ x ∈ l, x.size ≤ maxLen) ∧ n ≤ 2000000) := ⟨hl, hw, hln, hz, by omega⟩
  have hni : (n : Int) ≤ 2000000 := by omega
  have hmm : ∀ W : World, (Instr.makeMap 65 (some (.int .i64 (n : Int)))).run Tryz.prog W = .ok (.map (some W.heap.size)) (W.alloc (.map #[] 0)) := fun W => mmS_run n W (by omega)
  have H0 : Hid (DS (w.alloc (.map #[] 0)) w.heap.size [] ∧ Below w.heap.size w (w.alloc (.map #[] 0))) := ⟨ds_new w, below1 w _⟩
  rw [hln]
  clear hl hw hln hn hz
  go_enter Tryz.func121, Tryz.ntmps121
  go_wp2
  go_loopw [11] (fun v wr => ∃ k : Nat, v = .int .i64 (k : Int) ∧ Hid (k ≤ n ∧ DS wr w.heap.size (dl (l.take k)) ∧ Below w.heap.size w wr)) (fun v _ => n - (intOf v).toNat)
  case atStart => exact ⟨0, rfl, ⟨Nat.zero_le _, H0.out.1, H0.out.2⟩⟩
  case round =>
    clear H0 hmm
    obtain ⟨k, rfl, HI⟩ := hrel
    by_cases hk : k < n
    · have hkl : k < l.length := by rw [HN.out.2.2.1]; exact hk
      obtain ⟨g, off, rfl, hg, hx⟩ : ∃ g off, o = some ⟨g, off, none⟩ ∧ g < B ∧ w.cell? ⟨g, off + k, none⟩ = some (.string l[k]) := by
        rcases HN.out.1 with h9 | ⟨g, off, e, hg, h9⟩
        · rw [h9] at hkl; exact absurd hkl (Nat.not_lt_zero _)
        · exact ⟨g, off, e, hg, h9 k hkl⟩
      have hgw : g < w.heap.size := by have := HN.out.2.1; omega
      have hcx := (HI.out.2.2.cell (p := ⟨g, off + k, none⟩) hgw).trans hx
      have hgr : g < wr.heap.size := Nat.lt_of_lt_of_le hgw HI.out.2.2.size
      obtain ⟨W2, hr2, hp2, hg2⟩ := HI.out.2.1.upd (by unfold dl; rw [List.length_map, List.length_take]; have := HN.out.2.2.2.2; omega) l[k] (HN.out.2.2.2.1 _ (List.getElem_mem hkl))
      have H2 : Hid (DS W2 w.heap.size (dl (l.take (k + 1))) ∧ Below w.heap.size w W2 ∧ k < n) := ⟨by rw [List.take_succ_eq_append_getElem hkl]; unfold dl; rw [List.map_append]; exact hp2, HI.out.2.2.grown hg2 HI.out.2.2.size (fun j hj => by cases hj; exact Nat.le_refl _), hk⟩
      have hki : (k : Int) < (n : Int) := by omega
      generalize l[k] = nk at hcx hr2
      clear hp2 hg2 hk hx hkl hg hgw
      go_wp2
      refine ⟨⟨k + 1, by congr 1, ⟨H2.out.2.2, H2.out.1, H2.out.2.1⟩⟩, ?_⟩
      show n - ((k : Int) + 1).toNat < n - ((k : Int)).toNat
      have := H2.out.2.2; omega
    · have hki : ¬ (k : Int) < (n : Int) := by omega
      have hke : l.take k = l := List.take_of_length_le (by have := HN.out.2.2.1; omega)
      have hds := HI.out.2.1
      rw [hke] at hds
      obtain ⟨q, hq1, hq2, hq3⟩ := hds.len 3
      have hdl : (dl l).length = n := by unfold dl; rw [List.length_map]; exact HN.out.2.2.1
      rw [hdl] at hq2 hq3
      have hqi : (q : Int) ≤ 2000000 := by omega
      have HQ : Hid (q = n ↔ (dl l).Nodup) := hq3
      clear hk hke hds hdl hq3 hq2
      by_cases hqn : q = n
      · have HX : Hid ((dl l).Nodup) := HQ.out.1 hqn
        subst hqn
        clear HQ
        go_wp2
        go_ret
        exact ⟨by rw [decide_eq_true HX.out]; first | rfl | simp, HI.out.2.2⟩
      · have e1 : ¬ (q : Int) = (n : Int) := by omega
        have e2 : ((q : Int) == (n : Int)) = false := by simp; omega
        have HX : Hid (¬ (dl l).Nodup) := fun h9 => hqn (HQ.out.2 h9)
        clear hqn HQ
        go_wp2
        go_ret
        exact ⟨by rw [decide_eq_false HX.out]; first | rfl | simp, HI.out.2.2⟩
/-- Names, none twice. -/
def areB (l : List ByteArray) : Bool := l.all (fun s => nameB s.data.toList) && decide ((dl l).Nodup)
set_option maxRecDepth 100000 in
set_option maxHeartbeats 4000000 in
theorem areNames_c (l : List ByteArray) (o : Option Addr) (cap B : Nat) (w : World) (hl : TxIn w B o l) (hw : B ≤ w.heap.size) (hn : l.length ≤ 2000000) (hz : ∀ x ∈ l, x.size ≤ maxLen) :
    Calls Tryz.prog 79 #[.slice o l.length cap] w fun e w' => e = .returned (.bool (areB l)) ∧ Below w.heap.size w w' := by
  have HD : Hid (Calls Tryz.prog 121 #[.slice o l.length cap] w fun e w' => e = .returned (.bool (decide ((dl l).Nodup))) ∧ Below w.heap.size w w') := distinct_c l o cap B w hl hw hn hz
  obtain ⟨n, hln⟩ : ∃ n, l.length = n := ⟨_, rfl⟩
  have HN : Hid (TxIn w B o l ∧ B ≤ w.heap.size ∧ l.length = n ∧ (∀ x ∈ l, x.size ≤ maxLen)) := ⟨hl, hw, hln, hz⟩
  have hni : (n : Int) ≤ 2000000 := by omega
  rw [hln] at HD ⊢
  clear hl hw hln hn hz
  go_enter Tryz.func79, Tryz.ntmps79
  go_wp2
  go_loopw [7] (fun v wr => ∃ k : Nat, v = .int .i64 (k : Int) ∧ wr = w ∧ Hid (k ≤ n ∧ (l.take k).all (fun s => nameB s.data.toList) = true)) (fun v _ => n - (intOf v).toNat)
  case atStart => exact ⟨0, rfl, rfl, ⟨Nat.zero_le _, rfl⟩⟩
  case round =>
    obtain ⟨k, rfl, hwr, HI⟩ := hrel
    have hwr := hwr.symm
    subst hwr
    by_cases hk : k < n
    · have hkl : k < l.length := by rw [HN.out.2.2.1]; exact hk
      obtain ⟨g, off, rfl, hg, hx⟩ : ∃ g off, o = some ⟨g, off, none⟩ ∧ g < B ∧ w.cell? ⟨g, off + k, none⟩ = some (.string l[k]) := by
        rcases HN.out.1 with h9 | ⟨g, off, e, hg, h9⟩
        · rw [h9] at hkl; exact absurd hkl (Nat.not_lt_zero _)
        · exact ⟨g, off, e, hg, h9 k hkl⟩
      have hgw : g < w.heap.size := by have := HN.out.2.1; omega
      have hki : (k : Int) < (n : Int) := by omega
      obtain ⟨nk, hnk⟩ : ∃ nk, l[k] = nk := ⟨_, rfl⟩
      have HC : Hid (Calls Tryz.prog 77 #[.string nk] w fun e w' => e = .returned (.bool (nameB nk.data.toList)) ∧ w' = w) := isName_c nk (by have := HN.out.2.2.2 _ (List.getElem_mem hkl); rw [hnk] at this; unfold maxLen at this; omega) w
      have HT : Hid (k < n ∧ l.take (k + 1) = l.take k ++ [nk] ∧ nk ∈ l) := ⟨hk, by rw [List.take_succ_eq_append_getElem hkl, hnk], by rw [← hnk]; exact List.getElem_mem hkl⟩
      rw [hnk] at hx
      clear hk hkl hg hnk
      go_wp2_with (go_at_call 77; fail)
      refine HC.out.mono ?_
      rintro e w1 ⟨rfl, hw1⟩
      have hw2 := hw1.symm
      subst hw2
      clear hw1 HC
      cases hb : nameB nk.data.toList with
      | true =>
        have HB : Hid (nameB nk.data.toList = true) := hb
        clear hb
        go_wp2
        refine ⟨⟨k + 1, by congr 1, trivial, ⟨HT.out.1, ?_⟩⟩, ?_⟩
        · rw [HT.out.2.1, List.all_append, HI.out.2]
          simp [HB.out]
        · show n - ((k : Int) + 1).toNat < n - ((k : Int)).toNat
          have := HT.out.1; omega
      | false =>
        have HX : Hid (areB l = false) := by
          show _ = _
          unfold areB
          have : l.all (fun s => nameB s.data.toList) = false := by
            cases e : l.all (fun s => nameB s.data.toList) with
            | false => rfl
            | true => have := List.all_eq_true.1 e nk HT.out.2.2; rw [hb] at this; cases this
          rw [this]; rfl
        clear hb
        go_wp2
        go_ret
        exact ⟨by rw [HX.out]; rfl, Below.refl _ _⟩
    · have hki : ¬ (k : Int) < (n : Int) := by omega
      have HX : Hid (areB l = decide ((dl l).Nodup)) := by
        show _ = _
        have h1 := HI.out.2
        rw [List.take_of_length_le (by have := HN.out.2.2.1; omega)] at h1
        unfold areB; rw [h1, Bool.true_and]
      clear hk
      go_wp2_with (go_at_call 121; fail)
      refine HD.out.mono ?_
      rintro e w1 ⟨rfl, hb1⟩
      have HB1 : Hid (Below w.heap.size w w1) := hb1
      clear hb1
      go_wp2
      go_ret
      exact ⟨by rw [HX.out]; rfl, HB1.out⟩
end Go.Proofs.YtegdloenakachaaGreatDoor

namespace Go.Proofs.YtegdloenakachaaGreatDoor
open Go.RowKit Go.Shelf Go.Maps
set_option linter.unusedVariables false

/-- The fields of a kind. -/
def fieldsM (k : Int) : Nat := if k = 1 then 1 else if k = 2 then 2 else if k = 3 then 2 else if k = 4 then 17 else if k = 9 then 17 else if k = 5 then 20 else if k = 6 then 16 else if k = 7 then 24 else if k = 8 then 48 else 0
set_option maxRecDepth 100000 in
set_option maxHeartbeats 2000000 in
theorem fieldsOf_c (k : Int) (w : World) : Calls Tryz.prog 123 #[.int .i64 k] w fun e w' => e = .returned (.int .i64 (fieldsM k : Nat)) ∧ w' = w := by
  go_enter Tryz.func123, Tryz.ntmps123
  unfold fieldsM
  by_cases h1 : k = 1
  · subst h1; go_wp2; go_ret; exact ⟨rfl, rfl⟩
  by_cases h2 : k = 2
  · subst h2; go_wp2; go_ret; exact ⟨rfl, rfl⟩
  by_cases h3 : k = 3
  · subst h3; go_wp2; go_ret; exact ⟨rfl, rfl⟩
  by_cases h4 : k = 4
  · subst h4; go_wp2; go_ret; exact ⟨rfl, rfl⟩
  by_cases h9 : k = 9
  · subst h9; go_wp2; go_ret; exact ⟨rfl, rfl⟩
  by_cases h5 : k = 5
  · subst h5; go_wp2; go_ret; exact ⟨rfl, rfl⟩
  by_cases h6 : k = 6
  · subst h6; go_wp2; go_ret; exact ⟨rfl, rfl⟩
  by_cases h7 : k = 7
  · subst h7; go_wp2; go_ret; exact ⟨rfl, rfl⟩
  by_cases h8 : k = 8
  · subst h8; go_wp2; go_ret; exact ⟨rfl, rfl⟩
  have e1 : (k == 1) = false := beq_eq_false_iff_ne.2 h1
  have e2 : (k == 2) = false := beq_eq_false_iff_ne.2 h2
  have e3 : (k == 3) = false := beq_eq_false_iff_ne.2 h3
  have e4 : (k == 4) = false := beq_eq_false_iff_ne.2 h4
  have e5 : (k == 5) = false := beq_eq_false_iff_ne.2 h5
  have e6 : (k == 6) = false := beq_eq_false_iff_ne.2 h6
  have e7 : (k == 7) = false := beq_eq_false_iff_ne.2 h7
  have e8 : (k == 8) = false := beq_eq_false_iff_ne.2 h8
  have e9 : (k == 9) = false := beq_eq_false_iff_ne.2 h9
  rw [if_neg h1, if_neg h2, if_neg h3, if_neg h4, if_neg h9, if_neg h5, if_neg h6, if_neg h7, if_neg h8]
  go_wp2; go_ret; exact ⟨rfl, rfl⟩
/-- Which fields are filled. -/
def fbit (b : Bool) (k : Nat) : Nat := if b then k else 0
def fillK (b : Nat → Bool) : Nat → Nat
  | 0 => 0
  | k + 1 => fillK b k + fbit (b k) (2 ^ k)
def fillB {T : Type} (t : TrN T) : Nat → Bool
  | 0 => !t.name.toList.isEmpty
  | 1 => t.num != 0
  | 2 => decide (0 < t.params.length)
  | 3 => decide (0 < t.binds.length)
  | 4 => decide (0 < t.args.length)
  | _ => decide (0 < t.alts.length)
theorem orK0 (b : Nat → Bool) : bits BinOp.or IntKind.i64 ((fillK b 0 : Nat) : Int) 1 = ((fillK b 0 + 1 : Nat) : Int) := by
  kernel_rfl
theorem orK1 (b : Nat → Bool) : bits BinOp.or IntKind.i64 ((fillK b 1 : Nat) : Int) 2 = ((fillK b 1 + 2 : Nat) : Int) := by
  simp only [fillK, fbit]
  cases b 0 <;> kernel_rfl
theorem orK2 (b : Nat → Bool) : bits BinOp.or IntKind.i64 ((fillK b 2 : Nat) : Int) 4 = ((fillK b 2 + 4 : Nat) : Int) := by
  simp only [fillK, fbit]
  cases b 0 <;> cases b 1 <;> kernel_rfl
theorem orK3 (b : Nat → Bool) : bits BinOp.or IntKind.i64 ((fillK b 3 : Nat) : Int) 8 = ((fillK b 3 + 8 : Nat) : Int) := by
  simp only [fillK, fbit]
  cases b 0 <;> cases b 1 <;> cases b 2 <;> kernel_rfl
theorem orK4 (b : Nat → Bool) : bits BinOp.or IntKind.i64 ((fillK b 4 : Nat) : Int) 16 = ((fillK b 4 + 16 : Nat) : Int) := by
  simp only [fillK, fbit]
  cases b 0 <;> cases b 1 <;> cases b 2 <;> cases b 3 <;> kernel_rfl
theorem orK5 (b : Nat → Bool) : bits BinOp.or IntKind.i64 ((fillK b 5 : Nat) : Int) 32 = ((fillK b 5 + 32 : Nat) : Int) := by
  simp only [fillK, fbit]
  cases b 0 <;> cases b 1 <;> cases b 2 <;> cases b 3 <;> cases b 4 <;> kernel_rfl
theorem ix60 (b : Nat → Bool) (W : World) : (Instr.index 191 (.agg #[Value.bool (b 0), Value.bool (b 1), Value.bool (b 2), Value.bool (b 3), Value.bool (b 4), Value.bool (b 5)]) (.int .i64 0)).run Tryz.prog W = .ok (.bool (b 0)) W := by kernel_rfl
theorem ix61 (b : Nat → Bool) (W : World) : (Instr.index 191 (.agg #[Value.bool (b 0), Value.bool (b 1), Value.bool (b 2), Value.bool (b 3), Value.bool (b 4), Value.bool (b 5)]) (.int .i64 1)).run Tryz.prog W = .ok (.bool (b 1)) W := by kernel_rfl
theorem ix62 (b : Nat → Bool) (W : World) : (Instr.index 191 (.agg #[Value.bool (b 0), Value.bool (b 1), Value.bool (b 2), Value.bool (b 3), Value.bool (b 4), Value.bool (b 5)]) (.int .i64 2)).run Tryz.prog W = .ok (.bool (b 2)) W := by kernel_rfl
theorem ix63 (b : Nat → Bool) (W : World) : (Instr.index 191 (.agg #[Value.bool (b 0), Value.bool (b 1), Value.bool (b 2), Value.bool (b 3), Value.bool (b 4), Value.bool (b 5)]) (.int .i64 3)).run Tryz.prog W = .ok (.bool (b 3)) W := by kernel_rfl
theorem ix64 (b : Nat → Bool) (W : World) : (Instr.index 191 (.agg #[Value.bool (b 0), Value.bool (b 1), Value.bool (b 2), Value.bool (b 3), Value.bool (b 4), Value.bool (b 5)]) (.int .i64 4)).run Tryz.prog W = .ok (.bool (b 4)) W := by kernel_rfl
theorem ix65 (b : Nat → Bool) (W : World) : (Instr.index 191 (.agg #[Value.bool (b 0), Value.bool (b 1), Value.bool (b 2), Value.bool (b 3), Value.bool (b 4), Value.bool (b 5)]) (.int .i64 5)).run Tryz.prog W = .ok (.bool (b 5)) W := by kernel_rfl
set_option maxRecDepth 100000 in
set_option maxHeartbeats 2000000 in
theorem filled_c (d : Nat) (t : Tr (d + 1)) (B g off : Nat) (w : World) (hE : ExAt w B (d + 1) t g off) (hw : B ≤ w.heap.size) (hs : (TrN.params t).length ≤ 2000000 ∧ (TrN.binds t).length ≤ 2000000 ∧ (TrN.args t).length ≤ 2000000 ∧ (TrN.alts t).length ≤ 2000000) :
    Calls Tryz.prog 122 #[.pointer (some ⟨g, off, none⟩)] w fun e w' => e = .returned (.int .i64 (fillK (fillB t) 6 : Nat)) ∧ ∃ m, w' = w.drewN m := by
  obtain ⟨hg, h0, h1, h2, ⟨o3, c3, h3, k3⟩, ⟨o4, c4, h4, k4⟩, ⟨o5, c5, h5, k5⟩, ⟨o6, c6, h6, k6⟩⟩ := hE
  have hgw : g < w.heap.size := by omega
  obtain ⟨b, hb⟩ : ∃ b, fillB t = b := ⟨_, rfl⟩
  have f0 : (!(TrN.name t).toList.isEmpty) = b 0 := by rw [← hb]; rfl
  have f1 : ((TrN.num t) != 0) = b 1 := by rw [← hb]; rfl
  have f2 : decide (0 < (TrN.params t).length) = b 2 := by rw [← hb]; rfl
  have f3 : decide (0 < (TrN.binds t).length) = b 3 := by rw [← hb]; rfl
  have f4 : decide (0 < (TrN.args t).length) = b 4 := by rw [← hb]; rfl
  have f5 : decide (0 < (TrN.alts t).length) = b 5 := by rw [← hb]; rfl
  rw [hb]
  clear hb k3 k4 k5 k6 h0 hw hg
  go_enter Tryz.func122, Tryz.ntmps122
  go_wp2_with fail
  go_big_quiet (fail)
  have HW : Hid (∃ m, w.drewN nq = w.drewN m) := ⟨nq, rfl⟩
  generalize hq1 : w.drewN nq = w1 at ⊢
  rw [hq1] at HW
  clear hq1
  clear f0 f1 f2 f3 f4 f5 h1 h2 h3 h4 h5 h6 hs
  go_wp2
  go_loopw [3, 41] (fun v i wr => ∃ k : Nat, k ≤ 6 ∧ i = .int .i64 k ∧ v = .int .i64 (fillK b k : Nat) ∧ Hid (∃ m, wr = w.drewN m)) (fun v i _ => 6 - (intOf i).toNat)
  case atStart => exact ⟨0, by omega, rfl, rfl, HW⟩
  case round =>
    obtain ⟨k, hk, rfl, rfl, hS⟩ := hrel
    rcases (by omega : k = 0 ∨ k = 1 ∨ k = 2 ∨ k = 3 ∨ k = 4 ∨ k = 5 ∨ k = 6) with rfl | rfl | rfl | rfl | rfl | rfl | rfl
    · have hi := ix60 b
      cases hb : b 0
      · rw [hb] at hi
        go_wp2
        exact ⟨⟨1, by omega, rfl, by simp [fillK, fbit, hb], hS⟩, by decide⟩
      · rw [hb] at hi
        go_wp2
        exact ⟨⟨1, by omega, rfl, by rw [orK0]; simp [fillK, fbit, hb], hS⟩, by decide⟩
    · have hi := ix61 b
      cases hb : b 1
      · rw [hb] at hi
        go_wp2
        exact ⟨⟨2, by omega, rfl, by simp [fillK, fbit, hb], hS⟩, by decide⟩
      · rw [hb] at hi
        go_wp2
        exact ⟨⟨2, by omega, rfl, by rw [orK1]; simp [fillK, fbit, hb], hS⟩, by decide⟩
    · have hi := ix62 b
      cases hb : b 2
      · rw [hb] at hi
        go_wp2
        exact ⟨⟨3, by omega, rfl, by simp [fillK, fbit, hb], hS⟩, by decide⟩
      · rw [hb] at hi
        go_wp2
        exact ⟨⟨3, by omega, rfl, by rw [orK2]; simp [fillK, fbit, hb], hS⟩, by decide⟩
    · have hi := ix63 b
      cases hb : b 3
      · rw [hb] at hi
        go_wp2
        exact ⟨⟨4, by omega, rfl, by simp [fillK, fbit, hb], hS⟩, by decide⟩
      · rw [hb] at hi
        go_wp2
        exact ⟨⟨4, by omega, rfl, by rw [orK3]; simp [fillK, fbit, hb], hS⟩, by decide⟩
    · have hi := ix64 b
      cases hb : b 4
      · rw [hb] at hi
        go_wp2
        exact ⟨⟨5, by omega, rfl, by simp [fillK, fbit, hb], hS⟩, by decide⟩
      · rw [hb] at hi
        go_wp2
        exact ⟨⟨5, by omega, rfl, by rw [orK4]; simp [fillK, fbit, hb], hS⟩, by decide⟩
    · have hi := ix65 b
      cases hb : b 5
      · rw [hb] at hi
        go_wp2
        exact ⟨⟨6, by omega, rfl, by simp [fillK, fbit, hb], hS⟩, by decide⟩
      · rw [hb] at hi
        go_wp2
        exact ⟨⟨6, by omega, rfl, by rw [orK5]; simp [fillK, fbit, hb], hS⟩, by decide⟩
    · go_wp2
      go_ret
      exact ⟨rfl, hS.out⟩
/-- Are no fields filled but these? -/
def okF (b : Nat → Bool) (c : Nat) : Bool := (List.range 6).all fun i => !b i || c.testBit i
theorem anX (x0 x1 x2 x3 x4 x5 : Bool) (c : Nat) (hc : c = 0 ∨ c = 1 ∨ c = 2 ∨ c = 17 ∨ c = 20 ∨ c = 16 ∨ c = 24 ∨ c = 48) : (bits BinOp.andNot IntKind.i64 ((0 + fbit x0 1 + fbit x1 2 + fbit x2 4 + fbit x3 8 + fbit x4 16 + fbit x5 32 : Nat) : Int) ((c : Nat) : Int) != 0) = (!((!x0 || c.testBit 0) && ((!x1 || c.testBit 1) && ((!x2 || c.testBit 2) && ((!x3 || c.testBit 3) && ((!x4 || c.testBit 4) && ((!x5 || c.testBit 5) && true))))))) := by
  rcases hc with rfl | rfl | rfl | rfl | rfl | rfl | rfl | rfl <;> cases x0 <;> cases x1 <;> cases x2 <;> cases x3 <;> cases x4 <;> cases x5 <;> kernel_rfl
theorem anK (b : Nat → Bool) (c : Nat) (hc : c = 0 ∨ c = 1 ∨ c = 2 ∨ c = 17 ∨ c = 20 ∨ c = 16 ∨ c = 24 ∨ c = 48) : (bits BinOp.andNot IntKind.i64 ((fillK b 6 : Nat) : Int) ((c : Nat) : Int) != 0) = (!okF b c) := anX (b 0) (b 1) (b 2) (b 3) (b 4) (b 5) c hc
theorem fieldsM_vals (k : Int) : fieldsM k = 0 ∨ fieldsM k = 1 ∨ fieldsM k = 2 ∨ fieldsM k = 17 ∨ fieldsM k = 20 ∨ fieldsM k = 16 ∨ fieldsM k = 24 ∨ fieldsM k = 48 := by
  unfold fieldsM
  repeat' split
  all_goals simp
end Go.Proofs.YtegdloenakachaaGreatDoor

namespace Go.Proofs.YtegdloenakachaaGreatDoor
open Go.RowKit Go.Shelf Go.Maps
set_option linter.unusedVariables false

/-- What an expression's own fields may hold, so that they can be asked. -/
def FitN {T : Type} (t : TrN T) : Prop := t.name.size ≤ maxLen ∧ (t.params.length ≤ 2000000 ∧ ∀ x ∈ t.params, x.size ≤ maxLen) ∧ (t.binds.length ≤ 2000000 ∧ ∀ b ∈ t.binds, b.1.size ≤ maxLen) ∧ t.args.length ≤ 2000000 ∧ t.alts.length ≤ 2000000 ∧ ∀ a ∈ t.alts, a.1.name.size ≤ maxLen ∧ a.1.vars.length ≤ 2000000 ∧ (∀ x ∈ a.1.vars, x.size ≤ maxLen) ∧ Lit.wf (.int .i64 a.1.num) = true
def Fit : (d : Nat) → Tr d → Prop
  | 0, t => nomatch t
  | d + 1, t => FitN t ∧ (∀ b ∈ TrN.binds t, Fit d b.2) ∧ (∀ e ∈ TrN.args t, Fit d e) ∧ ∀ a ∈ TrN.alts t, Fit d a.2
/-- Does it hold of an expression and of all that are in it? -/
def allM (q : (d : Nat) → Tr (d + 1) → Bool) : (d : Nat) → Tr d → Bool
  | 0, t => nomatch t
  | d + 1, t => q d t && ((TrN.binds t).all (fun b => allM q d b.2) && ((TrN.args t).all (fun e => allM q d e) && (TrN.alts t).all (fun a => allM q d a.2)))
/-- No row of alternatives is longer than what it may grow to. -/
def CpAt (W : World) (B : Nat) : (d : Nat) → Tr d → Nat → Nat → Prop
  | 0, t, _, _ => nomatch t
  | d + 1, t, g, off => (∀ o n c, W.cell? ⟨g, off + 6, none⟩ = some (.slice o n c) → n ≤ c) ∧
    (∀ g' x' n c, g' < B → W.cell? ⟨g, off + 4, none⟩ = some (.slice (some ⟨g', x', none⟩) n c) → ∀ k (h : k < (TrN.binds t).length), CpAt W B d (TrN.binds t)[k].2 g' (x' + k * 8 + 1)) ∧
    (∀ g' x' n c, g' < B → W.cell? ⟨g, off + 5, none⟩ = some (.slice (some ⟨g', x', none⟩) n c) → ∀ k (h : k < (TrN.args t).length), CpAt W B d (TrN.args t)[k] g' (x' + k * 7)) ∧
    (∀ g' x' n c, g' < B → W.cell? ⟨g, off + 6, none⟩ = some (.slice (some ⟨g', x', none⟩) n c) → ∀ k (h : k < (TrN.alts t).length), CpAt W B d (TrN.alts t)[k].2 g' (x' + k * 11 + 4))
theorem CpAt.same {W W' : World} {B : Nat} (hb : ∀ g off, g < B → W'.cell? ⟨g, off, none⟩ = W.cell? ⟨g, off, none⟩) : ∀ (d : Nat) (t : Tr d) (g off : Nat), g < B → CpAt W B d t g off → CpAt W' B d t g off
  | 0, t, _, _, _, _ => nomatch t
  | d + 1, t, g, off, hg, h => by
    obtain ⟨h6, p4, p5, p6⟩ := h
    refine ⟨fun o n c e => h6 o n c ((hb _ _ hg).symm.trans e), fun g' x' n c hg' e k hk => CpAt.same hb d _ _ _ hg' (p4 g' x' n c hg' ((hb _ _ hg).symm.trans e) k hk), fun g' x' n c hg' e k hk => CpAt.same hb d _ _ _ hg' (p5 g' x' n c hg' ((hb _ _ hg).symm.trans e) k hk), fun g' x' n c hg' e k hk => CpAt.same hb d _ _ _ hg' (p6 g' x' n c hg' ((hb _ _ hg).symm.trans e) k hk)⟩
/-- What a function value, with one argument bound, says of an expression. -/
def AskOK (F : Nat) (v : Value) (w : World) (q : (d : Nat) → Tr (d + 1) → Bool) : Prop := ∀ (W : World), Below w.heap.size w W → ∀ (d : Nat) (t : Tr (d + 1)) (B g off : Nat), ExAt W B (d + 1) t g off → CpAt W B (d + 1) t g off → B ≤ W.heap.size → FitN t → Calls Tryz.prog F #[v, .pointer (some ⟨g, off, none⟩)] W fun e w' => e = .returned (.bool (q d t)) ∧ Below W.heap.size W w'
def AllOK (F : Nat) (v : Value) (w : World) (q : (d : Nat) → Tr (d + 1) → Bool) (d : Nat) : Prop := ∀ (W : World), Below w.heap.size w W → ∀ (t : Tr d) (B g off : Nat), ExAt W B d t g off → CpAt W B d t g off → B ≤ W.heap.size → Fit d t → Calls Tryz.prog 109 #[.pointer (some ⟨g, off, none⟩), .func (.func F) #[v] #[]] W fun e w' => e = .returned (.bool (allM q d t)) ∧ Below W.heap.size W w'
set_option maxRecDepth 100000 in
set_option maxHeartbeats 2000000 in
theorem all_binds_c (F : Nat) (v : Value) (w0 : World) (q : (d : Nat) → Tr (d + 1) → Bool) (d : Nat) (ih : AllOK F v w0 q d) (l : List (ByteArray × Tr d)) (o : Option Addr) (cap B : Nat) (w : World) (hw0 : Below w0.heap.size w0 w) (hl : RowIn B 8 (fun (b : ByteArray × Tr d) g off => w.cell? ⟨g, off, none⟩ = some (.string b.1) ∧ ExAt w B d b.2 g (off + 1)) o l) (hw : B ≤ w.heap.size) (hln : l.length ≤ 2000000) (hf : ∀ x ∈ l, Fit d x.2) (hcp : ∀ k (h : k < l.length) g off, o = some ⟨g, off, none⟩ → g < B → CpAt w B d l[k].2 g (off + k * 8 + 1)) :
    Calls Tryz.prog 83 #[.slice o l.length cap, .func (.func F) #[v] #[]] w fun e w' => e = .returned (.bool (l.all (fun x => allM q d x.2))) ∧ Below w.heap.size w w' := by
  have HA : Hid (∀ k (h : k < l.length), ∃ g off, o = some ⟨g, off, none⟩ ∧ g < B ∧ ∀ (W : World), Below w.heap.size w W → Calls Tryz.prog 109 #[.pointer (some ⟨g, off + k * 8 + 1, none⟩), .func (.func F) #[v] #[]] W fun e w' => e = .returned (.bool (allM q d l[k].2)) ∧ Below w.heap.size w w') := by
    intro k hk
    rcases hl with h0 | ⟨g, off, e, hg, hE⟩
    · subst h0; cases hk
    · refine ⟨g, off, e, hg, fun W hW => ?_⟩
      have hsz := hW.size
      refine (ih W (hw0.trans (hW.mono hw0.size)) l[k].2 B g (off + k * 8 + 1) (ExAt.same (fun g' off' hg' => cell_of_block (hW.block g' (by omega)) off') d _ _ _ ((hE k hk).2)) (CpAt.same (fun g' off' hg' => cell_of_block (hW.block g' (by omega)) off') d _ _ _ hg (hcp k hk g off e hg)) (by omega) (hf _ (List.getElem_mem hk))).mono ?_
      rintro e w' ⟨rfl, h9⟩
      exact ⟨rfl, hW.trans (h9.mono hsz)⟩
  obtain ⟨n, hn⟩ : ∃ n, l.length = n := ⟨_, rfl⟩
  have HN : Hid (l.length = n ∧ B ≤ w.heap.size) := ⟨hn, hw⟩
  rw [hn]
  have hn2 : (n : Int) ≤ 2000000 := by rw [← hn]; omega
  clear hl hw hln hn hf ih hw0 hcp
  go_enter Tryz.func83, Tryz.ntmps83
  go_wp2
  go_loopw [8] (fun i wr => ∃ k : Nat, k ≤ n ∧ i = .int .i64 k ∧ Hid ((l.take k).all (fun x => allM q d x.2) = true ∧ Below w.heap.size w wr)) (fun i _ => n - (intOf i).toNat)
  case atStart => exact ⟨0, Nat.zero_le _, rfl, ⟨rfl, Below.refl _ _⟩⟩
  case round =>
    obtain ⟨k, hk, rfl, hS⟩ := hrel
    by_cases hkn : k < n
    · have hkl : k < l.length := by rw [HN.out.1]; exact hkn
      obtain ⟨g, off, rfl, hg, hC⟩ := HA.out k hkl
      have hgw : g < wr.heap.size := by have := HN.out.2; have := hS.out.2.size; omega
      have HC : Hid (Calls Tryz.prog 109 #[.pointer (some ⟨g, off + k * 8 + 1, none⟩), .func (.func F) #[v] #[]] wr fun e w' => e = .returned (.bool (allM q d l[k].2)) ∧ Below w.heap.size w w') := hC wr hS.out.2
      have HT : Hid (∀ b, allM q d l[k].2 = b → (l.take (k + 1)).all (fun x => allM q d x.2) = b ∧ (b = false → l.all (fun x => allM q d x.2) = false)) := by
        intro b hb
        refine ⟨by rw [List.take_succ_eq_append_getElem hkl, List.all_append, hS.out.1]; simp [hb], fun e => ?_⟩
        subst e
        cases e : l.all (fun x => allM q d x.2) with
        | false => rfl
        | true => have := List.all_eq_true.1 e _ (List.getElem_mem hkl); rw [hb] at this; cases this
      generalize allM q d l[k].2 = R at HC HT
      clear hC hk hkl hS HA
      go_wp2_with (go_at_call 109; fail)
      refine HC.out.mono ?_
      rintro e w2 ⟨rfl, hr⟩
      have HR2 : Hid (Below w.heap.size w w2) := hr
      clear hr HC
      cases R with
      | true =>
        go_wp2
        go_roundw
        case rel => exact ⟨k + 1, hkn, by go_num, ⟨(HT.out true rfl).1, HR2.out⟩⟩
        case measure => simp [intOf]; omega
      | false =>
        go_wp2
        go_ret
        exact ⟨by rw [(HT.out false rfl).2 rfl]; rfl, HR2.out⟩
    · have HF : Hid (l.all (fun x => allM q d x.2) = true ∧ Below w.heap.size w wr) := by
        have e : l.take k = l := List.take_of_length_le (by rw [HN.out.1]; omega)
        have h3 := hS.out
        rw [e] at h3
        exact h3
      clear hS HA
      go_wp2
      go_ret
      exact ⟨by rw [HF.out.1]; rfl, HF.out.2⟩
set_option maxRecDepth 100000 in
set_option maxHeartbeats 2000000 in
theorem all_exprs_c (F : Nat) (v : Value) (w0 : World) (q : (d : Nat) → Tr (d + 1) → Bool) (d : Nat) (ih : AllOK F v w0 q d) (l : List (Tr d)) (o : Option Addr) (cap B : Nat) (w : World) (hw0 : Below w0.heap.size w0 w) (hl : RowIn B 7 (fun (x : Tr d) g off => ExAt w B d x g off) o l) (hw : B ≤ w.heap.size) (hln : l.length ≤ 2000000) (hf : ∀ x ∈ l, Fit d x) (hcp : ∀ k (h : k < l.length) g off, o = some ⟨g, off, none⟩ → g < B → CpAt w B d l[k] g (off + k * 7)) :
    Calls Tryz.prog 139 #[.slice o l.length cap, .func (.func F) #[v] #[]] w fun e w' => e = .returned (.bool (l.all (fun x => allM q d x))) ∧ Below w.heap.size w w' := by
  have HA : Hid (∀ k (h : k < l.length), ∃ g off, o = some ⟨g, off, none⟩ ∧ g < B ∧ ∀ (W : World), Below w.heap.size w W → Calls Tryz.prog 109 #[.pointer (some ⟨g, off + k * 7, none⟩), .func (.func F) #[v] #[]] W fun e w' => e = .returned (.bool (allM q d l[k])) ∧ Below w.heap.size w w') := by
    intro k hk
    rcases hl with h0 | ⟨g, off, e, hg, hE⟩
    · subst h0; cases hk
    · refine ⟨g, off, e, hg, fun W hW => ?_⟩
      have hsz := hW.size
      refine (ih W (hw0.trans (hW.mono hw0.size)) l[k] B g (off + k * 7) (ExAt.same (fun g' off' hg' => cell_of_block (hW.block g' (by omega)) off') d _ _ _ (hE k hk)) (CpAt.same (fun g' off' hg' => cell_of_block (hW.block g' (by omega)) off') d _ _ _ hg (hcp k hk g off e hg)) (by omega) (hf _ (List.getElem_mem hk))).mono ?_
      rintro e w' ⟨rfl, h9⟩
      exact ⟨rfl, hW.trans (h9.mono hsz)⟩
  obtain ⟨n, hn⟩ : ∃ n, l.length = n := ⟨_, rfl⟩
  have HN : Hid (l.length = n ∧ B ≤ w.heap.size) := ⟨hn, hw⟩
  rw [hn]
  have hn2 : (n : Int) ≤ 2000000 := by rw [← hn]; omega
  clear hl hw hln hn hf ih hw0 hcp
  go_enter Tryz.func139, Tryz.ntmps139
  go_wp2
  go_loopw [8] (fun i wr => ∃ k : Nat, k ≤ n ∧ i = .int .i64 k ∧ Hid ((l.take k).all (fun x => allM q d x) = true ∧ Below w.heap.size w wr)) (fun i _ => n - (intOf i).toNat)
  case atStart => exact ⟨0, Nat.zero_le _, rfl, ⟨rfl, Below.refl _ _⟩⟩
  case round =>
    obtain ⟨k, hk, rfl, hS⟩ := hrel
    by_cases hkn : k < n
    · have hkl : k < l.length := by rw [HN.out.1]; exact hkn
      obtain ⟨g, off, rfl, hg, hC⟩ := HA.out k hkl
      have hgw : g < wr.heap.size := by have := HN.out.2; have := hS.out.2.size; omega
      have HC : Hid (Calls Tryz.prog 109 #[.pointer (some ⟨g, off + k * 7, none⟩), .func (.func F) #[v] #[]] wr fun e w' => e = .returned (.bool (allM q d l[k])) ∧ Below w.heap.size w w') := hC wr hS.out.2
      have HT : Hid (∀ b, allM q d l[k] = b → (l.take (k + 1)).all (fun x => allM q d x) = b ∧ (b = false → l.all (fun x => allM q d x) = false)) := by
        intro b hb
        refine ⟨by rw [List.take_succ_eq_append_getElem hkl, List.all_append, hS.out.1]; simp [hb], fun e => ?_⟩
        subst e
        cases e : l.all (fun x => allM q d x) with
        | false => rfl
        | true => have := List.all_eq_true.1 e _ (List.getElem_mem hkl); rw [hb] at this; cases this
      generalize allM q d l[k] = R at HC HT
      clear hC hk hkl hS HA
      go_wp2_with (go_at_call 109; fail)
      refine HC.out.mono ?_
      rintro e w2 ⟨rfl, hr⟩
      have HR2 : Hid (Below w.heap.size w w2) := hr
      clear hr HC
      cases R with
      | true =>
        go_wp2
        go_roundw
        case rel => exact ⟨k + 1, hkn, by go_num, ⟨(HT.out true rfl).1, HR2.out⟩⟩
        case measure => simp [intOf]; omega
      | false =>
        go_wp2
        go_ret
        exact ⟨by rw [(HT.out false rfl).2 rfl]; rfl, HR2.out⟩
    · have HF : Hid (l.all (fun x => allM q d x) = true ∧ Below w.heap.size w wr) := by
        have e : l.take k = l := List.take_of_length_le (by rw [HN.out.1]; omega)
        have h3 := hS.out
        rw [e] at h3
        exact h3
      clear hS HA
      go_wp2
      go_ret
      exact ⟨by rw [HF.out.1]; rfl, HF.out.2⟩
set_option maxRecDepth 100000 in
set_option maxHeartbeats 2000000 in
theorem all_alts_c (F : Nat) (v : Value) (w0 : World) (q : (d : Nat) → Tr (d + 1) → Bool) (d : Nat) (ih : AllOK F v w0 q d) (l : List (AltH × Tr d)) (o : Option Addr) (cap B : Nat) (w : World) (hw0 : Below w0.heap.size w0 w) (hl : RowIn B 11 (AltAt w B d) o l) (hw : B ≤ w.heap.size) (hln : l.length ≤ 2000000) (hf : ∀ x ∈ l, Fit d x.2) (hcp : ∀ k (h : k < l.length) g off, o = some ⟨g, off, none⟩ → g < B → CpAt w B d l[k].2 g (off + k * 11 + 4)) :
    Calls Tryz.prog 140 #[.slice o l.length cap, .func (.func F) #[v] #[]] w fun e w' => e = .returned (.bool (l.all (fun x => allM q d x.2))) ∧ Below w.heap.size w w' := by
  have HA : Hid (∀ k (h : k < l.length), ∃ g off, o = some ⟨g, off, none⟩ ∧ g < B ∧ ∀ (W : World), Below w.heap.size w W → Calls Tryz.prog 109 #[.pointer (some ⟨g, off + k * 11 + 4, none⟩), .func (.func F) #[v] #[]] W fun e w' => e = .returned (.bool (allM q d l[k].2)) ∧ Below w.heap.size w w') := by
    intro k hk
    rcases hl with h0 | ⟨g, off, e, hg, hE⟩
    · subst h0; cases hk
    · refine ⟨g, off, e, hg, fun W hW => ?_⟩
      have hsz := hW.size
      refine (ih W (hw0.trans (hW.mono hw0.size)) l[k].2 B g (off + k * 11 + 4) (ExAt.same (fun g' off' hg' => cell_of_block (hW.block g' (by omega)) off') d _ _ _ ((hE k hk).2.2.2.2)) (CpAt.same (fun g' off' hg' => cell_of_block (hW.block g' (by omega)) off') d _ _ _ hg (hcp k hk g off e hg)) (by omega) (hf _ (List.getElem_mem hk))).mono ?_
      rintro e w' ⟨rfl, h9⟩
      exact ⟨rfl, hW.trans (h9.mono hsz)⟩
  obtain ⟨n, hn⟩ : ∃ n, l.length = n := ⟨_, rfl⟩
  have HN : Hid (l.length = n ∧ B ≤ w.heap.size) := ⟨hn, hw⟩
  rw [hn]
  have hn2 : (n : Int) ≤ 2000000 := by rw [← hn]; omega
  clear hl hw hln hn hf ih hw0 hcp
  go_enter Tryz.func140, Tryz.ntmps140
  go_wp2
  go_loopw [8] (fun i wr => ∃ k : Nat, k ≤ n ∧ i = .int .i64 k ∧ Hid ((l.take k).all (fun x => allM q d x.2) = true ∧ Below w.heap.size w wr)) (fun i _ => n - (intOf i).toNat)
  case atStart => exact ⟨0, Nat.zero_le _, rfl, ⟨rfl, Below.refl _ _⟩⟩
  case round =>
    obtain ⟨k, hk, rfl, hS⟩ := hrel
    by_cases hkn : k < n
    · have hkl : k < l.length := by rw [HN.out.1]; exact hkn
      obtain ⟨g, off, rfl, hg, hC⟩ := HA.out k hkl
      have hgw : g < wr.heap.size := by have := HN.out.2; have := hS.out.2.size; omega
      have HC : Hid (Calls Tryz.prog 109 #[.pointer (some ⟨g, off + k * 11 + 4, none⟩), .func (.func F) #[v] #[]] wr fun e w' => e = .returned (.bool (allM q d l[k].2)) ∧ Below w.heap.size w w') := hC wr hS.out.2
      have HT : Hid (∀ b, allM q d l[k].2 = b → (l.take (k + 1)).all (fun x => allM q d x.2) = b ∧ (b = false → l.all (fun x => allM q d x.2) = false)) := by
        intro b hb
        refine ⟨by rw [List.take_succ_eq_append_getElem hkl, List.all_append, hS.out.1]; simp [hb], fun e => ?_⟩
        subst e
        cases e : l.all (fun x => allM q d x.2) with
        | false => rfl
        | true => have := List.all_eq_true.1 e _ (List.getElem_mem hkl); rw [hb] at this; cases this
      generalize allM q d l[k].2 = R at HC HT
      clear hC hk hkl hS HA
      go_wp2_with (go_at_call 109; fail)
      refine HC.out.mono ?_
      rintro e w2 ⟨rfl, hr⟩
      have HR2 : Hid (Below w.heap.size w w2) := hr
      clear hr HC
      cases R with
      | true =>
        go_wp2
        go_roundw
        case rel => exact ⟨k + 1, hkn, by go_num, ⟨(HT.out true rfl).1, HR2.out⟩⟩
        case measure => simp [intOf]; omega
      | false =>
        go_wp2
        go_ret
        exact ⟨by rw [(HT.out false rfl).2 rfl]; rfl, HR2.out⟩
    · have HF : Hid (l.all (fun x => allM q d x.2) = true ∧ Below w.heap.size w wr) := by
        have e : l.take k = l := List.take_of_length_le (by rw [HN.out.1]; omega)
        have h3 := hS.out
        rw [e] at h3
        exact h3
      clear hS HA
      go_wp2
      go_ret
      exact ⟨by rw [HF.out.1]; rfl, HF.out.2⟩
set_option maxRecDepth 100000 in
set_option maxHeartbeats 2000000 in
theorem all_step (F : Nat) (v : Value) (w0 : World) (q : (d : Nat) → Tr (d + 1) → Bool) (hE0 : Enters Tryz.prog F) (hq : AskOK F v w0 q) (d : Nat) (ih : AllOK F v w0 q d) : AllOK F v w0 q (d + 1) := by
  intro w hw0 t B g off hE hCp hw hF
  have hEn : ∀ (args : Array Value) (w : World), (callFunc F args).run Tryz.prog w = .ok (.enter F args) w := hE0
  have H0 : Hid (∀ W, Below w.heap.size w W → Calls Tryz.prog F #[v, .pointer (some ⟨g, off, none⟩)] W fun e w' => e = .returned (.bool (q d t)) ∧ Below w.heap.size w w') := fun W hW => by
    have hsz := hW.size
    refine (hq W (hw0.trans (hW.mono hw0.size)) d t B g off (ExAt.same (fun g' off' hg' => cell_of_block (hW.block g' (by omega)) off') (d + 1) _ _ _ hE) (CpAt.same (fun g' off' hg' => cell_of_block (hW.block g' (by omega)) off') (d + 1) _ _ _ hE.lt hCp) (by omega) hF.1).mono ?_
    rintro e w' ⟨rfl, h9⟩
    exact ⟨rfl, hW.trans (h9.mono hsz)⟩
  obtain ⟨hg, h0, h1, h2, ⟨o3, c3, h3, k3⟩, ⟨o4, c4, h4, k4⟩, ⟨o5, c5, h5, k5⟩, ⟨o6, c6, h6, k6⟩⟩ := id hE
  have hgw : g < w.heap.size := by omega
  obtain ⟨-, p4, p5, p6⟩ := id hCp
  have HB : Hid (∀ W, Below w.heap.size w W → Calls Tryz.prog 83 #[.slice o4 (TrN.binds t).length c4, .func (.func F) #[v] #[]] W fun e w' => e = .returned (.bool ((TrN.binds t).all (fun x => allM q d x.2))) ∧ Below w.heap.size w w') := fun W hW => by
    have hsz := hW.size
    have hc : ∀ g' off', g' < B → W.cell? ⟨g', off', none⟩ = w.cell? ⟨g', off', none⟩ := fun g' off' hg' => cell_of_block (hW.block g' (by omega)) off'
    refine (all_binds_c F v w0 q d ih _ o4 c4 B W (hw0.trans (hW.mono hw0.size)) (k4.mono (fun y g off hg h => ⟨(hc _ _ hg).trans h.1, ExAt.same hc d _ _ _ h.2⟩)) (by omega) hF.1.2.2.1.1 (fun x hx => hF.2.1 x hx) (fun k hk g' x' e hg' => CpAt.same hc d _ _ _ hg' (p4 g' x' _ _ hg' (by rw [h4, e]) k hk))).mono ?_
    rintro e w' ⟨rfl, h9⟩
    exact ⟨rfl, hW.trans (h9.mono hsz)⟩
  have HX : Hid (∀ W, Below w.heap.size w W → Calls Tryz.prog 139 #[.slice o5 (TrN.args t).length c5, .func (.func F) #[v] #[]] W fun e w' => e = .returned (.bool ((TrN.args t).all (fun x => allM q d x))) ∧ Below w.heap.size w w') := fun W hW => by
    have hsz := hW.size
    have hc : ∀ g' off', g' < B → W.cell? ⟨g', off', none⟩ = w.cell? ⟨g', off', none⟩ := fun g' off' hg' => cell_of_block (hW.block g' (by omega)) off'
    refine (all_exprs_c F v w0 q d ih _ o5 c5 B W (hw0.trans (hW.mono hw0.size)) (k5.mono (fun y g off hg h => ExAt.same hc d _ _ _ h)) (by omega) hF.1.2.2.2.1 (fun x hx => hF.2.2.1 x hx) (fun k hk g' x' e hg' => CpAt.same hc d _ _ _ hg' (p5 g' x' _ _ hg' (by rw [h5, e]) k hk))).mono ?_
    rintro e w' ⟨rfl, h9⟩
    exact ⟨rfl, hW.trans (h9.mono hsz)⟩
  have HL : Hid (∀ W, Below w.heap.size w W → Calls Tryz.prog 140 #[.slice o6 (TrN.alts t).length c6, .func (.func F) #[v] #[]] W fun e w' => e = .returned (.bool ((TrN.alts t).all (fun x => allM q d x.2))) ∧ Below w.heap.size w w') := fun W hW => by
    have hsz := hW.size
    have hc : ∀ g' off', g' < B → W.cell? ⟨g', off', none⟩ = w.cell? ⟨g', off', none⟩ := fun g' off' hg' => cell_of_block (hW.block g' (by omega)) off'
    refine (all_alts_c F v w0 q d ih _ o6 c6 B W (hw0.trans (hW.mono hw0.size)) (k6.mono (fun y g off hg h => AltAt.same hc h)) (by omega) hF.1.2.2.2.2.1 (fun x hx => hF.2.2.2 x hx) (fun k hk g' x' e hg' => CpAt.same hc d _ _ _ hg' (p6 g' x' _ _ hg' (by rw [h6, e]) k hk))).mono ?_
    rintro e w' ⟨rfl, h9⟩
    exact ⟨rfl, hW.trans (h9.mono hsz)⟩
  have HC : Hid (∀ W, Below w.heap.size w W → g < W.heap.size ∧ W.cell? ⟨g, off + 4, none⟩ = some (.slice o4 (TrN.binds t).length c4) ∧ W.cell? ⟨g, off + 5, none⟩ = some (.slice o5 (TrN.args t).length c5) ∧ W.cell? ⟨g, off + 6, none⟩ = some (.slice o6 (TrN.alts t).length c6)) := fun W hW => by
    have hsz := hW.size
    have hc : ∀ off', W.cell? ⟨g, off', none⟩ = w.cell? ⟨g, off', none⟩ := fun off' => cell_of_block (hW.block g (by omega)) off'
    exact ⟨by omega, (hc _).trans h4, (hc _).trans h5, (hc _).trans h6⟩
  have HR : Hid (allM q (d + 1) t = (q d t && ((TrN.binds t).all (fun b => allM q d b.2) && ((TrN.args t).all (fun e => allM q d e) && (TrN.alts t).all (fun a => allM q d a.2))))) := rfl
  generalize q d t = R0 at H0 HR
  generalize (TrN.binds t).all (fun b => allM q d b.2) = R1 at HB HR
  generalize (TrN.args t).all (fun e => allM q d e) = R2 at HX HR
  generalize (TrN.alts t).all (fun a => allM q d a.2) = R3 at HL HR
  generalize (TrN.binds t).length = n4 at HB HC
  generalize (TrN.args t).length = n5 at HX HC
  generalize (TrN.alts t).length = n6 at HL HC
  clear hE hCp p4 p5 p6 hw hF hw0 ih hq k3 k4 k5 k6 h0 h1 h2 h3 h4 h5 h6 hg hE0
  go_enter Tryz.func109, Tryz.ntmps109
  go_wp2_with (go_at_fn F; fail)
  refine (H0.out w (Below.refl _ _)).mono ?_
  rintro e w1 ⟨rfl, hb1⟩
  obtain ⟨g1, d4, d5, d6⟩ := HC.out w1 hb1
  have B1 : Hid (Below w.heap.size w w1) := hb1
  clear hb1 H0
  cases R0 with
  | false =>
    go_wp2
    go_ret
    exact ⟨by rw [HR.out]; rfl, B1.out⟩
  | true =>
    go_wp2_with (go_at_call 83; fail)
    refine (HB.out w1 B1.out).mono ?_
    rintro e w2 ⟨rfl, hb2⟩
    obtain ⟨g2, e4, e5, e6⟩ := HC.out w2 hb2
    have B2 : Hid (Below w.heap.size w w2) := hb2
    clear hb2 HB B1 g1 d4 d5 d6
    cases R1 with
    | false =>
      go_wp2
      go_ret
      exact ⟨by rw [HR.out]; rfl, B2.out⟩
    | true =>
      go_wp2_with (go_at_call 139; fail)
      refine (HX.out w2 B2.out).mono ?_
      rintro e w3 ⟨rfl, hb3⟩
      obtain ⟨g3, f4, f5, f6⟩ := HC.out w3 hb3
      have B3 : Hid (Below w.heap.size w w3) := hb3
      clear hb3 HX B2 g2 e4 e5 e6
      cases R2 with
      | false =>
        go_wp2
        go_ret
        exact ⟨by rw [HR.out]; rfl, B3.out⟩
      | true =>
        go_wp2_with (go_at_call 140; fail)
        refine (HL.out w3 B3.out).mono ?_
        rintro e w4 ⟨rfl, hb4⟩
        have B4 : Hid (Below w.heap.size w w4) := hb4
        clear hb4 HL B3 HC
        cases R3 with
        | false =>
          go_wp2
          go_ret
          exact ⟨by rw [HR.out]; rfl, B4.out⟩
        | true =>
          go_wp2
          go_ret
          exact ⟨by rw [HR.out]; rfl, B4.out⟩
theorem allOK (F : Nat) (v : Value) (w0 : World) (q : (d : Nat) → Tr (d + 1) → Bool) (hE0 : Enters Tryz.prog F) (hq : AskOK F v w0 q) : ∀ d, AllOK F v w0 q d
  | 0 => fun _ _ t => nomatch t
  | d + 1 => all_step F v w0 q hE0 hq d (allOK F v w0 q hE0 hq d)
end Go.Proofs.YtegdloenakachaaGreatDoor

namespace Go.Proofs.YtegdloenakachaaGreatDoor
open Go.RowKit Go.Shelf Go.Maps
set_option linter.unusedVariables false

theorem owns_same {w w' : World} {base : Nat} {e : TypeId} {size : Nat} {v : Value} {n : Nat} {xs : List Value} (h : w.ownsRow base e size v n xs) (hb : ∀ g, v.ownBlock = some g → w'.heap[g]? = w.heap[g]?) : w'.ownsRow base e size v n xs := by
  obtain ⟨h1, h2⟩ := h
  refine ⟨h1, ?_⟩
  rcases h2 with h2 | ⟨g, cap, cur, rfl, h3, h4, h5⟩
  · exact .inl h2
  · exact .inr ⟨g, cap, cur, rfl, h3, by rw [hb g rfl]; exact h4, h5⟩
theorem heap_set_other (W : World) (b j : Nat) (u : Value) (k : Nat) (h : k ≠ b) : (W.setCell ⟨b, j, none⟩ u).heap[k]? = W.heap[k]? := by
  show (W.heap.modify b _)[k]? = _
  rw [Array.getElem?_modify]
  simp [Ne.symm h]
theorem size_set7 (W : World) (a : Addr) (u : Value) : (W.setCell a u).heap.size = W.heap.size := by
  show (W.heap.modify _ _).size = _
  rw [Array.size_modify]
end Go.Proofs.YtegdloenakachaaGreatDoor

namespace Go.Proofs.YtegdloenakachaaGreatDoor
open Go.RowKit Go.Shelf Go.Maps
set_option linter.unusedVariables false

/-- A block that may be written. -/
def Uf (W : World) (g : Nat) : Prop := ∃ cur e, W.heap[g]? = some (.cells cur e (0, 0)) ∧ e ≠ 149
theorem Uf.frozen {W : World} {g : Nat} (h : Uf W g) (j : Nat) : W.frozen? ⟨g, j, none⟩ = false := by
  obtain ⟨cur, e, h, -⟩ := h
  simp [World.frozen?, h]
theorem Uf.lt {W : World} {g : Nat} (h : Uf W g) : g < W.heap.size := by
  obtain ⟨cur, e, h, -⟩ := h
  exact (Array.getElem?_eq_some_iff.1 h).1
theorem Uf.same {W W' : World} {g : Nat} (h : Uf W g) (hb : W'.heap[g]? = W.heap[g]?) : Uf W' g := by
  obtain ⟨cur, e, h, hn⟩ := h
  exact ⟨cur, e, by rw [hb]; exact h, hn⟩
theorem Uf.set {W : World} {g : Nat} (h : Uf W g) (b j : Nat) (u : Value) : Uf (W.setCell ⟨b, j, none⟩ u) g := by
  obtain ⟨cur, e, h, hn⟩ := h
  by_cases hb : g = b
  · subst hb
    obtain ⟨hlt, hk⟩ := Array.getElem?_eq_some_iff.1 h
    refine ⟨cur.setIfInBounds j u, e, ?_, hn⟩
    show (W.heap.modify g _)[g]? = _
    rw [Array.getElem?_eq_getElem (by rw [Array.size_modify]; exact hlt), Array.getElem_modify_self, hk]
    rfl
  · exact ⟨cur, e, (heap_set_other W b j u g hb).trans h, hn⟩
theorem Blk.uf {W : World} {B : Nat} {vs : Array Value} {T : TypeId} (h : Blk W B vs T) (hT : T ≠ 149) : Uf W B := ⟨vs, T, h, hT⟩
/-- Texts in a block of their own. -/
def OwTx (W : World) (lo hi : Nat) (o : Option Addr) (l : List ByteArray) : Prop := l = [] ∨ ∃ g, o = some ⟨g, 0, none⟩ ∧ lo ≤ g ∧ g < hi ∧ Uf W g ∧ ∀ k (h : k < l.length), W.cell? ⟨g, k, none⟩ = some (.string l[k])
/-- A row in a block of its own, its parts' own blocks behind it, one part's behind another's. -/
def OwRow {α : Type} (W : World) (lo hi n : Nat) (P : α → Nat → Nat → Nat → Nat → Prop) (o : Option Addr) (l : List α) : Prop := l = [] ∨ ∃ g, o = some ⟨g, 0, none⟩ ∧ lo ≤ g ∧ Uf W g ∧ ∃ h : Nat → Nat, g < h 0 ∧ (∀ k, k < l.length → h k ≤ h (k + 1)) ∧ h l.length ≤ hi ∧ ∀ k (hk : k < l.length), P l[k] g (k * n) (h k) (h (k + 1))
/-- An expression whose rows are its own. -/
def OwEx (W : World) : (d : Nat) → Tr d → Nat → Nat → Nat → Nat → Prop
  | 0, t, _, _, _, _ => nomatch t
  | d + 1, t, g, off, lo, hi => W.cell? ⟨g, off, none⟩ = some (.int .i64 (TrN.kind t)) ∧ W.cell? ⟨g, off + 1, none⟩ = some (.string (TrN.name t)) ∧ W.cell? ⟨g, off + 2, none⟩ = some (.int .i64 (TrN.num t)) ∧ ∃ m1 m2 m3, lo ≤ m1 ∧ m1 ≤ m2 ∧ m2 ≤ m3 ∧ m3 ≤ hi ∧
    (∃ o c, W.cell? ⟨g, off + 3, none⟩ = some (.slice o (TrN.params t).length c) ∧ OwTx W lo m1 o (TrN.params t)) ∧
    (∃ o c, W.cell? ⟨g, off + 4, none⟩ = some (.slice o (TrN.binds t).length c) ∧ OwRow W m1 m2 8 (fun (b : ByteArray × Tr d) g off lo hi => W.cell? ⟨g, off, none⟩ = some (.string b.1) ∧ OwEx W d b.2 g (off + 1) lo hi) o (TrN.binds t)) ∧
    (∃ o c, W.cell? ⟨g, off + 5, none⟩ = some (.slice o (TrN.args t).length c) ∧ OwRow W m2 m3 7 (fun (x : Tr d) g off lo hi => OwEx W d x g off lo hi) o (TrN.args t)) ∧
    (∃ o c, W.cell? ⟨g, off + 6, none⟩ = some (.slice o (TrN.alts t).length c) ∧ OwRow W m3 hi 11 (fun (a : AltH × Tr d) g off lo hi => W.cell? ⟨g, off, none⟩ = some (.int .i64 a.1.kind) ∧ W.cell? ⟨g, off + 1, none⟩ = some (.string a.1.name) ∧ W.cell? ⟨g, off + 2, none⟩ = some (.int .i64 a.1.num) ∧ ∃ m, lo ≤ m ∧ m ≤ hi ∧ (∃ o c, W.cell? ⟨g, off + 3, none⟩ = some (.slice o a.1.vars.length c) ∧ OwTx W lo m o a.1.vars) ∧ OwEx W d a.2 g (off + 4) m hi) o (TrN.alts t))
def OwBd (W : World) (d : Nat) (b : ByteArray × Tr d) (g off lo hi : Nat) : Prop := W.cell? ⟨g, off, none⟩ = some (.string b.1) ∧ OwEx W d b.2 g (off + 1) lo hi
def OwAl (W : World) (d : Nat) (a : AltH × Tr d) (g off lo hi : Nat) : Prop := W.cell? ⟨g, off, none⟩ = some (.int .i64 a.1.kind) ∧ W.cell? ⟨g, off + 1, none⟩ = some (.string a.1.name) ∧ W.cell? ⟨g, off + 2, none⟩ = some (.int .i64 a.1.num) ∧ ∃ m, lo ≤ m ∧ m ≤ hi ∧ (∃ o c, W.cell? ⟨g, off + 3, none⟩ = some (.slice o a.1.vars.length c) ∧ OwTx W lo m o a.1.vars) ∧ OwEx W d a.2 g (off + 4) m hi
theorem OwTx.same {W W' : World} {lo hi : Nat} {o : Option Addr} {l : List ByteArray} (h : OwTx W lo hi o l) (hb : ∀ k, lo ≤ k → k < hi → W'.heap[k]? = W.heap[k]?) : OwTx W' lo hi o l := by
  rcases h with h | ⟨g, e, h1, h2, h3, h4⟩
  · exact .inl h
  · exact .inr ⟨g, e, h1, h2, h3.same (hb g h1 h2), fun k hk => (cell_of_block (hb g h1 h2) k).trans (h4 k hk)⟩
theorem OwTx.mono {W : World} {lo hi lo' hi' : Nat} {o : Option Addr} {l : List ByteArray} (h : OwTx W lo hi o l) (h1 : lo' ≤ lo) (h2 : hi ≤ hi') : OwTx W lo' hi' o l := by
  rcases h with h | ⟨g, e, h3, h4, h5⟩
  · exact .inl h
  · exact .inr ⟨g, e, by omega, by omega, h5⟩
theorem step_le {h : Nat → Nat} {n : Nat} (hm : ∀ k, k < n → h k ≤ h (k + 1)) : ∀ j k, j ≤ k → k ≤ n → h j ≤ h k
  | j, 0, hj, _ => by rw [Nat.le_zero.1 hj]; exact Nat.le_refl _
  | j, k + 1, hj, hk => by
    by_cases e : j = k + 1
    · rw [e]; exact Nat.le_refl _
    · exact Nat.le_trans (step_le hm j k (by omega) (by omega)) (hm k (by omega))
theorem OwRow.same {α : Type} {W W' : World} {lo hi n : Nat} {P Q : α → Nat → Nat → Nat → Nat → Prop} {o : Option Addr} {l : List α} (h : OwRow W lo hi n P o l) (hb : ∀ k, lo ≤ k → k < hi → W'.heap[k]? = W.heap[k]?)
    (hpq : ∀ x g off a b, lo ≤ g → g < hi → lo ≤ a → b ≤ hi → P x g off a b → Q x g off a b) : OwRow W' lo hi n Q o l := by
  rcases h with h | ⟨g, e, h1, h2, h, k0, k1, k2, k3⟩
  · exact .inl h
  · by_cases hl : l = []
    · exact .inl hl
    have hn : 0 < l.length := List.length_pos_iff.2 hl
    have hgh : g < hi := by have := step_le k1 0 l.length (by omega) (Nat.le_refl _); omega
    refine .inr ⟨g, e, h1, h2.same (hb g h1 hgh), h, k0, k1, k2, fun k hk => hpq _ _ _ _ _ h1 hgh ?_ ?_ (k3 k hk)⟩
    · have := step_le k1 0 k (by omega) (by omega); omega
    · have := step_le k1 (k + 1) l.length (by omega) (Nat.le_refl _); omega
theorem OwRow.mono {α : Type} {W : World} {lo hi lo' hi' n : Nat} {P : α → Nat → Nat → Nat → Nat → Prop} {o : Option Addr} {l : List α} (h : OwRow W lo hi n P o l) (h1 : lo' ≤ lo) (h2 : hi ≤ hi') : OwRow W lo' hi' n P o l := by
  rcases h with h | ⟨g, e, h3, h4, h, k0, k1, k2, k3⟩
  · exact .inl h
  · exact .inr ⟨g, e, by omega, h4, h, k0, k1, by omega, k3⟩
theorem OwEx.same {W W' : World} : ∀ (d : Nat) (t : Tr d) (g off lo hi : Nat), OwEx W d t g off lo hi → (∀ q, q < 7 → W'.cell? ⟨g, off + q, none⟩ = W.cell? ⟨g, off + q, none⟩) → (∀ k, lo ≤ k → k < hi → W'.heap[k]? = W.heap[k]?) → OwEx W' d t g off lo hi
  | 0, t, _, _, _, _, _, _, _ => nomatch t
  | d + 1, t, g, off, lo, hi, h, hh, hb => by
    obtain ⟨h0, h1, h2, m1, m2, m3, l1, l2, l3, l4, ⟨o3, c3, h3, k3⟩, ⟨o4, c4, h4, k4⟩, ⟨o5, c5, h5, k5⟩, ⟨o6, c6, h6, k6⟩⟩ := h
    refine ⟨(hh 0 (by omega)).trans h0, (hh 1 (by omega)).trans h1, (hh 2 (by omega)).trans h2, m1, m2, m3, l1, l2, l3, l4, ⟨o3, c3, (hh 3 (by omega)).trans h3, k3.same (fun k a b => hb k a (by omega))⟩, ⟨o4, c4, (hh 4 (by omega)).trans h4, k4.same (fun k a b => hb k (by omega) (by omega)) ?_⟩, ⟨o5, c5, (hh 5 (by omega)).trans h5, k5.same (fun k a b => hb k (by omega) (by omega)) ?_⟩, ⟨o6, c6, (hh 6 (by omega)).trans h6, k6.same (fun k a b => hb k (by omega) (by omega)) ?_⟩⟩
    · rintro x g off a b hg1 hg2 ha hb2 ⟨e1, e2⟩
      have hc := fun j => cell_of_block (hb g (by omega) (by omega)) j
      exact ⟨(hc _).trans e1, OwEx.same d _ _ _ _ _ e2 (fun q _ => hc _) (fun k h1 h2 => hb k (by omega) (by omega))⟩
    · intro x g off a b hg1 hg2 ha hb2 e
      have hc := fun j => cell_of_block (hb g (by omega) (by omega)) j
      exact OwEx.same d _ _ _ _ _ e (fun q _ => hc _) (fun k h1 h2 => hb k (by omega) (by omega))
    · rintro x g off a b hg1 hg2 ha hb2 ⟨e1, e2, e3, m, q1, q2, ⟨o, c, e4, e5⟩, e6⟩
      have hc := fun j => cell_of_block (hb g (by omega) (by omega)) j
      exact ⟨(hc _).trans e1, (hc _).trans e2, (hc _).trans e3, m, q1, q2, ⟨o, c, (hc _).trans e4, e5.same (fun k h1 h2 => hb k (by omega) (by omega))⟩, OwEx.same d _ _ _ _ _ e6 (fun q _ => hc _) (fun k h1 h2 => hb k (by omega) (by omega))⟩
theorem OwEx.mono {W : World} {d : Nat} {t : Tr d} {g off lo hi lo' hi' : Nat} (h : OwEx W d t g off lo hi) (h1 : lo' ≤ lo) (h2 : hi ≤ hi') : OwEx W d t g off lo' hi' := by
  cases d with
  | zero => exact nomatch t
  | succ d =>
    obtain ⟨h0, h1', h2', m1, m2, m3, l1, l2, l3, l4, ⟨o3, c3, h3, k3⟩, k4, k5, ⟨o6, c6, h6, k6⟩⟩ := h
    exact ⟨h0, h1', h2', m1, m2, m3, by omega, l2, l3, by omega, ⟨o3, c3, h3, k3.mono h1 (Nat.le_refl _)⟩, k4, k5, ⟨o6, c6, h6, k6.mono (Nat.le_refl _) h2⟩⟩
theorem OwAl.mono {W : World} {d : Nat} {a : AltH × Tr d} {g off lo hi lo' hi' : Nat} (h : OwAl W d a g off lo hi) (h1 : lo' ≤ lo) (h2 : hi ≤ hi') : OwAl W d a g off lo' hi' := by
  obtain ⟨e1, e2, e3, m, q1, q2, ⟨o, c, e4, e5⟩, e6⟩ := h
  exact ⟨e1, e2, e3, m, by omega, by omega, ⟨o, c, e4, e5.mono h1 (Nat.le_refl _)⟩, e6.mono (Nat.le_refl _) h2⟩
theorem OwTx.tx {W : World} {lo hi B : Nat} {o : Option Addr} {l : List ByteArray} (h : OwTx W lo hi o l) (hB : hi ≤ B) : TxIn W B o l := by
  rcases h with h | ⟨g, e, h1, h2, h3, h4⟩
  · exact .inl h
  · exact .inr ⟨g, 0, e, by omega, fun k hk => by rw [Nat.zero_add]; exact h4 k hk⟩
theorem OwRow.row {α : Type} {W : World} {lo hi B n : Nat} {P : α → Nat → Nat → Nat → Nat → Prop} {Q : α → Nat → Nat → Prop} {o : Option Addr} {l : List α} (h : OwRow W lo hi n P o l) (hB : hi ≤ B) (hpq : ∀ x g off a b, lo ≤ g → g < hi → lo ≤ a → b ≤ hi → P x g off a b → Q x g off) : RowIn B n Q o l := by
  rcases h with h | ⟨g, e, h1, h2, h, k0, k1, k2, k3⟩
  · exact .inl h
  · by_cases hl : l = []
    · exact .inl hl
    have hn : 0 < l.length := List.length_pos_iff.2 hl
    have hgh : g < hi := by have := step_le k1 0 l.length (by omega) (Nat.le_refl _); omega
    refine .inr ⟨g, 0, e, by omega, fun k hk => ?_⟩
    rw [Nat.zero_add]
    refine hpq _ _ _ _ _ h1 hgh ?_ ?_ (k3 k hk)
    · have := step_le k1 0 k (by omega) (by omega); omega
    · have := step_le k1 (k + 1) l.length (by omega) (Nat.le_refl _); omega
theorem OwEx.ex {W : World} {B : Nat} : ∀ (d : Nat) (t : Tr d) (g off lo hi : Nat), OwEx W d t g off lo hi → g < B → hi ≤ B → ExAt W B d t g off
  | 0, t, _, _, _, _, _, _, _ => nomatch t
  | d + 1, t, g, off, lo, hi, h, hg, hB => by
    obtain ⟨h0, h1, h2, m1, m2, m3, l1, l2, l3, l4, ⟨o3, c3, h3, k3⟩, ⟨o4, c4, h4, k4⟩, ⟨o5, c5, h5, k5⟩, ⟨o6, c6, h6, k6⟩⟩ := h
    refine ⟨hg, h0, h1, h2, ⟨o3, c3, h3, k3.tx (by omega)⟩, ⟨o4, c4, h4, k4.row (by omega) ?_⟩, ⟨o5, c5, h5, k5.row (by omega) ?_⟩, ⟨o6, c6, h6, k6.row (by omega) ?_⟩⟩
    · rintro x g off a b hg1 hg2 ha hb2 ⟨e1, e2⟩
      exact ⟨e1, OwEx.ex d _ _ _ _ _ e2 (by omega) (by omega)⟩
    · intro x g off a b hg1 hg2 ha hb2 e
      exact OwEx.ex d _ _ _ _ _ e (by omega) (by omega)
    · rintro x g off a b hg1 hg2 ha hb2 ⟨e1, e2, e3, m, q1, q2, ⟨o, c, e4, e5⟩, e6⟩
      exact ⟨e1, e2, e3, ⟨o, c, e4, e5.tx (by omega)⟩, OwEx.ex d _ _ _ _ _ e6 (by omega) (by omega)⟩
/-- An expression as a value, its rows its own. -/
def OwV (W : World) : (d : Nat) → Tr d → Value → Nat → Nat → Prop
  | 0, t, _, _, _ => nomatch t
  | d + 1, t, v, lo, hi => ∃ m1 m2 m3 o3 c3 o4 c4 o5 c5 o6 c6, lo ≤ m1 ∧ m1 ≤ m2 ∧ m2 ≤ m3 ∧ m3 ≤ hi ∧ v = .agg #[.int .i64 (TrN.kind t), .string (TrN.name t), .int .i64 (TrN.num t), .slice o3 (TrN.params t).length c3, .slice o4 (TrN.binds t).length c4, .slice o5 (TrN.args t).length c5, .slice o6 (TrN.alts t).length c6] ∧ OwTx W lo m1 o3 (TrN.params t) ∧ OwRow W m1 m2 8 (OwBd W d) o4 (TrN.binds t) ∧ OwRow W m2 m3 7 (OwEx W d) o5 (TrN.args t) ∧ OwRow W m3 hi 11 (OwAl W d) o6 (TrN.alts t)
end Go.Proofs.YtegdloenakachaaGreatDoor
