/-
  source.Where at no place, source.lineOf by its contract.
-/
import Derived.Test.YtfabfdglmimffaaWhere
namespace Go.Proofs.Ytfabfdglmimffaa
open Go.RowKit Go.Shelf
set_option linter.unusedVariables false

attribute [local go_sem] Oper.semAt_some

theorem boxed_below {m b : Nat} {A B : World} {t : TypeId} {v : Value} (h : Below m A B) (hlt : b < m) (hb : Boxed A b t v) : Boxed B b t v := (h.block b hlt).trans hb

set_option maxRecDepth 100000 in
set_option maxHeartbeats 2000000 in
theorem where_no (F : Fence) (n : Nat) (hF : ∀ k, F.fn k) (hro : F.round = none) (s : ByteArray) (at' : Int) (h : at' < 0 ∨ (s.size : Int) < at') (hs : s.size ≤ 140737488351232) (w : World) :
    CallsIn F n Try.prog 7 #[.string s, .int .i64 at'] w fun e W' => e = .returned (.tuple #[.int .i64 0, .int .i64 0, .int .i64 2]) ∧ Below w.heap.size w W' := by
  have hB : Below w.heap.size w (((w.alloc (.cells #[.int .i64 0] 3)).alloc (.cells #[.int .i64 0] 3))) := ((Below.refl _ w).alloc (Nat.le_refl _) _).alloc (by simp) _
  refine callsIn_of_wp Try.func7 rfl (hF _) ?_ hro
  simp only [Try.ntmps7, List.size_toArray, List.length_cons, List.length_nil, Nat.reduceAdd, Nat.reduceSub, Array.replicate_succ, Array.replicate_zero, List.push_toArray, List.append_toArray, List.nil_append, List.cons_append]
  by_cases h0 : at' < 0
  · gi_wp2
    exact bodyPost_ret (v := .tuple #[.int .i64 0, .int .i64 0, .int .i64 2]) (by simp [results, Try.results7, go_sem]) rfl ⟨rfl, hB⟩
  · have h2 : (s.size : Int) < at' := by omega
    gi_wp2
    exact bodyPost_ret (v := .tuple #[.int .i64 0, .int .i64 0, .int .i64 2]) (by simp [results, Try.results7, go_sem]) rfl ⟨rfl, hB⟩

/-- What lineOf answers. -/
def LineOf (s : ByteArray) (line : Int) (v : Value) : Prop :=
  (∃ (k : Nat) (x : Nat × ByteArray), line = (k : Int) + 1 ∧ (M.LN s 0)[k]? = some x ∧ v = .tuple #[.int .i64 (x.1 : Nat), .string x.2, .bool true]) ∨
  ((∀ k : Nat, k < (M.LN s 0).length → line ≠ (k : Int) + 1) ∧ v = .tuple #[.int .i64 0, .string ⟨#[]⟩, .bool false])

set_option maxRecDepth 100000 in
set_option maxHeartbeats 2000000 in
theorem lineOf_in (F : Fence) (n : Nat) (hF : ∀ k, F.fn k) (hro : F.round = none) (h1 : 1 ≤ n) (hn : 6 ≤ n) (s : ByteArray) (line : Int) (hs : s.size ≤ 140737488351232) (w : World) :
    CallsIn F n Try.prog 21 #[.string s, .int .i64 line] w fun e W' => ∃ v, e = .returned v ∧ LineOf s line v ∧ Below w.heap.size w W' := by
  have hlen := (M.LN_length s 0).2
  refine callsIn_of_wp_marks Try.func21 rfl (hF _) ?_ hro
  simp only [Try.ntmps21, List.size_toArray, List.length_cons, List.length_nil, Nat.reduceAdd, Nat.reduceSub, Array.replicate_succ, Array.replicate_zero, List.push_toArray, List.append_toArray, List.nil_append, List.cons_append]
  gi_wp2_with (gi_at_call 19; refine (lines_in F (n - 1) hF hro _ _).mono ?_; rintro e w' ⟨rfl, rfl⟩)
  have hw0 : Hid (((((((w.alloc (Obj.cells #[Value.int IntKind.i64 line] 3)).alloc (Obj.cells #[Value.int IntKind.i64 0] 3)).alloc (Obj.cells #[Value.string { data := #[] }] 9)).alloc (Obj.cells #[Value.bool false] 4)).alloc (Obj.cells #[Value.int IntKind.i64 0] 3)).alloc (Obj.cells #[Value.string s] 9)).heap.size = w.heap.size + 6) := by show _ = _; simp
  have b0 : Boxed ((((((w.alloc (Obj.cells #[Value.int IntKind.i64 line] 3)).alloc (Obj.cells #[Value.int IntKind.i64 0] 3)).alloc (Obj.cells #[Value.string { data := #[] }] 9)).alloc (Obj.cells #[Value.bool false] 4)).alloc (Obj.cells #[Value.int IntKind.i64 0] 3)).alloc (Obj.cells #[Value.string s] 9)) w.heap.size 3 (Value.int IntKind.i64 line) := by
    have h := Boxed.new w 3 (Value.int IntKind.i64 line)
    exact (((((h.alloc _).alloc _).alloc _).alloc _).alloc _)
  have b1 : Boxed ((((((w.alloc (Obj.cells #[Value.int IntKind.i64 line] 3)).alloc (Obj.cells #[Value.int IntKind.i64 0] 3)).alloc (Obj.cells #[Value.string { data := #[] }] 9)).alloc (Obj.cells #[Value.bool false] 4)).alloc (Obj.cells #[Value.int IntKind.i64 0] 3)).alloc (Obj.cells #[Value.string s] 9)) (w.heap.size + 1) 3 (Value.int IntKind.i64 0) := by
    have h := Boxed.new (w.alloc (Obj.cells #[Value.int IntKind.i64 line] 3)) 3 (Value.int IntKind.i64 0)
    simp only [World.size_alloc] at h
    exact ((((h.alloc _).alloc _).alloc _).alloc _)
  have b2 : Boxed ((((((w.alloc (Obj.cells #[Value.int IntKind.i64 line] 3)).alloc (Obj.cells #[Value.int IntKind.i64 0] 3)).alloc (Obj.cells #[Value.string { data := #[] }] 9)).alloc (Obj.cells #[Value.bool false] 4)).alloc (Obj.cells #[Value.int IntKind.i64 0] 3)).alloc (Obj.cells #[Value.string s] 9)) (w.heap.size + 1 + 1) 9 (Value.string { data := #[] }) := by
    have h := Boxed.new ((w.alloc (Obj.cells #[Value.int IntKind.i64 line] 3)).alloc (Obj.cells #[Value.int IntKind.i64 0] 3)) 9 (Value.string { data := #[] })
    simp only [World.size_alloc] at h
    exact (((h.alloc _).alloc _).alloc _)
  have b3 : Boxed ((((((w.alloc (Obj.cells #[Value.int IntKind.i64 line] 3)).alloc (Obj.cells #[Value.int IntKind.i64 0] 3)).alloc (Obj.cells #[Value.string { data := #[] }] 9)).alloc (Obj.cells #[Value.bool false] 4)).alloc (Obj.cells #[Value.int IntKind.i64 0] 3)).alloc (Obj.cells #[Value.string s] 9)) (w.heap.size + 1 + 1 + 1) 4 (Value.bool false) := by
    have h := Boxed.new (((w.alloc (Obj.cells #[Value.int IntKind.i64 line] 3)).alloc (Obj.cells #[Value.int IntKind.i64 0] 3)).alloc (Obj.cells #[Value.string { data := #[] }] 9)) 4 (Value.bool false)
    simp only [World.size_alloc] at h
    exact ((h.alloc _).alloc _)
  have b4 : Boxed ((((((w.alloc (Obj.cells #[Value.int IntKind.i64 line] 3)).alloc (Obj.cells #[Value.int IntKind.i64 0] 3)).alloc (Obj.cells #[Value.string { data := #[] }] 9)).alloc (Obj.cells #[Value.bool false] 4)).alloc (Obj.cells #[Value.int IntKind.i64 0] 3)).alloc (Obj.cells #[Value.string s] 9)) (w.heap.size + 1 + 1 + 1 + 1) 3 (Value.int IntKind.i64 0) := by
    have h := Boxed.new ((((w.alloc (Obj.cells #[Value.int IntKind.i64 line] 3)).alloc (Obj.cells #[Value.int IntKind.i64 0] 3)).alloc (Obj.cells #[Value.string { data := #[] }] 9)).alloc (Obj.cells #[Value.bool false] 4)) 3 (Value.int IntKind.i64 0)
    simp only [World.size_alloc] at h
    exact (h.alloc _)
  have b5 : Boxed ((((((w.alloc (Obj.cells #[Value.int IntKind.i64 line] 3)).alloc (Obj.cells #[Value.int IntKind.i64 0] 3)).alloc (Obj.cells #[Value.string { data := #[] }] 9)).alloc (Obj.cells #[Value.bool false] 4)).alloc (Obj.cells #[Value.int IntKind.i64 0] 3)).alloc (Obj.cells #[Value.string s] 9)) (w.heap.size + 1 + 1 + 1 + 1 + 1) 9 (Value.string s) := by
    have h := Boxed.new (((((w.alloc (Obj.cells #[Value.int IntKind.i64 line] 3)).alloc (Obj.cells #[Value.int IntKind.i64 0] 3)).alloc (Obj.cells #[Value.string { data := #[] }] 9)).alloc (Obj.cells #[Value.bool false] 4)).alloc (Obj.cells #[Value.int IntKind.i64 0] 3)) 9 (Value.string s)
    simp only [World.size_alloc] at h
    exact h
  have hB0 : Below w.heap.size w ((((((w.alloc (Obj.cells #[Value.int IntKind.i64 line] 3)).alloc (Obj.cells #[Value.int IntKind.i64 0] 3)).alloc (Obj.cells #[Value.string { data := #[] }] 9)).alloc (Obj.cells #[Value.bool false] 4)).alloc (Obj.cells #[Value.int IntKind.i64 0] 3)).alloc (Obj.cells #[Value.string s] 9)) := by
    have hb := Below.refl w.heap.size w
    have hs := hb.size
    exact ((((((hb.alloc (by simp <;> omega) _).alloc (by simp <;> omega) _).alloc (by simp <;> omega) _).alloc (by simp <;> omega) _).alloc (by simp <;> omega) _).alloc (by simp <;> omega) _)
  generalize ((((((w.alloc (Obj.cells #[Value.int IntKind.i64 line] 3)).alloc (Obj.cells #[Value.int IntKind.i64 0] 3)).alloc (Obj.cells #[Value.string { data := #[] }] 9)).alloc (Obj.cells #[Value.bool false] 4)).alloc (Obj.cells #[Value.int IntKind.i64 0] 3)).alloc (Obj.cells #[Value.string s] 9)) = W0 at *
  refine wpIn_rangeFunc_ownF hro h1 (gf := 24) (lb := #[.pointer (some ⟨w.heap.size + 1 + 1 + 1 + 1 + 1, 0, none⟩)]) rfl (hF _) (enters_of Try.func24 (by kernel_rfl) rfl)
    (lines_stops F (n - 1) hF hro (by omega) (w.heap.size + 1 + 1 + 1 + 1 + 1) s hs W0 b5.lt b5.cell) Keeps.trans (fun W l o o' hl => Keeps.put (w := W0) W l o o' hl) (Below.refl _ _) (fun _ => rfl)
    (fun pre W => ((∀ k : Nat, k < pre.length → line ≠ (k : Int) + 1) ∧ Boxed W w.heap.size 3 (.int .i64 line) ∧ Boxed W (w.heap.size + 1) 3 (.int .i64 0) ∧ Boxed W (w.heap.size + 1 + 1) 9 (.string ⟨#[]⟩) ∧ Boxed W (w.heap.size + 1 + 1 + 1) 4 (.bool false) ∧ Boxed W (w.heap.size + 1 + 1 + 1 + 1) 3 (.int .i64 (pre.length : Nat))) ∧ Below w.heap.size w W)
    (fun c pre W => (c = .ret ∧ ∃ p x, pre = p ++ [x] ∧ line = (p.length : Int) + 1 ∧ Boxed W (w.heap.size + 1) 3 (.int .i64 (x.1 : Nat)) ∧ Boxed W (w.heap.size + 1 + 1) 9 (.string x.2) ∧ Boxed W (w.heap.size + 1 + 1 + 1) 4 (.bool true)) ∧ Below w.heap.size w W)
    (OwnFrom.and (Own.from (fun s A B row hs hg hr => ⟨hs.1, boxed_kept hs.2.1 hg hr, boxed_kept hs.2.2.1 hg hr, boxed_kept hs.2.2.2.1 hg hr, boxed_kept hs.2.2.2.2.1 hg hr, boxed_kept hs.2.2.2.2.2 hg hr⟩) _) (ownFrom_below (Nat.le_refl _) (by have := hw0.out; omega)))
    (fun c => OwnFrom.and (Own.from (fun s A B row hs hg hr => ⟨hs.1, by
      obtain ⟨_, p, x, e1, e2, g1, g2, g3⟩ := hs
      exact ⟨p, x, e1, e2, boxed_kept g1 hg hr, boxed_kept g2 hg hr, boxed_kept g3 hg hr⟩⟩) _) (ownFrom_below (Nat.le_refl _) (by have := hw0.out; omega)))
    ⟨⟨by simp, b0, b1, b2, b3, b4⟩, hB0⟩
    ?a1 ?assign ?body ?done ?stop
  case assign =>
    intro l x W K hK
    gi_wp2
    exact hK
  case body =>
    rintro l pre x W ⟨⟨hno, c0, c1, c2, c3, c4⟩, hB⟩ hlt
    have hc0 := c0.cell
    have hc1 := c1.cell
    have hf1 := c1.frozen
    have hc2 := c2.cell
    have hf2 := c2.frozen
    have hc3 := c3.cell
    have hf3 := c3.frozen
    have hc4 := c4.cell
    have hf4 := c4.frozen
    have hbd : (pre.length : Int) ≤ 140737488351233 := by omega
    have Hno : Hid (∀ k : Nat, k < pre.length → line ≠ (k : Int) + 1) := hno
    clear hno
    by_cases hl : (pre.length : Int) + 1 = line
    · have Hl : Hid ((pre.length : Int) + 1 = line) := hl
      have hq : (((pre.length : Int) + 1) == line) = true := beq_iff_eq.2 hl
      clear hl
      gi_wp2
      refine ⟨((((KeepsOthers.setCell _ _ _).trans (KeepsOthers.setCell _ _ _)).trans (KeepsOthers.setCell _ _ _)).trans (KeepsOthers.setCell _ _ _)), ⟨rfl, pre, x, rfl, Hl.out.symm, ?_, ?_, ?_⟩, ?_⟩
      · exact ((((c1.other (by omega) _).set _).other (by omega) _).other (by omega) _)
      · exact ((((c2.other (by omega) _).other (by omega) _).set _).other (by omega) _)
      · exact ((((c3.other (by omega) _).other (by omega) _).other (by omega) _).set _)
      · exact (((hB.setCell (p := ⟨w.heap.size + 1 + 1 + 1 + 1, 0, none⟩) (by simp; omega) _).setCell (p := ⟨w.heap.size + 1, 0, none⟩) (by simp) _).setCell (p := ⟨w.heap.size + 1 + 1, 0, none⟩) (by simp; omega) _).setCell (p := ⟨w.heap.size + 1 + 1 + 1, 0, none⟩) (by simp; omega) _
    · have Hl : Hid (¬ (pre.length : Int) + 1 = line) := hl
      have hq : (((pre.length : Int) + 1) == line) = false := beq_eq_false_iff_ne.2 hl
      clear hl
      gi_wp2
      refine ⟨KeepsOthers.setCell _ _ _, keeps_set _ _ (by omega), ⟨?_, c0.other (by omega) _, c1.other (by omega) _, c2.other (by omega) _, c3.other (by omega) _, ?_⟩, ?_⟩
      · intro k hk e
        by_cases hkk : k < pre.length
        · exact Hno.out k hkk e
        · have : k = pre.length := by simp at hk; omega
          subst this
          exact Hl.out e.symm
      · have := c4.set (.int .i64 ((pre.length : Int) + 1))
        simpa using this
      · exact hB.setCell (p := ⟨w.heap.size + 1 + 1 + 1 + 1, 0, none⟩) (by simp; omega) _
  case done =>
    rintro D ys W hD rfl ⟨⟨hno, c0, c1, c2, c3, c4⟩, hB⟩ hK
    have hc1 := c1.cell
    have hf1 := c1.frozen
    have hc2 := c2.cell
    have hf2 := c2.frozen
    have hc3 := c3.cell
    have hf3 := c3.frozen
    have Hno : Hid (∀ k : Nat, k < (M.LN s 0).length → line ≠ (k : Int) + 1) := hno
    clear hno
    gi_wp2
    have hk := ((KeepsOthers.setCell W ⟨w.heap.size + 1, 0, none⟩ (.int .i64 0)).trans (KeepsOthers.setCell _ ⟨w.heap.size + 1 + 1, 0, none⟩ (.string ⟨#[]⟩))).trans (KeepsOthers.setCell _ ⟨w.heap.size + 1 + 1 + 1, 0, none⟩ (.bool false))
    have hK' := hk.same D _ hK rfl
    have d1 := (((c1.set (.int .i64 0)).other (B' := w.heap.size + 1 + 1) (by omega) (.string ⟨#[]⟩)).other (B' := w.heap.size + 1 + 1 + 1) (by omega) (.bool false))
    have d2 := (((c2.other (B' := w.heap.size + 1) (by omega) (.int .i64 0)).set (.string ⟨#[]⟩)).other (B' := w.heap.size + 1 + 1 + 1) (by omega) (.bool false))
    have d3 := (((c3.other (B' := w.heap.size + 1) (by omega) (.int .i64 0)).other (B' := w.heap.size + 1 + 1) (by omega) (.string ⟨#[]⟩)).set (.bool false))
    have e1 := (boxed_put (.deferred none) d1 hK' rfl).cell
    have e2 := (boxed_put (.deferred none) d2 hK' rfl).cell
    have e3 := (boxed_put (.deferred none) d3 hK' rfl).cell
    have hB3 := ((hB.setCell (p := ⟨w.heap.size + 1, 0, none⟩) (by simp) (.int .i64 0)).setCell (p := ⟨w.heap.size + 1 + 1, 0, none⟩) (by simp; omega) (.string ⟨#[]⟩)).setCell (p := ⟨w.heap.size + 1 + 1 + 1, 0, none⟩) (by simp; omega) (.bool false)
    refine ⟨by simp, .inl ⟨_, _, rfl, run_takeDeferred hK', ?_⟩⟩
    refine ⟨.tuple #[.int .i64 0, .string ⟨#[]⟩, .bool false], ?_, _, rfl, .inr ⟨Hno.out, rfl⟩, hB3.trans (belowK_b (w := w) (Nat.le_refl _) _ D _ _ (by have := hw0.out; omega) hK' rfl rfl)⟩
    simp [results, Try.f21, go_sem, e1, e2, e3]
  case stop =>
    rintro D c pre W hD hpre ⟨⟨rfl, p, x, rfl, hl, c1, c2, c3⟩, hB⟩ hK
    have Hl : Hid (line = (p.length : Int) + 1) := hl
    clear hl
    gi_wp2
    have e1 := (boxed_put (.deferred none) c1 hK rfl).cell
    have e2 := (boxed_put (.deferred none) c2 hK rfl).cell
    have e3 := (boxed_put (.deferred none) c3 hK rfl).cell
    refine ⟨by simp, .inl ⟨_, _, rfl, run_takeDeferred hK, ?_⟩⟩
    refine ⟨.tuple #[.int .i64 (x.1 : Nat), .string x.2, .bool true], ?_, _, rfl, .inl ⟨p.length, x, Hl.out, ?_, rfl⟩, hB.trans (belowK_b (w := w) (Nat.le_refl _) W D _ _ (by have := hw0.out; omega) hK rfl rfl)⟩
    · simp [results, Try.f21, go_sem, e1, e2, e3]
    · obtain ⟨q, hq⟩ := hpre
      rw [← hq]
      simp

end Go.Proofs.Ytfabfdglmimffaa
