/-
  source.At by its contract.
-/
import Derived.Test.YtfabfdglmimffaaLineOf
namespace Go.Proofs.Ytfabfdglmimffaa
open Go.RowKit Go.Shelf
set_option linter.unusedVariables false

attribute [local go_sem] Oper.semAt_some

/-- What At answers. -/
def AtSays (s : ByteArray) (line col : Int) (v : Value) : Prop :=
  (∃ (k : Nat) (x : Nat × ByteArray) (j : Nat), line = (k : Int) + 1 ∧ (M.LN s 0)[k]? = some x ∧ j ≤ x.2.size ∧ M.colAt (x.2.data.toList.take j) = col ∧ v = .tuple #[.int .i64 ((x.1 + j : Nat) : Int), .int .i64 0]) ∨
  ((∀ (k : Nat) (x : Nat × ByteArray) (j : Nat), (M.LN s 0)[k]? = some x → j ≤ x.2.size → line = (k : Int) + 1 → M.colAt (x.2.data.toList.take j) ≠ col) ∧ v = .tuple #[.int .i64 0, .int .i64 2])

set_option maxRecDepth 100000 in
set_option maxHeartbeats 2000000 in
theorem at_in (F : Fence) (n : Nat) (hF : ∀ k, F.fn k) (hro : F.round = none) (h1 : 1 ≤ n) (hn : 7 ≤ n) (s : ByteArray) (line col : Int) (hs : s.size ≤ 140737488351232) (w : World) :
    CallsIn F n Try.prog 8 #[.string s, .int .i64 line, .int .i64 col] w fun e W' => ∃ v, e = .returned v ∧ AtSays s line col v ∧ Below w.heap.size w W' := by
  refine callsIn_of_wp_marks Try.func8 rfl (hF _) ?_ hro
  simp only [Try.ntmps8, List.size_toArray, List.length_cons, List.length_nil, Nat.reduceAdd, Nat.reduceSub, Array.replicate_succ, Array.replicate_zero, List.push_toArray, List.append_toArray, List.nil_append, List.cons_append]
  gi_wp2_with fail
  have hw0 : Hid ((((w.alloc (Obj.cells #[Value.int IntKind.i64 col] 3)).alloc (Obj.cells #[Value.int IntKind.i64 0] 3)).alloc (Obj.cells #[Value.int IntKind.i64 0] 22)).heap.size = w.heap.size + 3) := by show _ = _; simp
  have b0 : Boxed (((w.alloc (Obj.cells #[Value.int IntKind.i64 col] 3)).alloc (Obj.cells #[Value.int IntKind.i64 0] 3)).alloc (Obj.cells #[Value.int IntKind.i64 0] 22)) w.heap.size 3 (Value.int IntKind.i64 col) := by
    have h := Boxed.new w 3 (Value.int IntKind.i64 col)
    exact ((h.alloc _).alloc _)
  have b1 : Boxed (((w.alloc (Obj.cells #[Value.int IntKind.i64 col] 3)).alloc (Obj.cells #[Value.int IntKind.i64 0] 3)).alloc (Obj.cells #[Value.int IntKind.i64 0] 22)) (w.heap.size + 1) 3 (Value.int IntKind.i64 0) := by
    have h := Boxed.new (w.alloc (Obj.cells #[Value.int IntKind.i64 col] 3)) 3 (Value.int IntKind.i64 0)
    simp only [World.size_alloc] at h
    exact (h.alloc _)
  have b2 : Boxed (((w.alloc (Obj.cells #[Value.int IntKind.i64 col] 3)).alloc (Obj.cells #[Value.int IntKind.i64 0] 3)).alloc (Obj.cells #[Value.int IntKind.i64 0] 22)) (w.heap.size + 1 + 1) 22 (Value.int IntKind.i64 0) := by
    have h := Boxed.new ((w.alloc (Obj.cells #[Value.int IntKind.i64 col] 3)).alloc (Obj.cells #[Value.int IntKind.i64 0] 3)) 22 (Value.int IntKind.i64 0)
    simp only [World.size_alloc] at h
    exact h
  have hB0 : Below w.heap.size w (((w.alloc (Obj.cells #[Value.int IntKind.i64 col] 3)).alloc (Obj.cells #[Value.int IntKind.i64 0] 3)).alloc (Obj.cells #[Value.int IntKind.i64 0] 22)) := by
    have hb := Below.refl w.heap.size w
    have hs := hb.size
    exact (((hb.alloc (by first | omega | (simp; omega) | (simp; done)) _).alloc (by first | omega | (simp; omega) | (simp; done)) _).alloc (by first | omega | (simp; omega) | (simp; done)) _)
  generalize (((w.alloc (Obj.cells #[Value.int IntKind.i64 col] 3)).alloc (Obj.cells #[Value.int IntKind.i64 0] 3)).alloc (Obj.cells #[Value.int IntKind.i64 0] 22)) = W0 at *
  refine (lineOf_in F (n - 1) hF hro (by omega) (by omega) s line hs W0).mono ?_
  rintro e W1 ⟨v, rfl, hv, hB1⟩
  have c0 := boxed_below hB1 b0.lt b0
  have c1 := boxed_below hB1 b1.lt b1
  have c2 := boxed_below hB1 b2.lt b2
  have hBW := hB0.trans (hB1.mono (by have := hw0.out; omega))
  have hszW := hB1.size
  rcases hv with ⟨k, x, hl, hx, rfl⟩ | ⟨hno, rfl⟩
  · have hxs : x.2.size ≤ 140737488351232 := Nat.le_trans (M.LN_size s 0 x (List.mem_of_getElem? hx)) hs
    have hst : x.1 + x.2.size ≤ 140737488351232 := Nat.le_trans (M.LN_start s 0 x (Nat.zero_le _) (List.mem_of_getElem? hx)) hs
    have HX : Hid (line = (k : Int) + 1 ∧ (M.LN s 0)[k]? = some x) := ⟨hl, hx⟩
    clear hl hx
    obtain ⟨st, T⟩ := x
    dsimp only at *
    gi_wp2_with (gi_at_call 20; refine (columns_in F (n - 1) hF hro _ _).mono ?_; rintro e w' ⟨rfl, rfl⟩)
    have hBn : Below W1.heap.size W1 ((W1.alloc (Obj.cells #[Value.int IntKind.i64 (st : Nat)] 3)).alloc (Obj.cells #[Value.string T] 9)) := ((Below.refl _ W1).alloc (Nat.le_refl _) _).alloc (by simp) _
    have hw2 : Hid (((W1.alloc (Obj.cells #[Value.int IntKind.i64 (st : Nat)] 3)).alloc (Obj.cells #[Value.string T] 9)).heap.size = W1.heap.size + 2) := by show _ = _; simp
    have s0 : Boxed ((W1.alloc (Obj.cells #[Value.int IntKind.i64 (st : Nat)] 3)).alloc (Obj.cells #[Value.string T] 9)) W1.heap.size 3 (Value.int IntKind.i64 (st : Nat)) := by
      have h := Boxed.new W1 3 (Value.int IntKind.i64 (st : Nat))
      exact (h.alloc _)
    have s1 : Boxed ((W1.alloc (Obj.cells #[Value.int IntKind.i64 (st : Nat)] 3)).alloc (Obj.cells #[Value.string T] 9)) (W1.heap.size + 1) 9 (Value.string T) := by
      have h := Boxed.new (W1.alloc (Obj.cells #[Value.int IntKind.i64 (st : Nat)] 3)) 9 (Value.string T)
      simp only [World.size_alloc] at h
      exact h
    have hB2 : Below w.heap.size w ((W1.alloc (Obj.cells #[Value.int IntKind.i64 (st : Nat)] 3)).alloc (Obj.cells #[Value.string T] 9)) := by
      have hb := hBW
      have hs := hb.size
      exact ((hb.alloc (by first | omega | (simp; omega) | (simp; done)) _).alloc (by first | omega | (simp; omega) | (simp; done)) _)
    generalize ((W1.alloc (Obj.cells #[Value.int IntKind.i64 (st : Nat)] 3)).alloc (Obj.cells #[Value.string T] 9)) = W2 at *
    have d0 := boxed_below hBn (by have := c0.lt; omega) c0
    have d1 := boxed_below hBn (by have := c1.lt; omega) c1
    have d2 := boxed_below hBn (by have := c2.lt; omega) c2
    have hwW : w.heap.size + 3 ≤ W1.heap.size := by have := hw0.out; omega
    refine wpIn_rangeFunc_ownF hro h1 (gf := 26) (lb := #[.pointer (some ⟨W1.heap.size + 1, 0, none⟩)]) rfl (hF _) (enters_of Try.func26 (by kernel_rfl) rfl)
      (columns_stops F (n - 1) hF hro (by omega) (W1.heap.size + 1) T hxs W2 s1.lt s1.cell) Keeps.trans (fun W l o o' hl => Keeps.put (w := W2) W l o o' hl) (Below.refl _ _) (fun _ => rfl)
      (fun pre W => ((∀ y ∈ pre, y.2 ≠ col) ∧ Boxed W w.heap.size 3 (.int .i64 col) ∧ Boxed W (w.heap.size + 1) 3 (.int .i64 0) ∧ Boxed W (w.heap.size + 1 + 1) 22 (.int .i64 0) ∧ Boxed W W1.heap.size 3 (.int .i64 (st : Nat))) ∧ Below w.heap.size w W)
      (fun c pre W => (c = .ret ∧ ∃ p y, pre = p ++ [y] ∧ y.2 = col ∧ Boxed W (w.heap.size + 1) 3 (.int .i64 (wrap64 ((st : Int) + (y.1 : Int)))) ∧ Boxed W (w.heap.size + 1 + 1) 22 (.int .i64 0)) ∧ Below w.heap.size w W)
      (OwnFrom.and (Own.from (fun s A B row hs hg hr => ⟨hs.1, boxed_kept hs.2.1 hg hr, boxed_kept hs.2.2.1 hg hr, boxed_kept hs.2.2.2.1 hg hr, boxed_kept hs.2.2.2.2 hg hr⟩) _) (ownFrom_below (Nat.le_refl _) (by have := hw2.out; omega)))
      (fun c => OwnFrom.and (Own.from (fun s A B row hs hg hr => ⟨hs.1, by
        obtain ⟨_, p, x, e1, e2, g1, g2⟩ := hs
        exact ⟨p, x, e1, e2, boxed_kept g1 hg hr, boxed_kept g2 hg hr⟩⟩) _) (ownFrom_below (Nat.le_refl _) (by have := hw2.out; omega)))
      ⟨⟨by simp, d0, d1, d2, s0⟩, hB2⟩
      ?a1 ?assign ?body ?done ?stop
    case assign =>
      intro l x W K hK
      gi_wp2
      exact hK
    case body =>
      rintro l pre y W ⟨⟨hno, c0, c1, c2, c3⟩, hB⟩ hlt
      have hc0 := c0.cell
      have hc1 := c1.cell
      have hf1 := c1.frozen
      have hc2 := c2.cell
      have hf2 := c2.frozen
      have hc3 := c3.cell
      have Hno : Hid (∀ y ∈ pre, y.2 ≠ col) := hno
      clear hno
      by_cases hl : y.2 = col
      · have Hl : Hid (y.2 = col) := hl
        have hq : (y.2 == col) = true := beq_iff_eq.2 hl
        clear hl
        gi_wp2
        refine ⟨(KeepsOthers.setCell _ _ _).trans (KeepsOthers.setCell _ _ _), ⟨rfl, pre, y, rfl, Hl.out, ?_, ?_⟩, ?_⟩
        · exact (c1.set _).other (by omega) _
        · exact (c2.other (by omega) _).set _
        · exact (hB.setCell (p := ⟨w.heap.size + 1, 0, none⟩) (by simp) _).setCell (p := ⟨w.heap.size + 1 + 1, 0, none⟩) (by simp; omega) _
      · have Hl : Hid (¬ y.2 = col) := hl
        have hq : (y.2 == col) = false := beq_eq_false_iff_ne.2 hl
        clear hl
        gi_wp2
        exact ⟨KeepsOthers.refl _, Keeps.refl _ _, ⟨fun z hz => (List.mem_append.1 hz).elim (Hno.out z) (fun e => by simp at e; subst e; exact Hl.out), c0, c1, c2, c3⟩, hB⟩
    case done =>
      rintro D ys W hD rfl ⟨⟨hno, c0, c1, c2, c3⟩, hB⟩ hK
      have hc1 := c1.cell
      have hf1 := c1.frozen
      have hc2 := c2.cell
      have hf2 := c2.frozen
      have Hno : Hid (∀ y ∈ M.CL T, y.2 ≠ col) := hno
      clear hno
      gi_wp2
      have hk := (KeepsOthers.setCell W ⟨w.heap.size + 1, 0, none⟩ (.int .i64 0)).trans (KeepsOthers.setCell _ ⟨w.heap.size + 1 + 1, 0, none⟩ (.int .i64 2))
      have hK' := hk.same D _ hK rfl
      have d1 := (c1.set (.int .i64 0)).other (B' := w.heap.size + 1 + 1) (by omega) (.int .i64 2)
      have d2 := (c2.other (B' := w.heap.size + 1) (by omega) (.int .i64 0)).set (.int .i64 2)
      have e1 := (boxed_put (.deferred none) d1 hK' rfl).cell
      have e2 := (boxed_put (.deferred none) d2 hK' rfl).cell
      have hB3 := (hB.setCell (p := ⟨w.heap.size + 1, 0, none⟩) (by simp) (.int .i64 0)).setCell (p := ⟨w.heap.size + 1 + 1, 0, none⟩) (by simp; omega) (.int .i64 2)
      refine ⟨by simp, .inl ⟨_, _, rfl, run_takeDeferred hK', ?_⟩⟩
      refine ⟨.tuple #[.int .i64 0, .int .i64 2], ?_, _, rfl, .inr ⟨?_, rfl⟩, hB3.trans (belowK_b (w := w) (Nat.le_refl _) _ D _ _ (by have := hw2.out; omega) hK' rfl rfl)⟩
      · simp [results, Try.f8, go_sem, e1, e2]
      · intro k' x' j hx' hj hl'
        have hkk : k' = k := by have := HX.out.1; omega
        subst hkk
        rw [HX.out.2] at hx'
        cases hx'
        exact Hno.out (M.colF T j) (M.colF_mem T j hj)
    case stop =>
      rintro D c pre W hD ⟨j, hj, hpre⟩ ⟨⟨rfl, p, y, hpy, hl, c1, c2⟩, hB⟩ hK
      rw [hpy, M.upto_succ] at hpre
      obtain ⟨_, hy⟩ := List.append_inj' hpre rfl
      obtain rfl : y = M.colF T j := by simpa using hy
      clear hpy hpre hy
      have Hl : Hid ((M.colF T j).2 = col) := hl
      clear hl
      gi_wp2
      have e1 := (boxed_put (.deferred none) c1 hK rfl).cell
      have e2 := (boxed_put (.deferred none) c2 hK rfl).cell
      refine ⟨by simp, .inl ⟨_, _, rfl, run_takeDeferred hK, ?_⟩⟩
      refine ⟨.tuple #[.int .i64 ((st + j : Nat) : Int), .int .i64 0], ?_, _, rfl, .inl ⟨k, (st, T), j, HX.out.1, HX.out.2, hj, Hl.out, rfl⟩, hB.trans (belowK_b (w := w) (Nat.le_refl _) W D _ _ (by have := hw2.out; omega) hK rfl rfl)⟩
      have hw64 : wrap64 ((st : Int) + ((M.colF T j).1 : Int)) = ((st + j : Nat) : Int) := by
        show wrap64 ((st : Int) + (j : Int)) = _
        unfold wrap64
        omega
      rw [hw64] at e1
      simp [results, Try.f8, go_sem, e1, e2]
  · have Hno : Hid (∀ k : Nat, k < (M.LN s 0).length → line ≠ (k : Int) + 1) := hno
    clear hno
    have hc1 := c1.cell
    have hf1 := c1.frozen
    have hc2 := c2.cell
    have hf2 := c2.frozen
    have hwW : w.heap.size + 3 ≤ W1.heap.size := by have := hw0.out; omega
    have hz1 : w.heap.size + 1 < W1.heap.size := by omega
    have hz2 : w.heap.size + 1 + 1 < W1.heap.size := by omega
    gi_wp2
    have d1 := ((c1.set (.int .i64 0)).other (B' := w.heap.size + 1 + 1) (by omega) (.int .i64 2)).alloc (.cells #[.int .i64 0] 3)
    have d2 := ((c2.other (B' := w.heap.size + 1) (by omega) (.int .i64 0)).set (.int .i64 2)).alloc (.cells #[.int .i64 0] 3)
    have e1 := d1.cell
    have e2 := d2.cell
    have hB3' := (hBW.setCell (p := ⟨w.heap.size + 1, 0, none⟩) (by simp) (.int .i64 0)).setCell (p := ⟨w.heap.size + 1 + 1, 0, none⟩) (by simp; omega) (.int .i64 2)
    have hB3 := hB3'.alloc hB3'.size (.cells #[.int .i64 0] 3)
    refine ⟨.tuple #[.int .i64 0, .int .i64 2], ?_, _, rfl, .inr ⟨?_, rfl⟩, hB3⟩
    · simp [results, Try.f8, go_sem, e1, e2]
    · intro k x j hx hj hl
      exact absurd hl (Hno.out k (by
        obtain ⟨h, _⟩ := List.getElem?_eq_some_iff.1 hx
        exact h))

end Go.Proofs.Ytfabfdglmimffaa
