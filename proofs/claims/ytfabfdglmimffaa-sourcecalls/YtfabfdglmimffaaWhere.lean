/-
  source.Where by its contract.
-/
import Derived.Test.YtfabfdglmimffaaIter
namespace Go.Proofs.Ytfabfdglmimffaa
open Go.RowKit Go.Shelf

attribute [local go_sem] Oper.semAt_some

theorem boxed_kept {W W' : World} {row : Option Nat} {B : Nat} {t : TypeId} {v : Value} (h : Boxed W B t v) (hg : W.grownBy W' row) (hr : ∀ r, row = some r → ∃ o : Obj, W.heap[r]? = some o ∧ o.isCells = false) : Boxed W' B t v :=
  h.kept hg (fun e => by
    obtain ⟨o, ho, hc⟩ := hr B e.symm
    rw [show W.heap[B]? = _ from h] at ho; cases ho; cases hc)
theorem boxed_put {W : World} {D B : Nat} {t : TypeId} {v : Value} {o : Obj} (o' : Obj) (h : Boxed W B t v) (hD : W.heap[D]? = some o) (hc : o.isCells = false) : Boxed (W.putObj D o') B t v :=
  boxed_kept h (grownBy_putObj' W D o') (fun r e => by cases e; exact ⟨o, hD, hc⟩)
theorem keeps_set {B B' : Nat} (W : World) (v : Value) (h : B' ≠ B) : Keeps B W (W.setCell ⟨B', 0, none⟩ v) := fun u hu => by
  rw [World.cell?_setCell_other _ _ _ _ (by intro e; cases e; exact h rfl)]; exact hu

/-- The text of the last line that has come. -/
def lastT (pre : List (Nat × ByteArray)) : ByteArray := ((pre.getLast?).map (·.2)).getD ⟨#[]⟩
theorem lastT_snoc (pre : List (Nat × ByteArray)) (x : Nat × ByteArray) : lastT (pre ++ [x]) = x.2 := by simp [lastT]
def lastC (pre : List (Nat × Int)) : Int := ((pre.getLast?).map (·.2)).getD 0
theorem lastC_snoc (pre : List (Nat × Int)) (x : Nat × Int) : lastC (pre ++ [x]) = x.2 := by simp [lastC]
theorem lastC_CL (s : ByteArray) : lastC (M.CL s) = M.colAt s.data.toList := by
  rw [M.CL, M.upto_succ, lastC_snoc, M.colF, List.take_of_length_le (by rw [← Lib.size_eq]; exact Nat.le_refl _)]
theorem lastT_size (s : ByteArray) : (lastT (M.LN s 0)).size ≤ s.size := by
  unfold lastT
  cases h : (M.LN s 0).getLast? with
  | none => simp; exact Nat.zero_le _
  | some x => exact M.LN_size s 0 x (List.mem_of_getLast? h)

set_option maxRecDepth 100000 in
set_option maxHeartbeats 2000000 in
theorem where_in (F : Fence) (n : Nat) (hF : ∀ k, F.fn k) (hro : F.round = none) (h1 : 1 ≤ n) (hn : 6 ≤ n) (s : ByteArray) (at' : Int) (h0 : 0 ≤ at') (hle : at' ≤ s.size) (hs : s.size ≤ 140737488351232) (w : World) :
    CallsIn F n Try.prog 7 #[.string s, .int .i64 at'] w fun e W' => e = .returned (.tuple #[.int .i64 ((M.LN (s.extract 0 at'.toNat) 0).length : Nat), .int .i64 (M.colAt (lastT (M.LN (s.extract 0 at'.toNat) 0)).data.toList), .int .i64 0]) ∧ Below w.heap.size w W' := by
  obtain ⟨k, rfl⟩ := Int.eq_ofNat_of_zero_le h0
  have hk : k ≤ s.size := by omega
  have hsz : (s.extract 0 k).size ≤ 140737488351232 := by rw [ByteArray.size_extract]; omega
  have hlen := (M.LN_length (s.extract 0 k) 0).2
  refine callsIn_of_wp_marks Try.func7 rfl (hF _) ?_ hro
  simp only [Try.ntmps7, List.size_toArray, List.length_cons, List.length_nil, Nat.reduceAdd, Nat.reduceSub, Array.replicate_succ, Array.replicate_zero, List.push_toArray, List.append_toArray, List.nil_append, List.cons_append]
  gi_wp2_with (gi_at_call 19; refine (lines_in F (n - 1) hF hro _ _).mono ?_; rintro e w' ⟨rfl, rfl⟩)
  have hw0 : Hid (((((w.alloc (Obj.cells #[Value.int IntKind.i64 0] 3)).alloc (Obj.cells #[Value.int IntKind.i64 0] 3)).alloc (Obj.cells #[Value.string { data := #[] }] 9)).alloc (Obj.cells #[Value.string (s.extract 0 k)] 9)).heap.size = w.heap.size + 4) := by show _ = _; simp
  have b0 : Boxed ((((w.alloc (Obj.cells #[Value.int IntKind.i64 0] 3)).alloc (Obj.cells #[Value.int IntKind.i64 0] 3)).alloc (Obj.cells #[Value.string { data := #[] }] 9)).alloc (Obj.cells #[Value.string (s.extract 0 k)] 9)) w.heap.size 3 (.int .i64 0) :=
    (((Boxed.new w 3 _).alloc _).alloc _).alloc _
  have b1 : Boxed ((((w.alloc (Obj.cells #[Value.int IntKind.i64 0] 3)).alloc (Obj.cells #[Value.int IntKind.i64 0] 3)).alloc (Obj.cells #[Value.string { data := #[] }] 9)).alloc (Obj.cells #[Value.string (s.extract 0 k)] 9)) (w.heap.size + 1) 3 (.int .i64 0) := by
    have := Boxed.new (w.alloc (Obj.cells #[Value.int IntKind.i64 0] 3)) 3 (.int .i64 0)
    rw [World.size_alloc] at this
    exact (this.alloc _).alloc _
  have b2 : Boxed ((((w.alloc (Obj.cells #[Value.int IntKind.i64 0] 3)).alloc (Obj.cells #[Value.int IntKind.i64 0] 3)).alloc (Obj.cells #[Value.string { data := #[] }] 9)).alloc (Obj.cells #[Value.string (s.extract 0 k)] 9)) (w.heap.size + 1 + 1) 9 (.string ⟨#[]⟩) := by
    have := Boxed.new ((w.alloc (Obj.cells #[Value.int IntKind.i64 0] 3)).alloc (Obj.cells #[Value.int IntKind.i64 0] 3)) 9 (.string ⟨#[]⟩)
    simp only [World.size_alloc] at this
    exact this.alloc _
  have b3 : Boxed ((((w.alloc (Obj.cells #[Value.int IntKind.i64 0] 3)).alloc (Obj.cells #[Value.int IntKind.i64 0] 3)).alloc (Obj.cells #[Value.string { data := #[] }] 9)).alloc (Obj.cells #[Value.string (s.extract 0 k)] 9)) (w.heap.size + 1 + 1 + 1) 9 (.string (s.extract 0 k)) := by
    have := Boxed.new (((w.alloc (Obj.cells #[Value.int IntKind.i64 0] 3)).alloc (Obj.cells #[Value.int IntKind.i64 0] 3)).alloc (Obj.cells #[Value.string { data := #[] }] 9)) 9 (.string (s.extract 0 k))
    simpa only [World.size_alloc] using this
  have hB0 : Below w.heap.size w ((((w.alloc (Obj.cells #[Value.int IntKind.i64 0] 3)).alloc (Obj.cells #[Value.int IntKind.i64 0] 3)).alloc (Obj.cells #[Value.string { data := #[] }] 9)).alloc (Obj.cells #[Value.string (s.extract 0 k)] 9)) :=
    ((((Below.refl _ w).alloc (Nat.le_refl _) _).alloc (by simp) _).alloc (by simp; omega) _).alloc (by simp; omega) _
  generalize ((((w.alloc (Obj.cells #[Value.int IntKind.i64 0] 3)).alloc (Obj.cells #[Value.int IntKind.i64 0] 3)).alloc (Obj.cells #[Value.string { data := #[] }] 9)).alloc (Obj.cells #[Value.string (s.extract 0 k)] 9)) = W0 at *
  refine wpIn_rangeFunc_ownF hro h1 (gf := 24) (lb := #[.pointer (some ⟨w.heap.size + 1 + 1 + 1, 0, none⟩)]) rfl (hF _) (enters_of Try.func24 (by kernel_rfl) rfl)
    (lines_stops F (n - 1) hF hro (by omega) (w.heap.size + 1 + 1 + 1) (s.extract 0 k) hsz W0 b3.lt b3.cell) Keeps.trans (fun W l o o' hl => Keeps.put (w := W0) W l o o' hl) (Below.refl _ _) (fun _ => rfl)
    (fun pre W => (Boxed W w.heap.size 3 (.int .i64 (pre.length : Nat)) ∧ Boxed W (w.heap.size + 1) 3 (.int .i64 0) ∧ Boxed W (w.heap.size + 1 + 1) 9 (.string (lastT pre))) ∧ Below w.heap.size w W)
    (fun _ _ _ => False)
    (OwnFrom.and (Own.from (fun s A B row hs hg hr => ⟨boxed_kept hs.1 hg hr, boxed_kept hs.2.1 hg hr, boxed_kept hs.2.2 hg hr⟩) _) (ownFrom_below (Nat.le_refl _) (by have := hw0.out; omega)))
    (fun _ _ _ _ _ hs _ _ => hs)
    ⟨⟨b0, b1, b2⟩, hB0⟩
    ?a1 ?assign ?body ?done ?stop
  case assign =>
    intro l x W K hK
    gi_wp2
    exact hK
  case body =>
    rintro l pre x W ⟨⟨c0, c1, c2⟩, hB⟩ hlt
    have hc0 := c0.cell
    have hf0 := c0.frozen
    have hc2 := c2.cell
    have hf2 := c2.frozen
    have hbd : (pre.length : Int) ≤ 140737488351233 := by omega
    gi_wp2
    refine ⟨(KeepsOthers.setCell _ _ _).trans (KeepsOthers.setCell _ _ _), (keeps_set _ _ (by omega)).trans (keeps_set _ _ (by omega)), ⟨?_, ?_, ?_⟩, ?_⟩
    · have := (c0.set (.int .i64 ((pre.length : Int) + 1))).other (B' := w.heap.size + 1 + 1) (by omega) (.string x.2)
      simpa using this
    · exact (c1.other (by omega) _).other (by omega) _
    · rw [lastT_snoc]
      exact (c2.other (by omega) _).set _
    · exact (hB.setCell (p := ⟨w.heap.size, 0, none⟩) (Nat.le_refl _) _).setCell (p := ⟨w.heap.size + 1 + 1, 0, none⟩) (by simp; omega) _
  case stop =>
    rintro D c pre W _ _ h _
    exact h.elim
  case done =>
    rintro D1 ys W hD1 rfl ⟨⟨c0, c1, c2⟩, hB⟩ hK1
    have hc2 := c2.cell
    gi_wp2_with (gi_at_call 20; refine (columns_in F (n - 1) hF hro _ _).mono ?_; rintro e w' ⟨rfl, rfl⟩)
    have hsz2 : (lastT (M.LN (s.extract 0 k) 0)).size ≤ 140737488351232 := Nat.le_trans (lastT_size _) hsz
    have hcl := lastC_CL (lastT (M.LN (s.extract 0 k) 0))
    have hdep : Try.prog.follows Departure.mixedOrders = true := by kernel_rfl
    generalize hT0 : lastT (M.LN (s.extract 0 k) 0) = T at *
    generalize hL0 : (M.LN (s.extract 0 k) 0).length = L at *
    have hT : Hid (lastT (M.LN (s.extract 0 k) 0) = T) := hT0
    have hL : Hid ((M.LN (s.extract 0 k) 0).length = L) := hL0
    clear hT0 hL0
    have hB2 : Below w.heap.size w (W.alloc (Obj.cells #[Value.string T] 9)) := hB.alloc hB.size _
    have bT : Boxed (W.alloc (Obj.cells #[Value.string T] 9)) W.heap.size 9 (.string T) := Boxed.new W 9 _
    have d0 := c0.alloc (Obj.cells #[Value.string T] 9)
    have d1 := c1.alloc (Obj.cells #[Value.string T] 9)
    have hK1' : (W.alloc (Obj.cells #[Value.string T] 9)).heap[D1]? = some (Obj.deferred (some [])) := (Below.heap_alloc _ _ _ (Array.getElem?_eq_some_iff.1 hK1).1).trans hK1
    have hD1lt : D1 < W.heap.size := (Array.getElem?_eq_some_iff.1 hK1).1
    have hw1 : Hid ((W.alloc (Obj.cells #[Value.string T] 9)).heap.size = W.heap.size + 1) := by show _ = _; simp
    have hwW : w.heap.size + 4 ≤ W.heap.size := by have := hw0.out; omega
    generalize W.alloc (Obj.cells #[Value.string T] 9) = W1 at *
    refine wpIn_rangeFunc_ownF hro h1 (gf := 26) (lb := #[.pointer (some ⟨W.heap.size, 0, none⟩)]) rfl (hF _) (enters_of Try.func26 (by kernel_rfl) rfl)
      (columns_stops F (n - 1) hF hro (by omega) W.heap.size T hsz2 W1 bT.lt bT.cell) Keeps.trans (fun W l o o' hl => Keeps.put (w := W1) W l o o' hl) (Below.refl _ _) (fun _ => rfl)
      (fun pre V => ((Boxed V w.heap.size 3 (.int .i64 (L : Nat)) ∧ Boxed V (w.heap.size + 1) 3 (.int .i64 (lastC pre))) ∧ V.heap[D1]? = some (Obj.deferred (some []))) ∧ Below w.heap.size w V)
      (fun _ _ _ => False)
      (OwnFrom.and (OwnFrom.and (Own.from (fun s A B row hs hg hr => ⟨boxed_kept hs.1 hg hr, boxed_kept hs.2 hg hr⟩) _)
        (fun s A B row hs hg hr => (hg.block D1 (Array.getElem?_eq_some_iff.1 hs).1 (fun e => by have := (hr D1 e.symm).1; have := hw1.out; omega)).trans hs)) (ownFrom_below (Nat.le_refl _) (by have := hw1.out; omega)))
      (fun _ _ _ _ _ hs _ _ => hs)
      ⟨⟨⟨d0, d1⟩, hK1'⟩, hB2⟩
      ?a2 ?assign2 ?body2 ?done2 ?stop2
    case assign2 =>
      intro l x W K hK
      gi_wp2
      exact hK
    case body2 =>
      rintro l pre x V ⟨⟨⟨e0, e1⟩, hK⟩, hB⟩ hlt
      have hc1 := e1.cell
      have hf1 := e1.frozen
      gi_wp2
      refine ⟨KeepsOthers.setCell _ _ _, keeps_set _ _ (by omega), ⟨⟨?_, ?_⟩, ?_⟩, ?_⟩
      · exact e0.other (by omega) _
      · rw [lastC_snoc]
        exact e1.set _
      · exact (KeepsOthers.setCell V _ _).same D1 _ hK rfl
      · exact hB.setCell (p := ⟨w.heap.size + 1, 0, none⟩) (by simp) _
    case stop2 =>
      rintro D c pre W _ _ h _
      exact h.elim
    case done2 =>
      rintro D2 ys V hD2 rfl ⟨⟨⟨e0, e1⟩, hK⟩, hB⟩ hK2
      rw [hcl] at e1
      generalize hC0 : M.colAt T.data.toList = C at *
      have hC : Hid (M.colAt T.data.toList = C) := hC0
      clear hcl hC0
      have hc0 := e0.cell
      have hf0 := e0.frozen
      have hc1 := e1.cell
      have hf1 := e1.frozen
      have fin : ∀ X : World, Boxed X w.heap.size 3 (.int .i64 (L : Nat)) → Boxed X (w.heap.size + 1) 3 (.int .i64 C) → X.heap[D1]? = some (Obj.deferred (some [])) → X.heap[D2]? = some (Obj.deferred (some [])) → Below w.heap.size w X → ∀ tmps : Array Value,
          tmps[4]?.getD undef = .pointer (some ⟨w.heap.size, 0, none⟩) → tmps[5]?.getD undef = .pointer (some ⟨w.heap.size + 1, 0, none⟩) → tmps[6]?.getD undef = .int .i64 0 →
          bodyPostM F n Try.prog Try.f7 (fun e W' => e = .returned (.tuple #[.int .i64 ((M.LN (s.extract 0 k) 0).length : Nat), .int .i64 (M.colAt (lastT (M.LN (s.extract 0 k) 0)).data.toList), .int .i64 0]) ∧ Below w.heap.size w W') .ret
            { tmps := tmps, defers := [{ target := Target.collected D2, args := #[] }, { target := Target.collected D1, args := #[] }] } X := by
        intro X x0 x1 k1 k2 hX tmps t4 t5 t6
        have hne : D1 ≠ D2 := by have := hw1.out; omega
        have k1' : (X.putObj D2 (.deferred none)).heap[D1]? = some (Obj.deferred (some [])) := (World.putObj_heap_other (by omega)).trans k1
        refine ⟨by simp, .inl ⟨_, _, rfl, run_takeDeferred k2, ⟨by simp, .inl ⟨_, _, rfl, run_takeDeferred k1', ?_⟩⟩⟩⟩
        have y0 := (boxed_put (.deferred none) (boxed_put (.deferred none) x0 k2 rfl) k1' rfl).cell
        have y1 := (boxed_put (.deferred none) (boxed_put (.deferred none) x1 k2 rfl) k1' rfl).cell
        have hX2 := hX.trans (belowK_b (w := w) (Nat.le_refl _) X D2 _ (.deferred none) (by have := hw1.out; omega) k2 rfl rfl)
        have hX1 := hX2.trans (belowK_b (w := w) (Nat.le_refl _) _ D1 _ (.deferred none) (by have := hw0.out; omega) k1' rfl rfl)
        refine ⟨.tuple #[.int .i64 (L : Nat), .int .i64 C, .int .i64 0], ?_, ?_, hX1⟩
        · simp [results, Try.f7, go_sem, y0, y1, t4, t5, t6]
        · rw [hT.out, hL.out, hC.out]
      have z0 : Boxed ((V.setCell { block := w.heap.size, off := 0 } (Value.int IntKind.i64 (L : Nat))).setCell { block := w.heap.size + 1, off := 0 } (Value.int IntKind.i64 C)).drew w.heap.size 3 (.int .i64 (L : Nat)) :=
        (e0.set _).other (by omega) _
      have z1 : Boxed ((V.setCell { block := w.heap.size, off := 0 } (Value.int IntKind.i64 (L : Nat))).setCell { block := w.heap.size + 1, off := 0 } (Value.int IntKind.i64 C)).drew (w.heap.size + 1) 3 (.int .i64 C) :=
        (e1.other (by omega) _).set _
      have hk := (KeepsOthers.setCell V ⟨w.heap.size, 0, none⟩ (Value.int IntKind.i64 (L : Nat))).trans (KeepsOthers.setCell _ ⟨w.heap.size + 1, 0, none⟩ (Value.int IntKind.i64 C))
      have z2 := hk.same D1 _ hK rfl
      have z3 := hk.same D2 _ hK2 rfl
      have z4 := ((hB.setCell (p := ⟨w.heap.size, 0, none⟩) (Nat.le_refl _) (Value.int IntKind.i64 (L : Nat))).setCell (p := ⟨w.heap.size + 1, 0, none⟩) (by simp) (Value.int IntKind.i64 C)).drew
      have Z : Hid _ := fin _ z0 z1 z2 z3 z4
      clear z0 z1 z2 z3 z4 fin
      gi_wp2
      gi_region_o
      all_goals gi_wp2
      all_goals exact Z.out _ rfl rfl rfl

end Go.Proofs.Ytfabfdglmimffaa
