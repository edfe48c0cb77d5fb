/-
  source.Indent by its contract.
-/
import Derived.Test.YtfabfdglmimffaaLineOf
namespace Go.Proofs.Ytfabfdglmimffaa
open Go.RowKit Go.Shelf
set_option linter.unusedVariables false

attribute [local go_sem] Oper.semAt_some

/-- A byte that is neither blank nor tab stands there. -/
def Counts (T : ByteArray) (j : Nat) : Prop := ∃ h : j < T.size, T[j] ≠ 32 ∧ T[j] ≠ 9

/-- What Indent answers. -/
def IndentSays (s : ByteArray) (line : Int) (v : Value) : Prop :=
  (∃ (k : Nat) (x : Nat × ByteArray) (j : Nat), line = (k : Int) + 1 ∧ (M.LN s 0)[k]? = some x ∧ Counts x.2 j ∧ (∀ i, i < j → ¬ Counts x.2 i) ∧ v = .tuple #[.int .i64 (M.colAt (x.2.data.toList.take j)), .int .i64 0]) ∨
  (∃ (k : Nat) (x : Nat × ByteArray), line = (k : Int) + 1 ∧ (M.LN s 0)[k]? = some x ∧ (∀ i, ¬ Counts x.2 i) ∧ v = .tuple #[.int .i64 0, .int .i64 0]) ∨
  ((∀ k : Nat, k < (M.LN s 0).length → line ≠ (k : Int) + 1) ∧ v = .tuple #[.int .i64 0, .int .i64 2])

theorem byte_ne {b : UInt8} {c : Nat} (hc : c < 256) (h : b ≠ UInt8.ofNat c) : (((b.toNat : Int)) != (c : Int)) = true := by
  rw [bne_iff_ne]
  intro e
  apply h
  apply UInt8.toNat_inj.1
  simp
  omega

set_option maxRecDepth 100000 in
set_option maxHeartbeats 2000000 in
theorem indent_in (F : Fence) (n : Nat) (hF : ∀ k, F.fn k) (hro : F.round = none) (h1 : 1 ≤ n) (hn : 7 ≤ n) (s : ByteArray) (line : Int) (hs : s.size ≤ 140737488351232) (w : World) :
    CallsIn F n Try.prog 9 #[.string s, .int .i64 line] w fun e W' => ∃ v, e = .returned v ∧ IndentSays s line v ∧ Below w.heap.size w W' := by
  refine callsIn_of_wp_marks Try.func9 rfl (hF _) ?_ hro
  simp only [Try.ntmps9, List.size_toArray, List.length_cons, List.length_nil, Nat.reduceAdd, Nat.reduceSub, Array.replicate_succ, Array.replicate_zero, List.push_toArray, List.append_toArray, List.nil_append, List.cons_append]
  gi_wp2_with fail
  have hw0 : Hid (((w.alloc (Obj.cells #[Value.int IntKind.i64 0] 3)).alloc (Obj.cells #[Value.int IntKind.i64 0] 22)).heap.size = w.heap.size + 2) := by show _ = _; simp
  have b0 : Boxed ((w.alloc (Obj.cells #[Value.int IntKind.i64 0] 3)).alloc (Obj.cells #[Value.int IntKind.i64 0] 22)) w.heap.size 3 (Value.int IntKind.i64 0) := by
    have h := Boxed.new w 3 (Value.int IntKind.i64 0)
    exact (h.alloc _)
  have b1 : Boxed ((w.alloc (Obj.cells #[Value.int IntKind.i64 0] 3)).alloc (Obj.cells #[Value.int IntKind.i64 0] 22)) (w.heap.size + 1) 22 (Value.int IntKind.i64 0) := by
    have h := Boxed.new (w.alloc (Obj.cells #[Value.int IntKind.i64 0] 3)) 22 (Value.int IntKind.i64 0)
    simp only [World.size_alloc] at h
    exact h
  have hB0 : Below w.heap.size w ((w.alloc (Obj.cells #[Value.int IntKind.i64 0] 3)).alloc (Obj.cells #[Value.int IntKind.i64 0] 22)) := by
    have hb := Below.refl w.heap.size w
    have hs := hb.size
    exact ((hb.alloc (by first | omega | (simp; omega) | (simp; done)) _).alloc (by first | omega | (simp; omega) | (simp; done)) _)
  generalize ((w.alloc (Obj.cells #[Value.int IntKind.i64 0] 3)).alloc (Obj.cells #[Value.int IntKind.i64 0] 22)) = W0 at *
  refine (lineOf_in F (n - 1) hF hro (by omega) (by omega) s line hs W0).mono ?_
  rintro e W1 ⟨v, rfl, hv, hB1⟩
  have c1 := boxed_below hB1 b0.lt b0
  have c2 := boxed_below hB1 b1.lt b1
  have hBW := hB0.trans (hB1.mono (by have := hw0.out; omega))
  have hszW := hB1.size
  rcases hv with ⟨k, x, hl, hx, rfl⟩ | ⟨hno, rfl⟩
  · have hxs : x.2.size ≤ 140737488351232 := Nat.le_trans (M.LN_size s 0 x (List.mem_of_getElem? hx)) hs
    have HX : Hid (line = (k : Int) + 1 ∧ (M.LN s 0)[k]? = some x) := ⟨hl, hx⟩
    clear hl hx
    obtain ⟨st, T⟩ := x
    dsimp only at *
    gi_wp2_with (gi_at_call 20; refine (columns_in F (n - 1) hF hro _ _).mono ?_; rintro e w' ⟨rfl, rfl⟩)
    have hBn : Below W1.heap.size W1 ((W1.alloc (Obj.cells #[Value.string T] 9)).alloc (Obj.cells #[Value.string T] 9)) := ((Below.refl _ W1).alloc (Nat.le_refl _) _).alloc (by simp) _
    have hw2 : Hid (((W1.alloc (Obj.cells #[Value.string T] 9)).alloc (Obj.cells #[Value.string T] 9)).heap.size = W1.heap.size + 2) := by show _ = _; simp
    have s0 : Boxed ((W1.alloc (Obj.cells #[Value.string T] 9)).alloc (Obj.cells #[Value.string T] 9)) W1.heap.size 9 (Value.string T) := by
      have h := Boxed.new W1 9 (Value.string T)
      exact (h.alloc _)
    have s1 : Boxed ((W1.alloc (Obj.cells #[Value.string T] 9)).alloc (Obj.cells #[Value.string T] 9)) (W1.heap.size + 1) 9 (Value.string T) := by
      have h := Boxed.new (W1.alloc (Obj.cells #[Value.string T] 9)) 9 (Value.string T)
      simp only [World.size_alloc] at h
      exact h
    have hB2 : Below w.heap.size w ((W1.alloc (Obj.cells #[Value.string T] 9)).alloc (Obj.cells #[Value.string T] 9)) := by
      have hb := hBW
      have hs := hb.size
      exact ((hb.alloc (by first | omega | (simp; omega) | (simp; done)) _).alloc (by first | omega | (simp; omega) | (simp; done)) _)
    generalize ((W1.alloc (Obj.cells #[Value.string T] 9)).alloc (Obj.cells #[Value.string T] 9)) = W2 at *
    have d1 := boxed_below hBn (by have := c1.lt; omega) c1
    have d2 := boxed_below hBn (by have := c2.lt; omega) c2
    have hwW : w.heap.size + 2 ≤ W1.heap.size := by have := hw0.out; omega
    refine wpIn_rangeFunc_ownF hro h1 (gf := 26) (lb := #[.pointer (some ⟨W1.heap.size + 1, 0, none⟩)]) rfl (hF _) (enters_of Try.func26 (by kernel_rfl) rfl)
      (columns_stops F (n - 1) hF hro (by omega) (W1.heap.size + 1) T hxs W2 s1.lt s1.cell) Keeps.trans (fun W l o o' hl => Keeps.put (w := W2) W l o o' hl) (Below.refl _ _) (fun _ => rfl)
      (fun pre W => ((∀ y ∈ pre, ¬ Counts T y.1) ∧ Boxed W w.heap.size 3 (.int .i64 0) ∧ Boxed W (w.heap.size + 1) 22 (.int .i64 0) ∧ Boxed W W1.heap.size 9 (.string T)) ∧ Below w.heap.size w W)
      (fun c pre W => (c = .ret ∧ ∃ p y, pre = p ++ [y] ∧ (∀ y ∈ p, ¬ Counts T y.1) ∧ Counts T y.1 ∧ Boxed W w.heap.size 3 (.int .i64 y.2) ∧ Boxed W (w.heap.size + 1) 22 (.int .i64 0)) ∧ Below w.heap.size w W)
      (OwnFrom.and (Own.from (fun s A B row hs hg hr => ⟨hs.1, boxed_kept hs.2.1 hg hr, boxed_kept hs.2.2.1 hg hr, boxed_kept hs.2.2.2 hg hr⟩) _) (ownFrom_below (Nat.le_refl _) (by have := hw2.out; omega)))
      (fun c => OwnFrom.and (Own.from (fun s A B row hs hg hr => ⟨hs.1, by
        obtain ⟨_, p, x, e1, e2, e3, g1, g2⟩ := hs
        exact ⟨p, x, e1, e2, e3, boxed_kept g1 hg hr, boxed_kept g2 hg hr⟩⟩) _) (ownFrom_below (Nat.le_refl _) (by have := hw2.out; omega)))
      ⟨⟨by simp, d1, d2, s0⟩, hB2⟩
      ?a1 ?assign ?body ?done ?stop
    case assign =>
      intro l x W K hK
      gi_wp2
      exact hK
    case body =>
      rintro l pre y W ⟨⟨hno, c1, c2, c3⟩, hB⟩ hlt
      have hc1 := c1.cell
      have hf1 := c1.frozen
      have hc2 := c2.cell
      have hf2 := c2.frozen
      have hc3 := c3.cell
      have Hno : Hid (∀ y ∈ pre, ¬ Counts T y.1) := hno
      clear hno
      obtain ⟨i, c⟩ := y
      by_cases hi : i < T.size
      · by_cases hb : T[i] = 32
        · have Hc : Hid (¬ Counts T i) := fun h => h.2.1 hb
          have hq : (((T[i].toNat : Nat) : Int) != 32) = false := by rw [hb]; rfl
          clear hb
          gi_wp2
          exact ⟨KeepsOthers.refl _, Keeps.refl _ _, ⟨fun z hz => (List.mem_append.1 hz).elim (Hno.out z) (fun e => by simp at e; subst e; exact Hc.out), c1, c2, c3⟩, hB⟩
        · by_cases hb9 : T[i] = 9
          · have Hc : Hid (¬ Counts T i) := fun h => h.2.2 hb9
            have hq : (((T[i].toNat : Nat) : Int) != 32) = true := byte_ne (c := 32) (by omega) hb
            have hq9 : (((T[i].toNat : Nat) : Int) != 9) = false := by rw [hb9]; rfl
            clear hb hb9
            gi_wp2
            exact ⟨KeepsOthers.refl _, Keeps.refl _ _, ⟨fun z hz => (List.mem_append.1 hz).elim (Hno.out z) (fun e => by simp at e; subst e; exact Hc.out), c1, c2, c3⟩, hB⟩
          · have Hc : Hid (Counts T i) := ⟨hi, hb, hb9⟩
            have hq : (((T[i].toNat : Nat) : Int) != 32) = true := byte_ne (c := 32) (by omega) hb
            have hq9 : (((T[i].toNat : Nat) : Int) != 9) = true := byte_ne (c := 9) (by omega) hb9
            clear hb hb9
            gi_wp2
            refine ⟨(KeepsOthers.setCell _ _ _).trans (KeepsOthers.setCell _ _ _), ⟨rfl, pre, (i, c), rfl, Hno.out, Hc.out, ?_, ?_⟩, ?_⟩
            · exact (c1.set _).other (by omega) _
            · exact (c2.other (by omega) _).set _
            · exact (hB.setCell (p := ⟨w.heap.size, 0, none⟩) (by simp) _).setCell (p := ⟨w.heap.size + 1, 0, none⟩) (by simp) _
      · have Hc : Hid (¬ Counts T i) := fun h => hi h.1
        gi_wp2
        exact ⟨KeepsOthers.refl _, Keeps.refl _ _, ⟨fun z hz => (List.mem_append.1 hz).elim (Hno.out z) (fun e => by simp at e; subst e; exact Hc.out), c1, c2, c3⟩, hB⟩
    case done =>
      rintro D ys W hD rfl ⟨⟨hno, c1, c2, c3⟩, hB⟩ hK
      have hc1 := c1.cell
      have hf1 := c1.frozen
      have hc2 := c2.cell
      have hf2 := c2.frozen
      have Hno : Hid (∀ y ∈ M.CL T, ¬ Counts T y.1) := hno
      clear hno
      gi_wp2
      have hk := (KeepsOthers.setCell W ⟨w.heap.size, 0, none⟩ (.int .i64 0)).trans (KeepsOthers.setCell _ ⟨w.heap.size + 1, 0, none⟩ (.int .i64 0))
      have hK' := hk.same D _ hK rfl
      have d1 := (c1.set (.int .i64 0)).other (B' := w.heap.size + 1) (by omega) (.int .i64 0)
      have d2 := (c2.other (B' := w.heap.size) (by omega) (.int .i64 0)).set (.int .i64 0)
      have e1 := (boxed_put (.deferred none) d1 hK' rfl).cell
      have e2 := (boxed_put (.deferred none) d2 hK' rfl).cell
      have hB3 := (hB.setCell (p := ⟨w.heap.size, 0, none⟩) (by simp) (.int .i64 0)).setCell (p := ⟨w.heap.size + 1, 0, none⟩) (by simp) (.int .i64 0)
      refine ⟨by simp, .inl ⟨_, _, rfl, run_takeDeferred hK', ?_⟩⟩
      refine ⟨.tuple #[.int .i64 0, .int .i64 0], ?_, _, rfl, .inr (.inl ⟨k, (st, T), HX.out.1, HX.out.2, ?_, rfl⟩), hB3.trans (belowK_b (w := w) (Nat.le_refl _) _ D _ _ (by have := hw2.out; omega) hK' rfl rfl)⟩
      · simp [results, Try.f9, go_sem, e1, e2]
      · intro i hi
        have hi' : Counts T i := hi
        obtain ⟨h', _⟩ := hi'
        exact Hno.out (M.colF T i) (M.colF_mem T i (by omega)) hi
    case stop =>
      rintro D c pre W hD ⟨j, hj, hpre⟩ ⟨⟨rfl, p, y, hpy, hno, hl, c1, c2⟩, hB⟩ hK
      rw [hpy, M.upto_succ] at hpre
      obtain ⟨hp, hy⟩ := List.append_inj' hpre rfl
      obtain rfl : y = M.colF T j := by simpa using hy
      have Hl : Hid (Counts T j ∧ ∀ i, i < j → ¬ Counts T i) := ⟨hl, fun i hi => by
        have := hno (M.colF T i) (by rw [hp]; exact List.mem_map.2 ⟨i, List.mem_range.2 hi, rfl⟩)
        exact this⟩
      clear hl hno hpy hpre hy hp
      gi_wp2
      have e1 := (boxed_put (.deferred none) c1 hK rfl).cell
      have e2 := (boxed_put (.deferred none) c2 hK rfl).cell
      refine ⟨by simp, .inl ⟨_, _, rfl, run_takeDeferred hK, ?_⟩⟩
      refine ⟨.tuple #[.int .i64 (M.colF T j).2, .int .i64 0], ?_, _, rfl, .inl ⟨k, (st, T), j, HX.out.1, HX.out.2, Hl.out.1, Hl.out.2, rfl⟩, hB.trans (belowK_b (w := w) (Nat.le_refl _) W D _ _ (by have := hw2.out; omega) hK rfl rfl)⟩
      simp [results, Try.f9, go_sem, e1, e2]
  · have Hno : Hid (∀ k : Nat, k < (M.LN s 0).length → line ≠ (k : Int) + 1) := hno
    clear hno
    have hc1 := c1.cell
    have hf1 := c1.frozen
    have hc2 := c2.cell
    have hf2 := c2.frozen
    have hwW : w.heap.size + 2 ≤ W1.heap.size := by have := hw0.out; omega
    have hz1 : w.heap.size < W1.heap.size := by omega
    have hz2 : w.heap.size + 1 < W1.heap.size := by omega
    gi_wp2
    have d1 := ((c1.set (.int .i64 0)).other (B' := w.heap.size + 1) (by omega) (.int .i64 2)).alloc (.cells #[.string ⟨#[]⟩] 9)
    have d2 := ((c2.other (B' := w.heap.size) (by omega) (.int .i64 0)).set (.int .i64 2)).alloc (.cells #[.string ⟨#[]⟩] 9)
    have e1 := d1.cell
    have e2 := d2.cell
    have hB3' := (hBW.setCell (p := ⟨w.heap.size, 0, none⟩) (by simp) (.int .i64 0)).setCell (p := ⟨w.heap.size + 1, 0, none⟩) (by simp) (.int .i64 2)
    have hB3 := hB3'.alloc hB3'.size (.cells #[.string ⟨#[]⟩] 9)
    refine ⟨.tuple #[.int .i64 0, .int .i64 2], ?_, _, rfl, .inr (.inr ⟨Hno.out, rfl⟩), hB3⟩
    simp [results, Try.f9, go_sem, e1, e2]

end Go.Proofs.Ytfabfdglmimffaa
