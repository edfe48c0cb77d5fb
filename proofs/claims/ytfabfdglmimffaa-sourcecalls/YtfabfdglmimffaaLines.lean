/-
  source.Lines by its contract.
-/
import Derived.Maps.AppendAt
import Derived.Test.YtfabfdglmimffaaLineOf
namespace Go.Proofs.Ytfabfdglmimffaa
open Go.RowKit Go.Shelf
set_option linter.unusedVariables false

attribute [local go_sem] Oper.semAt_some

theorem Try.info9 : (Try.prog.info? 9).map (fun i => (i.zero, i.size, i.bytes)) = some (some (.string ⟨#[]⟩), 1, 16) := by kernel_rfl

theorem owns_mono {W : World} {b b' : Nat} {e : TypeId} {z : Nat} {v : Value} {k : Nat} {xs : List Value} (h : W.ownsRow b e z v k xs) (hb : b' ≤ b) : W.ownsRow b' e z v k xs := by
  rcases h with ⟨hl, h | ⟨g, cap, cur, h1, h2, h3⟩⟩
  · exact ⟨hl, .inl h⟩
  · exact ⟨hl, .inr ⟨g, cap, cur, h1, Nat.le_trans hb h2, h3⟩⟩

theorem keeps_boxed {B : Nat} {t : TypeId} {u : Value} {W W' : World} (h : Boxed W B t u) (h' : Boxed W' B t u) : Keeps B W W' := fun v e => by
  rw [h.cell] at e; cases e; exact h'.cell

def strV (x : Nat × ByteArray) : Value := .string x.2

set_option maxRecDepth 100000 in
set_option maxHeartbeats 2000000 in
theorem lines17_in (F : Fence) (n : Nat) (hF : ∀ k, F.fn k) (hro : F.round = none) (h1 : 1 ≤ n) (hn : 6 ≤ n) (s : ByteArray) (hs : s.size ≤ 8796093022000) (w : World) :
    CallsIn F n Try.prog 17 #[.string s] w fun e W' => ∃ v, e = .returned v ∧ W'.ownsRow w.heap.size 9 1 v (M.LN s 0).length ((M.LN s 0).map strV) ∧ Below w.heap.size w W' := by
  have hlen := (M.LN_length s 0).2
  obtain ⟨i0, hi, hz0, hz1, hz2⟩ := info_parts Try.info9
  refine callsIn_of_wp_marks Try.func17 rfl (hF _) ?_ hro
  simp only [Try.ntmps17, List.size_toArray, List.length_cons, List.length_nil, Nat.reduceAdd, Nat.reduceSub, Array.replicate_succ, Array.replicate_zero, List.push_toArray, List.append_toArray, List.nil_append, List.cons_append]
  gi_wp2_with (gi_at_call 19; refine (lines_in F (n - 1) hF hro _ _).mono ?_; rintro e w' ⟨rfl, rfl⟩)
  have hw0 : Hid (((w.alloc (Obj.cells #[Value.slice none 0 0] 33)).alloc (Obj.cells #[Value.string s] 9)).heap.size = w.heap.size + 2) := by show _ = _; simp
  have b0 : Boxed ((w.alloc (Obj.cells #[Value.slice none 0 0] 33)).alloc (Obj.cells #[Value.string s] 9)) w.heap.size 33 (Value.slice none 0 0) := by
    have h := Boxed.new w 33 (Value.slice none 0 0)
    exact (h.alloc _)
  have b1 : Boxed ((w.alloc (Obj.cells #[Value.slice none 0 0] 33)).alloc (Obj.cells #[Value.string s] 9)) (w.heap.size + 1) 9 (Value.string s) := by
    have h := Boxed.new (w.alloc (Obj.cells #[Value.slice none 0 0] 33)) 9 (Value.string s)
    simp only [World.size_alloc] at h
    exact h
  have hB0 : Below w.heap.size w ((w.alloc (Obj.cells #[Value.slice none 0 0] 33)).alloc (Obj.cells #[Value.string s] 9)) := by
    have hb := Below.refl w.heap.size w
    have hs := hb.size
    exact ((hb.alloc (by first | omega | (simp; omega) | (simp; done)) _).alloc (by first | omega | (simp; omega) | (simp; done)) _)
  generalize ((w.alloc (Obj.cells #[Value.slice none 0 0] 33)).alloc (Obj.cells #[Value.string s] 9)) = W0 at *
  have hsz : W0.heap.size = w.heap.size + 2 := hw0
  have Hsz : Hid (W0.heap.size = w.heap.size + 2) := hsz
  clear hsz
  refine wpIn_rangeFunc_ownG hro h1 (gf := 24) (lb := #[.pointer (some ⟨w.heap.size + 1, 0, none⟩)]) rfl (hF _) (enters_of Try.func24 (by kernel_rfl) rfl)
    (lines_stops F (n - 1) hF hro (by omega) (w.heap.size + 1) s (by omega) W0 b1.lt b1.cell) Keeps.trans (fun W l o o' hl => Keeps.put (w := W0) W l o o' hl) (Below.refl _ _) (fun _ => rfl)
    (fun pre W => (∃ v, Boxed W w.heap.size 33 v ∧ W.ownsRow W0.heap.size 9 1 v pre.length (pre.map strV) ∧ True) ∧ (Boxed W (w.heap.size + 1) 9 (.string s) ∧ W0.heap.size ≤ W.heap.size) ∧ Below w.heap.size w W)
    (fun _ _ _ => False)
    (OwnFrom.and (Own.from (holdsRow_own W0.heap.size w.heap.size 33 9 1 (fun pre : List (Nat × ByteArray) => pre.length) (fun pre => pre.map strV) (fun pre v => True)) _) (OwnFrom.and (Own.from (fun s A B row hs hg hr => ⟨boxed_kept hs.1 hg hr, Nat.le_trans hs.2 hg.size⟩) _) (ownFrom_below (Nat.le_refl _) (by have := Hsz.out; omega))))
    (fun _ _ _ _ _ hs _ _ => hs)
    ⟨⟨_, b0, World.ownsRow_nil _ _ _ _, trivial⟩, ⟨b1, Nat.le_refl _⟩, hB0⟩
    ?a1 ?assign ?body ?done ?stop
  case assign =>
    intro l x W K hK
    gi_wp2
    exact hK
  case body =>
    rintro l pre x W ⟨⟨v, hv, hrow, _⟩, ⟨hbs, hsz⟩, hB⟩ hlt
    have hc := hv.cell
    have hnb : v.ownBlock ≠ some (w.heap.size + 1) := by
      intro e
      have := (hrow.lt _ e).1
      have := Hsz.out
      omega
    gi_wp2_with (gi_at_builtin; refine wpListIn_append_own _ rfl _ _ 33 rfl W0.heap.size 9 i0 (.string ⟨#[]⟩) 1 16 Try.underlying33 hi hz0 hz1 hz2 rfl (by decide) _ _ _ rfl (hrow.alloc _) ⟨W.heap.size, 0, none⟩ 1 1 [.string x.2] rfl rfl (cell_one_new _ _ _) (by simp [Value.oneCell']) (by unfold maxLen; omega) (by omega) (by simp; omega) ?_; intro v' w1 hown' hgrow _; obtain ⟨g', cap', rfl⟩ := ownsRow_succ hown'; obtain ⟨hv1, hv2, _, hk2, hb2⟩ := hv.appended (n₀ := w.heap.size) (by decide) (owns_mono hrow (by have := Hsz.out; omega)) hB.size (Nat.le_refl _) (owns_mono hown' (by have := Hsz.out; omega)) hgrow; have hs1 := (hbs.alloc _).kept hgrow (fun e => hnb e.symm); have hz1 := hgrow.size; have hc1 := hv1.cell; have hf1 := hv1.frozen)
    have hs2 := hs1.other (B' := w.heap.size) (by omega) (.slice (some ⟨g', 0, none⟩) (pre.length + 1) cap')
    refine ⟨hk2.from _, keeps_boxed hbs hs2, ⟨_, hv2, ?_, trivial⟩, ⟨hs2, ?_⟩, hB.trans hb2⟩
    · have := ownsRow_setCell_below hown' (a := ⟨w.heap.size, 0, none⟩) (by have := Hsz.out; simp; omega) (.slice (some ⟨g', 0, none⟩) (pre.length + 1) cap')
      simpa [strV] using this
    · have := hk2.size
      omega
  case done =>
    rintro D ys W hD rfl ⟨⟨v, hv, hrow, _⟩, ⟨hbs, hsz⟩, hB⟩ hK
    have hc := hv.cell
    gi_wp2
    refine ⟨by simp, .inl ⟨_, _, rfl, run_takeDeferred hK, ?_⟩⟩
    exact ⟨_, results_tmp rfl _ _ _, v, rfl, owns_mono (ownsRow_putObj hrow _ hK rfl) (by have := Hsz.out; omega), hB.trans (belowK_b (w := w) (Nat.le_refl _) W D _ _ (by have := Hsz.out; omega) hK rfl rfl)⟩
  case stop =>
    rintro D c pre W _ _ h _
    exact h.elim

end Go.Proofs.Ytfabfdglmimffaa
