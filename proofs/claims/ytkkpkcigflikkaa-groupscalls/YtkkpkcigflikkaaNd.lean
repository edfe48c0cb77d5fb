/-
  The laws' examples, as mathematics and in memory; lives.
-/
import Derived.Test.YtkkpkcigflikkaaNc
namespace Go.Proofs.Ytkkpkcigflikkaa
open Go.RowKit Go.Shelf Go.Maps G
set_option linter.unusedVariables false

theorem strAt_mk {W : World} {B : Nat} {T : TypeId} (l : List (List UInt8)) (vs : Array Value) (h : Blk W B vs T) (hv : vs = (l.map (fun x => Value.string (bs x))).toArray) (hl : l.length ≤ 100) (hx : ∀ x ∈ l, x.length ≤ 100) : StrAt W (.slice (some ⟨B, 0, none⟩) l.length l.length) l := by
  refine ⟨⟨_, _, rfl, Nat.le_refl _, by omega, .inr ⟨B, 0, rfl, h.lt, fun j hj => ?_⟩⟩, fun x h9 => by have := hx x h9; omega⟩
  rw [Nat.zero_add]
  refine h.cell j _ ?_
  rw [hv, List.getElem?_toArray, List.getElem?_map, List.getElem?_eq_getElem hj]; rfl
theorem strAt_nil (W : World) : StrAt W (.slice none 0 0) [] := ⟨⟨none, 0, rfl, Nat.le_refl _, by decide, .inl rfl⟩, fun x h => (by cases h)⟩
theorem useAt_mk {W : World} {B : Nat} {T : TypeId} (us : List (List (List UInt8))) (vs : Array Value) (h : Blk W B vs T) (hl : us.length ≤ 100) (hx : ∀ j (hj : j < us.length), ∃ vj, vs[j]? = some vj ∧ StrAt W vj us[j]) : UseAt W (.slice (some ⟨B, 0, none⟩) us.length us.length) us := by
  refine ⟨_, _, rfl, Nat.le_refl _, by omega, .inr ⟨B, 0, rfl, h.lt, fun j hj => ?_⟩⟩
  obtain ⟨vj, h1, h2⟩ := hx j hj
  exact ⟨vj, by rw [Nat.zero_add]; exact h.cell j _ h1, h2⟩
theorem rowAt_mk {W : World} {B : Nat} {T : TypeId} (l : List Nat) (vs : Array Value) (h : Blk W B vs T) (hv : vs = (l.map nv).toArray) (hl : l.length ≤ 100) : RowAt W W.heap.size (.slice (some ⟨B, 0, none⟩) l.length l.length) l := by
  refine .inr ⟨B, _, rfl, Nat.le_refl _, by omega, h.lt, h.lt, fun j hj => h.cell j _ ?_⟩
  rw [hv, List.getElem?_toArray, List.getElem?_map, List.getElem?_eq_getElem hj]; rfl
theorem intsAt_mk {W : World} {B : Nat} {T : TypeId} (ll : List (List Nat)) (vs : Array Value) (h : Blk W B vs T) (hl : ll.length ≤ 100) (hb : ∀ l ∈ ll, l.length ≤ 100 ∧ ∀ x ∈ l, x ≤ 100) (hx : ∀ j (hj : j < ll.length), ∃ vj, vs[j]? = some vj ∧ RowAt W W.heap.size vj ll[j]) : IntsAt W (.slice (some ⟨B, 0, none⟩) ll.length ll.length) ll := by
  refine ⟨_, _, rfl, by omega, .inr ⟨B, rfl, h.lt, fun j hj => ?_⟩, fun l h9 => ⟨by have := hb l h9; omega, fun x hx => by have := (hb l h9).2 x hx; omega⟩⟩
  obtain ⟨vj, h1, h2⟩ := hx j hj
  exact ⟨vj, h.cell j _ h1, h2⟩

def nsE : List (List UInt8) := [[97], [98], [99]]
def usA : List (List (List UInt8)) := [[[98]], [], [[97]]]
def usB : List (List (List UInt8)) := [[[98]], [[97]], [[99]]]
def usC : List (List (List UInt8)) := [[[99]], [], []]
theorem exA (low : Nat → Nat) (grp : Nat → List Nat) (S : List Nat) (hP : Parted nsE.length (adjF nsE usA) low grp) (hO : Ordered nsE.length (adjF nsE usA) low S) : S.map grp = [[1], [0], [2]] := by
  have k1 : ¬ Rch (adjF nsE usA) 1 0 := not_rch [1] (by decide) (by decide) (by decide)
  have k2 : ¬ Rch (adjF nsE usA) 0 2 := not_rch [0, 1] (by decide) (by decide) (by decide)
  have k3 : ¬ Rch (adjF nsE usA) 1 2 := not_rch [1] (by decide) (by decide) (by decide)
  have l0 : low 0 = 0 := low_self hP (by decide) (fun y hy => by omega)
  have l1 : low 1 = 1 := low_self hP (by decide) (fun y hy h => by
    have e : y = 0 := by omega
    subst e
    exact k1 h.1)
  have l2 : low 2 = 2 := low_self hP (by decide) (fun y hy h => by
    rcases (show y = 0 ∨ y = 1 by omega) with rfl | rfl
    · exact k2 h.2
    · exact k3 h.2)
  exact the_groups (low' := fun x => x) (S' := [1, 0, 2]) (G' := fun g => [g]) hP hO (fun x _ y hy => adjF_lt nsE usA x y hy) (fun x hx => by
    have hx : x < 3 := hx
    rcases (show x = 0 ∨ x = 1 ∨ x = 2 by omega) with rfl | rfl | rfl
    · exact l0
    · exact l1
    · exact l2) (by decide) (by decide) (by decide) (by decide) (by decide)
theorem exB (low : Nat → Nat) (grp : Nat → List Nat) (S : List Nat) (hP : Parted nsE.length (adjF nsE usB) low grp) (hO : Ordered nsE.length (adjF nsE usB) low S) : S.map grp = [[0, 1], [2]] := by
  have k2 : ¬ Rch (adjF nsE usB) 0 2 := not_rch [0, 1] (by decide) (by decide) (by decide)
  have k3 : ¬ Rch (adjF nsE usB) 1 2 := not_rch [0, 1] (by decide) (by decide) (by decide)
  have l0 : low 0 = 0 := low_self hP (by decide) (fun y hy => by omega)
  have l1 : low 1 = 0 := (hP.ls 0 1 (by decide) (by decide) ⟨.edge (by decide), .edge (by decide)⟩).trans l0
  have l2 : low 2 = 2 := low_self hP (by decide) (fun y hy h => by
    rcases (show y = 0 ∨ y = 1 by omega) with rfl | rfl
    · exact k2 h.2
    · exact k3 h.2)
  exact the_groups (low' := fun x => if x = 2 then 2 else 0) (S' := [0, 2]) (G' := fun g => if g = 0 then [0, 1] else [2]) hP hO (fun x _ y hy => adjF_lt nsE usB x y hy) (fun x hx => by
    have hx : x < 3 := hx
    rcases (show x = 0 ∨ x = 1 ∨ x = 2 by omega) with rfl | rfl | rfl
    · exact l0
    · exact l1
    · exact l2) (by decide) (by decide) (by decide) (by decide) (by decide)
theorem exC (low : Nat → Nat) (grp : Nat → List Nat) (S : List Nat) (hP : Parted nsE.length (adjF nsE usC) low grp) (hO : Ordered nsE.length (adjF nsE usC) low S) : S.map grp = [[1], [2], [0]] := by
  have k1 : ¬ Rch (adjF nsE usC) 1 0 := not_rch [1] (by decide) (by decide) (by decide)
  have k2 : ¬ Rch (adjF nsE usC) 2 0 := not_rch [2] (by decide) (by decide) (by decide)
  have k3 : ¬ Rch (adjF nsE usC) 1 2 := not_rch [1] (by decide) (by decide) (by decide)
  have l0 : low 0 = 0 := low_self hP (by decide) (fun y hy => by omega)
  have l1 : low 1 = 1 := low_self hP (by decide) (fun y hy h => by
    have e : y = 0 := by omega
    subst e
    exact k1 h.1)
  have l2 : low 2 = 2 := low_self hP (by decide) (fun y hy h => by
    rcases (show y = 0 ∨ y = 1 by omega) with rfl | rfl
    · exact k2 h.1
    · exact k3 h.2)
  exact the_groups (low' := fun x => x) (S' := [1, 2, 0]) (G' := fun g => [g]) hP hO (fun x _ y hy => adjF_lt nsE usC x y hy) (fun x hx => by
    have hx : x < 3 := hx
    rcases (show x = 0 ∨ x = 1 ∨ x = 2 by omega) with rfl | rfl | rfl
    · exact l0
    · exact l1
    · exact l2) (by decide) (by decide) (by decide) (by decide) (by decide)
def cs (l : List (List UInt8)) : Obj := .cells (l.map (fun x => Value.string (bs x))).toArray 9
def ci (l : List Nat) : Obj := .cells (l.map nv).toArray 3
def sl (B n : Nat) : Value := .slice (some ⟨B, 0, none⟩) n n
set_option maxHeartbeats 4000000 in
set_option maxRecDepth 100000 in
theorem lives_c (w : World) : Calls Try.prog 7 #[] w fun r W' => r = .returned (.bool true) ∧ Below w.heap.size w W' := by
  obtain ⟨b, hb⟩ : ∃ b, b = w.heap.size := ⟨_, rfl⟩
  have hA : Hid (∀ W : World, (∀ i o, [cs nsE, cs [[98]], cs [], cs [[97]], .cells #[sl (b + 1) 1, sl (b + 2) 0, sl (b + 3) 1] 26, ci [1], ci [0], ci [2], .cells #[sl (b + 5) 1, sl (b + 6) 1, sl (b + 7) 1] 30][i]? = some o → W.heap[b + i]? = some o) → Calls Try.prog 8 #[sl b 3, sl (b + 4) 3, sl (b + 8) 3] W fun r W' => r = .returned (.bool true) ∧ Below W.heap.size W W') := fun W hW => by
    refine is_c _ _ _ nsE usA [[1], [0], [2]] (by decide) rfl (by decide) (by decide) exA W ?_ ?_ ?_
    · exact strAt_mk nsE _ (hW 0 _ rfl) rfl (by decide) (by decide)
    · refine useAt_mk usA _ (hW 4 _ rfl) (by decide) (fun j hj => ?_)
      have hj : j < 3 := hj
      rcases (show j = 0 ∨ j = 1 ∨ j = 2 by omega) with rfl | rfl | rfl
      · exact ⟨_, rfl, strAt_mk [[98]] _ (hW 1 _ rfl) rfl (by decide) (by decide)⟩
      · exact ⟨_, rfl, strAt_mk [] _ (hW 2 _ rfl) rfl (by decide) (by decide)⟩
      · exact ⟨_, rfl, strAt_mk [[97]] _ (hW 3 _ rfl) rfl (by decide) (by decide)⟩
    · refine intsAt_mk [[1], [0], [2]] _ (hW 8 _ rfl) (by decide) (by decide) (fun j hj => ?_)
      have hj : j < 3 := hj
      rcases (show j = 0 ∨ j = 1 ∨ j = 2 by omega) with rfl | rfl | rfl
      · exact ⟨_, rfl, rowAt_mk [1] _ (hW 5 _ rfl) rfl (by decide)⟩
      · exact ⟨_, rfl, rowAt_mk [0] _ (hW 6 _ rfl) rfl (by decide)⟩
      · exact ⟨_, rfl, rowAt_mk [2] _ (hW 7 _ rfl) rfl (by decide)⟩
  go_enter Try.func7, Try.ntmps7
  go_wp2_with (go_at_call 8; fail)
  subst hb
  have H1 := hA.out _ (allocs_get [cs nsE, cs [[98]], cs [], cs [[97]], .cells #[sl (w.heap.size + 1) 1, sl (w.heap.size + 2) 0, sl (w.heap.size + 3) 1] 26, ci [1], ci [0], ci [2], .cells #[sl (w.heap.size + 5) 1, sl (w.heap.size + 6) 1, sl (w.heap.size + 7) 1] 30] w)
  have HB := below_allocs [cs nsE, cs [[98]], cs [], cs [[97]], .cells #[sl (w.heap.size + 1) 1, sl (w.heap.size + 2) 0, sl (w.heap.size + 3) 1] 26, ci [1], ci [0], ci [2], .cells #[sl (w.heap.size + 5) 1, sl (w.heap.size + 6) 1, sl (w.heap.size + 7) 1] 30] w
  refine H1.mono ?_
  rintro e w2 ⟨rfl, hb2⟩
  have HB2 : Hid (Below w.heap.size w w2) := HB.trans (hb2.mono HB.size)
  clear hb2 HB H1 hA
  go_wp2
  go_ret
  exact ⟨rfl, HB2.out⟩
end Go.Proofs.Ytkkpkcigflikkaa
