/-
  The document's names, and texts compared, by contracts.
-/
import Derived.Test.YtijafedpaghhaaaDoorRh
namespace Go.Proofs.YtijafedpaghhaaaDoor
open Go.RowKit Go.Shelf Go.Maps Go.Sort
set_option linter.unusedVariables false

set_option maxRecDepth 100000 in
set_option maxHeartbeats 1000000 in
theorem rNames_c (w : World) : Calls Tryd.prog 20 #[] w fun e w' => e = .returned (.slice (some ⟨w.heap.size, 0, none⟩) 24 24) ∧ w' = w.alloc (.cells (allN.map encStr).toArray 9) := by
  go_enter Tryd.func20, Tryd.ntmps20
  go_wp2
  go_ret
  exact ⟨rfl, rfl⟩
/-- A row of texts in memory. -/
def TxAt (W : World) (g : Nat) (l : List (List UInt8)) : Prop := g < W.heap.size ∧ ∀ j (h : j < l.length), W.cell? ⟨g, j, none⟩ = some (encStr l[j])
theorem TxAt.below {W W' : World} {g : Nat} {l : List (List UInt8)} (h : TxAt W g l) (hb : Below W.heap.size W W') : TxAt W' g l := ⟨Nat.lt_of_lt_of_le h.1 hb.size, fun j hj => (hb.cell (p := ⟨g, j, none⟩) h.1).trans (h.2 j hj)⟩
theorem txAt_row {W : World} {B g cap : Nat} {l : List (List UInt8)} (h : W.ownsRow B 9 1 (.slice (some ⟨g, 0, none⟩) l.length cap) l.length (l.map encStr)) (hn : l ≠ []) : TxAt W g l := by
  have hpos : 0 < l.length := List.length_pos_iff.2 hn
  refine ⟨?_, fun j hj => ?_⟩
  · rcases h.2 with ⟨h0, hz⟩ | ⟨g', cap', cur, e, hb, hg, _⟩
    · cases h0
    · cases e
      exact (Array.getElem?_eq_some_iff.1 hg).1
  · have := h.cells (g := g) rfl j (encStr l[j]) (by simp [hj])
    rw [Addr.add_lit] at this
    simpa using this
theorem txAt_new (w : World) (l : List (List UInt8)) : TxAt (w.alloc (.cells (l.map encStr).toArray 9)) w.heap.size l := by
  have k := Blk.new w (l.map encStr).toArray 9
  exact ⟨k.lt, fun j hj => k.cell j _ (by simp [hj])⟩
set_option maxRecDepth 100000 in
set_option maxHeartbeats 2000000 in
theorem same_c (l : List (List UInt8)) (hl : l.length ≤ 1000) (g1 g2 c1 c2 : Nat) (w : World) (h1 : TxAt w g1 l) (h2 : TxAt w g2 l) : Calls Tryd.prog 19 #[.slice (some ⟨g1, 0, none⟩) l.length c1, .slice (some ⟨g2, 0, none⟩) l.length c2] w fun e w' => e = .returned (.bool true) ∧ Below w.heap.size w w' := by
  have H1 : Hid (TxAt w g1 l) := h1
  have H2 : Hid (TxAt w g2 l) := h2
  have HL : Hid (∀ n, n = l.length → n ≤ 1000) := fun n e => by rw [e]; exact hl
  obtain ⟨n, hn⟩ : ∃ n, l.length = n := ⟨_, rfl⟩
  have HN : Hid (l.length = n) := hn
  rw [hn]
  have hli : (n : Int) ≤ 1000 := by rw [← hn]; omega
  clear h1 h2 hl hn HL
  go_enter Tryd.func19, Tryd.ntmps19
  go_wp2
  go_loopw [5] (fun i wr => ∃ k : Nat, k ≤ n ∧ i = .int .i64 k ∧ Hid (Below w.heap.size w wr)) (fun i _ => n - (intOf i).toNat)
  case atStart => exact ⟨0, Nat.zero_le _, rfl, Below.refl _ _⟩
  case round =>
    obtain ⟨k, hk, rfl, hB⟩ := hrel
    by_cases hkn : k < n
    · have hkl : k < l.length := by rw [HN.out]; exact hkn
      have t1 := (H1.out.below hB.out).2 k hkl
      have t2 := (H2.out.below hB.out).2 k hkl
      have l1 := (H1.out.below hB.out).1
      have l2 := (H2.out.below hB.out).1
      unfold encStr at t1 t2
      generalize (⟨l[k].toArray⟩ : ByteArray) = x at t1 t2
      clear hk hkl
      go_wp2
      go_big_quiet (fail)
      go_wp2
      go_roundw
      case rel => exact ⟨k + 1, hkn, by go_num, ⟨hB.out.os, hB.out.tape, hB.out.output, hB.out.size, hB.out.block⟩⟩
      case measure => simp [intOf]; omega
    · go_wp2
      go_ret
      exact ⟨rfl, hB.out⟩
end Go.Proofs.YtijafedpaghhaaaDoor
