/-
  A walk in memory (stage 16): newWalk, leave, by contracts.
-/
import Derived.Test.YtjmpjfggbhongaaDoorUa
import Derived.Deep.AppendLies
import Derived.Deep.RegionLaw
namespace Go.Proofs.YtjmpjfggbhongaaDoor
open Go.RowKit Go.Shelf Go.Maps
set_option linter.unusedVariables false

def s00 : WS := ⟨[], 0, 0, 0, [], fun _ => none, [], []⟩
set_option maxHeartbeats 4000000 in
set_option maxRecDepth 100000 in
theorem newWalk_c (w : World) : Calls Tryd.prog 30 #[] w fun e w' => ∃ P, e = .returned (.pointer (some ⟨P, 0, none⟩)) ∧ WkAt w' w.heap.size P s00 ∧ Below w.heap.size w w' := by
  obtain ⟨V, hV⟩ : ∃ V, w.alloc (.map #[] 0) = V := ⟨_, rfl⟩
  have b1 : Below w.heap.size w V := by rw [← hV]; exact below1 w _
  have hm : BmMap V w.heap.size 0 (fun _ => .pointer none) := by rw [← hV]; exact bmMap_new w
  obtain ⟨U, hU⟩ : ∃ U, V.alloc (.cells #[.slice none 0 0, .int .i64 0, .int .i64 0, .map (some w.heap.size), .slice none 0 0, .slice none 0 0] 73) = U := ⟨_, rfl⟩
  have b2 : Below V.heap.size V U := by rw [← hU]; exact below1 V _
  have k : Blk U V.heap.size #[.slice none 0 0, .int .i64 0, .int .i64 0, .map (some w.heap.size), .slice none 0 0, .slice none 0 0] 73 := by rw [← hU]; exact Blk.new V _ _
  have hA : Hid (WkAt U w.heap.size V.heap.size s00 ∧ Below w.heap.size w U) := by
    refine ⟨⟨fun _ => 0, .slice none 0 0, .slice none 0 0, .slice none 0 0, w.heap.size, 0, ⟨k, b1.size, Nat.le_refl _, by have := b1.size; have := b2.size; omega, owns_nil _ _ _ _, owns_nil _ _ _ _, owns_nil _ _ _ _, fun g hg => (by cases hg), hm.same (b2.block _ hm.lt), Nat.le_refl _, fun i hi => (by cases hi), fun i j hi => (by cases hi), ⟨fun x i hx => (by cases hx), fun i hi => (by cases hi), fun i hi => (by cases hi), fun k hk => (by cases hk)⟩⟩⟩, b1.trans (b2.mono b1.size)⟩
  have hmm : ∀ W : World, (Instr.makeMap 70 none).run Tryd.prog W = .ok (.map (some W.heap.size)) (W.alloc (.map #[] 0)) := fun W => rfl
  clear b1 hm b2 k
  go_enter Tryd.func30, Tryd.ntmps30
  go_wp2
  (try rw [hV])
  (try rw [hU])
  go_ret
  exact ⟨_, rfl, hA.out.1, hA.out.2⟩
end Go.Proofs.YtjmpjfggbhongaaDoor
