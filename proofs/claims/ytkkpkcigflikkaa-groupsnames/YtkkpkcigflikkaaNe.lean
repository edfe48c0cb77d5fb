/-
  GroupsNames: the law's walk.
-/
import Derived.Test.YtkkpkcigflikkaaNd
namespace Go.Proofs.Ytkkpkcigflikkaa
open Go.RowKit Go.Shelf Go.Maps G
set_option linter.unusedVariables false

def memB (b : Nat) : List Obj := [cs nsE, cs [[98]], cs [[97]], cs [[99]], .cells #[sl (b + 1) 1, sl (b + 2) 1, sl (b + 3) 1] 26, ci [0, 1], ci [2], .cells #[sl (b + 5) 2, sl (b + 6) 1] 30]
def memC (b : Nat) : List Obj := [cs nsE, cs [[99]], .cells #[sl (b + 1) 1, .slice none 0 0, .slice none 0 0] 26, ci [1], ci [2], ci [0], .cells #[sl (b + 3) 1, sl (b + 4) 1, sl (b + 5) 1] 30]
def memD (b : Nat) : List Obj := [cs [[97], [97]], .cells #[.slice none 0 0, .slice none 0 0] 26]
theorem isB_c (w : World) : Calls Try.prog 8 #[sl w.heap.size 3, sl (w.heap.size + 4) 3, sl (w.heap.size + 7) 2] ((memB w.heap.size).foldl World.alloc w) fun r W' => r = .returned (.bool true) ∧ Below w.heap.size w W' := by
  have hW := allocs_get (memB w.heap.size) w
  have HB := below_allocs (memB w.heap.size) w
  generalize (memB w.heap.size).foldl World.alloc w = W at hW HB
  refine (is_c _ _ _ nsE usB [[0, 1], [2]] (by decide) rfl (by decide) (by decide) exB W ?_ ?_ ?_).mono (fun e w2 ⟨h1, h2⟩ => ⟨h1, HB.trans (h2.mono HB.size)⟩)
  · exact strAt_mk nsE _ (hW 0 _ rfl) rfl (by decide) (by decide)
  · refine useAt_mk usB _ (hW 4 _ rfl) (by decide) (fun j hj => ?_)
    have hj : j < 3 := hj
    rcases (show j = 0 ∨ j = 1 ∨ j = 2 by omega) with rfl | rfl | rfl
    · exact ⟨_, rfl, strAt_mk [[98]] _ (hW 1 _ rfl) rfl (by decide) (by decide)⟩
    · exact ⟨_, rfl, strAt_mk [[97]] _ (hW 2 _ rfl) rfl (by decide) (by decide)⟩
    · exact ⟨_, rfl, strAt_mk [[99]] _ (hW 3 _ rfl) rfl (by decide) (by decide)⟩
  · refine intsAt_mk [[0, 1], [2]] _ (hW 7 _ rfl) (by decide) (by decide) (fun j hj => ?_)
    have hj : j < 2 := hj
    rcases (show j = 0 ∨ j = 1 by omega) with rfl | rfl
    · exact ⟨_, rfl, rowAt_mk [0, 1] _ (hW 5 _ rfl) rfl (by decide)⟩
    · exact ⟨_, rfl, rowAt_mk [2] _ (hW 6 _ rfl) rfl (by decide)⟩
theorem isC_c (w : World) : Calls Try.prog 8 #[sl w.heap.size 3, sl (w.heap.size + 2) 3, sl (w.heap.size + 6) 3] ((memC w.heap.size).foldl World.alloc w) fun r W' => r = .returned (.bool true) ∧ Below w.heap.size w W' := by
  have hW := allocs_get (memC w.heap.size) w
  have HB := below_allocs (memC w.heap.size) w
  generalize (memC w.heap.size).foldl World.alloc w = W at hW HB
  refine (is_c _ _ _ nsE usC [[1], [2], [0]] (by decide) rfl (by decide) (by decide) exC W ?_ ?_ ?_).mono (fun e w2 ⟨h1, h2⟩ => ⟨h1, HB.trans (h2.mono HB.size)⟩)
  · exact strAt_mk nsE _ (hW 0 _ rfl) rfl (by decide) (by decide)
  · refine useAt_mk usC _ (hW 2 _ rfl) (by decide) (fun j hj => ?_)
    have hj : j < 3 := hj
    rcases (show j = 0 ∨ j = 1 ∨ j = 2 by omega) with rfl | rfl | rfl
    · exact ⟨_, rfl, strAt_mk [[99]] _ (hW 1 _ rfl) rfl (by decide) (by decide)⟩
    · exact ⟨_, rfl, strAt_nil W⟩
    · exact ⟨_, rfl, strAt_nil W⟩
  · refine intsAt_mk [[1], [2], [0]] _ (hW 6 _ rfl) (by decide) (by decide) (fun j hj => ?_)
    have hj : j < 3 := hj
    rcases (show j = 0 ∨ j = 1 ∨ j = 2 by omega) with rfl | rfl | rfl
    · exact ⟨_, rfl, rowAt_mk [1] _ (hW 3 _ rfl) rfl (by decide)⟩
    · exact ⟨_, rfl, rowAt_mk [2] _ (hW 4 _ rfl) rfl (by decide)⟩
    · exact ⟨_, rfl, rowAt_mk [0] _ (hW 5 _ rfl) rfl (by decide)⟩
theorem ofD_c (w : World) : Calls Try.prog 6 #[sl w.heap.size 2, sl (w.heap.size + 1) 2] ((memD w.heap.size).foldl World.alloc w) fun r W' => r = .returned (.tuple #[.slice none 0 0, .int .i64 2]) ∧ Below w.heap.size w W' := by
  have hW := allocs_get (memD w.heap.size) w
  have HB := below_allocs (memD w.heap.size) w
  generalize (memD w.heap.size).foldl World.alloc w = W at hW HB
  refine (of_c _ _ [[97], [97]] [[], []] (by decide) (by decide) (by decide) W ?_ ?_).mono (fun e w2 h => ?_)
  · exact strAt_mk [[97], [97]] _ (hW 0 _ rfl) rfl (by decide) (by decide)
  · refine useAt_mk [[], []] _ (hW 1 _ rfl) (by decide) (fun j hj => ?_)
    have hj : j < 2 := hj
    rcases (show j = 0 ∨ j = 1 by omega) with rfl | rfl
    · exact ⟨_, rfl, strAt_nil W⟩
    · exact ⟨_, rfl, strAt_nil W⟩
  · rcases h with ⟨_, h1, _⟩ | ⟨_, h1, h2⟩
    · exact absurd h1 (by decide)
    · exact ⟨h1, HB.trans (h2.mono HB.size)⟩
set_option maxHeartbeats 8000000 in
set_option maxRecDepth 100000 in
theorem lawNames_c (w : World) : Calls Try.prog 3 #[] w fun r W' => r = .returned (.bool true) ∧ Below w.heap.size w W' := by
  have HD : Hid (∀ X, Calls Try.prog 6 #[sl X.heap.size 2, sl (X.heap.size + 1) 2] ((memD X.heap.size).foldl World.alloc X) fun r W' => r = .returned (.tuple #[.slice none 0 0, .int .i64 2]) ∧ Below X.heap.size X W') := ofD_c
  have HL : Hid (∀ X, Calls Try.prog 7 #[] X fun r W' => r = .returned (.bool true) ∧ Below X.heap.size X W') := lives_c
  have HB : Hid (∀ X : World, Calls Try.prog 8 #[sl X.heap.size 3, sl (X.heap.size + 4) 3, sl (X.heap.size + 7) 2] ((memB X.heap.size).foldl World.alloc X) fun r W' => r = .returned (.bool true) ∧ Below X.heap.size X W') := isB_c
  have HC : Hid (∀ X : World, Calls Try.prog 8 #[sl X.heap.size 3, sl (X.heap.size + 2) 3, sl (X.heap.size + 6) 3] ((memC X.heap.size).foldl World.alloc X) fun r W' => r = .returned (.bool true) ∧ Below X.heap.size X W') := isC_c
  go_enter Try.func3, Try.ntmps3
  go_wp2_with (go_at_call 6; fail)
  have H1 := HD.out w
  refine H1.mono ?_
  rintro e w1 ⟨rfl, hb1⟩
  have Hb1 : Hid (Below w.heap.size w w1) := hb1
  clear hb1 H1 HD
  go_wp2_with (go_at_call 7; fail)
  refine (HL.out _).mono ?_
  rintro e w2 ⟨rfl, hb2⟩
  have Hb2 : Hid (Below w.heap.size w w2) := Hb1.out.trans (hb2.mono Hb1.out.size)
  clear hb2 HL Hb1
  go_wp2_with (go_at_call 8; fail)
  have H1 := HB.out w2
  refine H1.mono ?_
  rintro e w3 ⟨rfl, hb3⟩
  have Hb3 : Hid (Below w.heap.size w w3) := Hb2.out.trans (hb3.mono Hb2.out.size)
  clear hb3 HB Hb2 H1
  go_wp2_with (go_at_call 8; fail)
  have H1 := HC.out w3
  refine H1.mono ?_
  rintro e w4 ⟨rfl, hb4⟩
  have Hb4 : Hid (Below w.heap.size w w4) := Hb3.out.trans (hb4.mono Hb3.out.size)
  clear hb4 HC Hb3 H1
  go_wp2
  go_ret
  exact ⟨rfl, Hb4.out⟩
end Go.Proofs.Ytkkpkcigflikkaa
