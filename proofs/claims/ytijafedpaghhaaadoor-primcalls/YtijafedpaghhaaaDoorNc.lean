/-
  Package prim: Names, by a contract.
-/
import Derived.Test.YtijafedpaghhaaaDoorNb
import Derived.Test.YtijafedpaghhaaaDoorShelfN
import Derived.Sort.OwnSorted
namespace Go.Proofs.YtijafedpaghhaaaDoor
open Go.RowKit Go.Shelf Go.Maps Go.Sort
set_option linter.unusedVariables false

/-- All names of primitives, rising. -/
def allN : List (List UInt8) := [[97, 100, 100], [98, 105, 110, 100], [99, 101, 113], [99, 104, 114], [99, 108, 116], [101, 111, 102], [101, 113], [101, 114, 114, 111, 114], [101, 120, 105, 116], [103, 101], [103, 101, 116, 99], [103, 116], [108, 101], [108, 116], [109, 117, 108], [110, 101], [111, 114, 100], [112, 117, 116, 99], [113, 117, 111, 116], [114, 101, 109], [114, 101, 116], [115, 101, 113], [115, 104, 111, 119], [115, 117, 98]]
theorem namesAllsorted : allN.Pairwise (fun x y => leB x y = true) := by decide
theorem namesAllperm : (names tabL ++ names othL).Perm allN := by decide
theorem namesAllsort {ss1 ss2 : List (List UInt8)} (h1 : ss1.Perm (names tabL)) (h2 : ss2.Perm (names othL)) : (ss1 ++ ss2).mergeSort leB = allN := by
  rw [mergeSort_of_perm ((h1.append h2).trans namesAllperm)]
  exact List.mergeSort_of_pairwise namesAllsorted
theorem own_below {W W' : World} {b : Nat} {e : TypeId} {z : Nat} {v : Value} {k : Nat} {xs : List Value} (h : W.ownsRow b e z v k xs) (hb : Below W.heap.size W W') : W'.ownsRow b e z v k xs := by
  rcases h with ⟨hl, h | ⟨g, cap, cur, h1, h2, h3, h4⟩⟩
  · exact ⟨hl, .inl h⟩
  · exact ⟨hl, .inr ⟨g, cap, cur, h1, h2, (hb.block g (Array.getElem?_eq_some_iff.1 h3).1).trans h3, h4⟩⟩

set_option maxRecDepth 100000 in
set_option maxHeartbeats 4000000 in
theorem names_c (w : World) : Calls Tryd.prog 6 #[] w fun e W' => ∃ g cap, e = .returned (.slice (some ⟨g, 0, none⟩) 24 cap) ∧ W'.ownsRow w.heap.size 9 1 (.slice (some ⟨g, 0, none⟩) 24 cap) 24 (allN.map encStr) ∧ Below w.heap.size w W' := by
  go_enter Tryd.func6, Tryd.ntmps6
  go_wp2_with (go_at_call 25; fail)
  refine (table_c _).mono ?_
  rintro e w1 ⟨rfl, hm1, hb1⟩
  have HM1 : Hid (MapIs w1 w.heap.size 15 tabL) := hm1
  have HB1 : Hid (Below w.heap.size w w1) := hb1
  clear hm1 hb1
  go_wp2_with (go_at_call 24; fail)
  refine (callsIn_wide.1 (keysP_in Fence.wide 5 (fun _ => trivial) rfl w.heap.size w1)).mono ?_
  rintro e w2 ⟨rfl, hw2⟩
  have HS2 : Hid (SeqStops Fence.wide 3 Tryd.prog 37 #[.pointer (some ⟨w1.heap.size, 0, none⟩)] encStr (fun ss => ss.Perm (names tabL)) (fun _ => True) 15 w2) := by rw [hw2]; exact keysP_stops Fence.wide 3 (fun _ => trivial) rfl (by omega) tabL tab_nodup w.heap.size 15 w1 HM1.out
  have HB2 : Hid (Below w.heap.size w w2) := by rw [hw2]; exact HB1.out.alloc HB1.out.size _
  clear hw2
  go_wp2_with (go_at_call 23; fail)
  refine (callsIn_wide.1 (collect_in Fence.wide 5 (fun _ => trivial) rfl (by omega) 37 _ (enters_of Tryd.func37 (by kernel_rfl) rfl) _ _ 15 (by omega) w2 HS2.out)).mono ?_
  rintro e w3 ⟨v1, ss1, rfl, hp1, hr1, hb3⟩
  have HP1 : Hid (ss1.Perm (names tabL)) := hp1
  have HR1 : Hid (w3.ownsRow w.heap.size 9 1 v1 ss1.length (ss1.map encStr)) := owns_mono hr1 HB2.out.size
  have HB3 : Hid (Below w.heap.size w w3) := HB2.out.trans (hb3.mono HB2.out.size)
  clear hp1 hr1 hb3 HS2 HM1
  go_wp2_with (go_at_call 27; fail)
  refine (others_c w3).mono ?_
  rintro e w4 ⟨rfl, hm4, hb4⟩
  have HM4 : Hid (MapIs w4 w3.heap.size 9 othL) := hm4
  have HB4 : Hid (Below w.heap.size w w4) := HB3.out.trans (hb4.mono HB3.out.size)
  have HR4 : Hid (w4.ownsRow w.heap.size 9 1 v1 ss1.length (ss1.map encStr)) := own_below HR1.out hb4
  clear hm4 hb4 HR1
  go_wp2_with (go_at_call 26; fail)
  refine (callsIn_wide.1 (keysI_in Fence.wide 5 (fun _ => trivial) rfl w3.heap.size w4)).mono ?_
  rintro e w5 ⟨rfl, hw5⟩
  have HS5 : Hid (SeqStops Fence.wide 4 Tryd.prog 56 #[.pointer (some ⟨w4.heap.size, 0, none⟩)] encStr (fun ss => ss.Perm (names othL)) (fun _ => True) 9 w5) := by rw [hw5]; exact keysI_stops Fence.wide 4 (fun _ => trivial) rfl (by omega) othL oth_nodup w3.heap.size 9 w4 HM4.out
  have HB5 : Hid (Below w.heap.size w w5) := by rw [hw5]; exact HB4.out.alloc HB4.out.size _
  have HR5 : Hid (w5.ownsRow w.heap.size 9 1 v1 ss1.length (ss1.map encStr)) := by rw [hw5]; exact HR4.out.alloc _
  clear hw5 HR4 HM4
  have hl1 : ss1.length = 15 := HP1.out.length_eq
  go_wp2_with (go_at_call 22; fail)
  refine (callsIn_wide.1 (appendSeq_in Fence.wide 5 (fun _ => trivial) rfl (by omega) (by omega) w.heap.size v1 ss1.length (ss1.map encStr) 56 _ (enters_of Tryd.func56 (by kernel_rfl) rfl) _ _ 9 (by omega) w5 HB5.out.size HR5.out HS5.out)).mono ?_
  rintro e w6 ⟨v2, ss2, rfl, hp2, hr6, hb6⟩
  have hl2 : ss2.length = 9 := hp2.length_eq
  have HE : Hid ((ss1 ++ ss2).mergeSort leB = allN) := namesAllsort HP1.out hp2
  have HB6 : Hid (Below w.heap.size w w6) := HB5.out.trans hb6
  clear hp2 hb6 HS5 HR5 HP1
  have hr7 : w6.ownsRow w.heap.size 9 1 v2 (ss1 ++ ss2).length ((ss1 ++ ss2).map encStr) := by rw [List.length_append, List.map_append]; exact hr6
  have hlen : (ss1 ++ ss2).length = 24 := by rw [List.length_append]; omega
  have HSl : Hid (∃ gb cap, v2 = .slice (some ⟨gb, 0, none⟩) 24 cap ∧ Calls Tryd.prog 28 #[.slice (some ⟨gb, 0, none⟩) 24 cap] w6 fun e w' => e = .returned (.tuple #[]) ∧ w'.ownsRow w.heap.size 9 1 (.slice (some ⟨gb, 0, none⟩) 24 cap) 24 (allN.map encStr) ∧ Below w.heap.size w w') := by
    rcases hr7.2 with ⟨rfl, hz⟩ | ⟨gb, cap, cur, rfl, hbase, hgb, r1, r2, r3, r4⟩
    · omega
    have hH : Holds encStr w6 gb 0 (ss1 ++ ss2).toArray := holds_of_block hgb (by simpa using r4)
    have hgl : gb < w6.heap.size := (Array.getElem?_eq_some_iff.1 hgb).1
    refine ⟨gb, cap, by rw [hlen], ?_⟩
    have hc := Tryd.slices_Sort gb 0 cap (ss1 ++ ss2) w6 hH hgl (by omega)
    rw [hlen] at hc
    refine hc.mono ?_
    rintro e w7 ⟨rfl, n, os, rfl⟩
    refine ⟨rfl, ?_, HB6.out.grown (grownBy_sorted _) HB6.out.size (fun j hj => by cases hj; exact hbase)⟩
    have ho := ownsRow_sorted (w := w6) (base := w.heap.size) (g := gb) (cap := cap) (n := n) (e := 9) (os := os) (cur := cur) (ss := ss1 ++ ss2) (ts := (ss1 ++ ss2).mergeSort leB) (by simp) hbase hgb r1 r2 r3
    rw [hlen] at ho
    have hE := HE.out
    have ho2 : (grow (putRow encStr (Sort.ahead w6 n) gb 0 ((ss1 ++ ss2).mergeSort leB).toArray) os).ownsRow w.heap.size 9 1 (.slice (some ⟨gb, 0, none⟩) 24 cap) 24 (((ss1 ++ ss2).mergeSort leB).map encStr) := ho
    rw [hE] at ho2
    show (grow (putRow encStr (Sort.ahead w6 n) gb 0 ((ss1 ++ ss2).mergeSort leB).toArray) os).ownsRow _ _ _ _ _ _
    rw [hE]
    exact ho2
  clear hr6 hr7 hlen hl1 hl2 HE
  obtain ⟨gb, cap, rfl, hC⟩ := HSl.out
  have HC : Hid (Calls Tryd.prog 28 #[.slice (some ⟨gb, 0, none⟩) 24 cap] w6 fun e w' => e = .returned (.tuple #[]) ∧ w'.ownsRow w.heap.size 9 1 (.slice (some ⟨gb, 0, none⟩) 24 cap) 24 (allN.map encStr) ∧ Below w.heap.size w w') := hC
  clear hC HSl
  go_wp2_with (go_at_call 28; fail)
  refine HC.out.mono ?_
  rintro e w7 ⟨rfl, hO7, hB7⟩
  have HO7' : Hid (w7.ownsRow w.heap.size 9 1 (.slice (some ⟨gb, 0, none⟩) 24 cap) 24 (allN.map encStr)) := hO7
  have HB7' : Hid (Below w.heap.size w w7) := hB7
  clear hO7 hB7 HC
  go_wp2
  go_ret
  exact ⟨gb, cap, rfl, HO7'.out, HB7'.out⟩
end Go.Proofs.YtijafedpaghhaaaDoor
