/-
  The laws' examples: is, lives.
-/
import Derived.Test.YtkkpkcigflikkaaNb
namespace Go.Proofs.Ytkkpkcigflikkaa
open Go.RowKit Go.Shelf Go.Maps G
set_option linter.unusedVariables false

theorem ints_of {W : World} {base n : Nat} {av : Value} {S : List Nat} {gv : Nat → Value} {grp : Nat → List Nat} {want : List (List Nat)} (h : W.ownsRow base 30 1 av S.length (S.map gv)) (hg : ∀ i, i < n → RowAt W W.heap.size (gv i) (grp i)) (hS : ∀ g ∈ S, g < n) (hw : S.map grp = want) (hb : want.length ≤ 1000000 ∧ ∀ l ∈ want, l.length ≤ 1000000 ∧ ∀ x ∈ l, x ≤ 1000000) : IntsAt W av want := by
  subst hw
  rcases h with ⟨hl, ⟨h1, h2⟩ | ⟨g, cap, cur, h1, h2, h3, h4, h5, h6, h7⟩⟩
  · have : S = [] := List.length_eq_zero_iff.1 h2
    subst this
    exact ⟨none, 0, h1, by simp, .inl rfl, hb.2⟩
  · refine ⟨_, cap, by rw [List.length_map]; exact h1, hb.1, .inr ⟨g, rfl, (Array.getElem?_eq_some_iff.1 h3).1, fun j hj => ?_⟩, hb.2⟩
    have hj' : j < S.length := by simpa using hj
    have h8 : (cur.toList.take (S.length * 1))[j]? = (S.map gv)[j]? := by rw [h7]
    rw [List.getElem?_take_of_lt (by omega), Array.getElem?_toList, List.getElem?_map, List.getElem?_eq_getElem hj'] at h8
    refine ⟨gv S[j], Blk.cell (vs := cur) h3 j _ h8, ?_⟩
    rw [List.getElem_map]
    exact hg _ (hS _ (List.getElem_mem hj'))
set_option maxHeartbeats 4000000 in
set_option maxRecDepth 100000 in
theorem is_c (v u z : Value) (ns : List (List UInt8)) (us : List (List (List UInt8))) (want : List (List Nat)) (hnl : ns.length ≤ 20000) (hlu : ns.length = us.length) (hnd : ns.Nodup) (ht : total us ≤ 200000) (hM : ∀ low grp S, Parted ns.length (adjF ns us) low grp → Ordered ns.length (adjF ns us) low S → S.map grp = want) (w : World) (hv : StrAt w v ns) (hu : UseAt w u us) (hz : IntsAt w z want) :
    Calls Try.prog 8 #[v, u, z] w fun r W' => r = .returned (.bool true) ∧ Below w.heap.size w W' := by
  have HO : Hid (Calls Try.prog 6 #[v, u] w fun r W' => OfPost w ns us r W') := of_c v u ns us hnl (by omega) ht w hv hu
  have HZ : Hid (IntsAt w z want ∧ ns.length = us.length ∧ ns.Nodup ∧ (∀ low grp S, Parted ns.length (adjF ns us) low grp → Ordered ns.length (adjF ns us) low S → S.map grp = want)) := ⟨hz, hlu, hnd, hM⟩
  obtain ⟨zo, zc, ze, -, -⟩ := id hz
  obtain ⟨vo, vc, ve, -, -⟩ := hv.slice
  obtain ⟨uo, uc, ue, -, -⟩ := hu.slice
  clear hv hu hz hnl hlu hnd ht hM
  subst ze ve ue
  go_enter Try.func8, Try.ntmps8
  go_wp2_with (go_at_call 6; fail)
  refine HO.out.mono ?_
  rintro e w1 hP
  rcases hP with ⟨_, _, low, grp, S, av, gv, rfl, p1, p2, p3, p4, p5⟩ | ⟨h1, _⟩
  · have hm := HZ.out.2.2.2 low grp S p1 p2
    obtain ⟨zo', zc', ze', zl, _, zb⟩ := id HZ.out.1
    clear ze'
    obtain ⟨ao, ac, rfl, -, -⟩ := owns_form p3
    have hia : IntsAt w1 (.slice ao S.length ac) want := ints_of p3 p4 (fun g hg => ((p2.all g).1 hg).1) hm ⟨zl, zb⟩
    have hiz : IntsAt w1 (.slice zo want.length zc) want := by
      obtain ⟨o, cap, h1, h2, h3, h4⟩ := HZ.out.1
      refine ⟨o, cap, h1, h2, ?_, h4⟩
      rcases h3 with h3 | ⟨g, e, hg, h3⟩
      · exact .inl h3
      · exact .inr ⟨g, e, Nat.lt_of_lt_of_le hg p5.size, fun j hj => by
          obtain ⟨vj, h6, h7⟩ := h3 j hj
          exact ⟨vj, (p5.cell (p := ⟨g, j, none⟩) hg).trans h6, h7.on p5 (Nat.le_refl _)⟩⟩
    have hS := same_c (.slice ao S.length ac) (.slice zo want.length zc) want want w1 hia hiz
    rw [decide_eq_true rfl] at hS
    have HS : Hid (Calls Try.prog 13 #[.slice ao S.length ac, .slice zo want.length zc] w1 fun r W' => r = .returned (.bool true) ∧ Below w1.heap.size w1 W') := hS
    have HB : Hid (Below w.heap.size w w1) := p5
    clear hS hia hiz hm p1 p2 p3 p4 p5 HO zl zb
    go_wp2_with (go_at_call 13; fail)
    refine HS.out.mono ?_
    rintro e w2 ⟨rfl, hb2⟩
    have HB2 : Hid (Below w.heap.size w w2) := HB.out.trans (hb2.mono HB.out.size)
    clear hb2 HS
    go_wp2
    go_ret
    exact ⟨rfl, HB2.out⟩
  · exact absurd ⟨HZ.out.2.1, HZ.out.2.2.1⟩ h1
/-- Several blocks made, one behind another. -/
theorem heap_allocs : ∀ (os : List Obj) (W : World), (os.foldl World.alloc W).heap = W.heap ++ os.toArray
  | [], W => by simp
  | o :: os, W => by
    rw [List.foldl_cons, heap_allocs os (W.alloc o)]
    show W.heap.push o ++ os.toArray = _
    simp
theorem allocs_get (os : List Obj) (W : World) (i : Nat) (o : Obj) (h : os[i]? = some o) : (os.foldl World.alloc W).heap[W.heap.size + i]? = some o := by
  rw [heap_allocs, Array.getElem?_append_right (by omega)]
  simpa using h
theorem below_allocs : ∀ (os : List Obj) (W : World), Below W.heap.size W (os.foldl World.alloc W)
  | [], W => Below.refl _ _
  | o :: os, W => (below1 W o).trans ((below_allocs os (W.alloc o)).mono (below1 W o).size)
end Go.Proofs.Ytkkpkcigflikkaa
