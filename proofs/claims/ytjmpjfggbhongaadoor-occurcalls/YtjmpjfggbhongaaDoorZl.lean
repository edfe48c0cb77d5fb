/-
  The document's answer for occurrences (thunkmillref16): Of, Count, All, by contracts.
-/
import Derived.Test.YtjmpjfggbhongaaDoorZe
import Derived.Test.YtjmpjfggbhongaaDoorZg
namespace Go.Proofs.YtjmpjfggbhongaaDoor
open Go.RowKit Go.Shelf Go.Maps
set_option linter.unusedVariables false

set_option maxHeartbeats 4000000 in
set_option maxRecDepth 100000 in
theorem rOf16_c (d : Nat) (t : Tr (d + 1)) (va : Value) (B : Nat) (nm : ByteArray) (w : World) (ha : ExVal w B d t va) (hB : B ≤ w.heap.size) (hz : sizeM (d + 1) t ≤ 1048576) (hd : d + 1 ≤ 4096) (ht : wM (d + 1) t ≤ 3000000) :
    Calls Tryd.prog 14 #[va, .string nm] w fun e w' => e = .returned (.tuple #[.int .i64 (ofM (d + 1) t nm.data.toList : Nat), .int .i64 0]) ∧ Below w.heap.size w w' := by
  obtain ⟨o3, c3, o4, c4, o5, c5, o6, c6, ea, -⟩ := id ha
  subst ea
  obtain ⟨V, hV⟩ : ∃ V, w.alloc (.cells #[.int .i64 (TrN.kind t), .string (TrN.name t), .int .i64 (TrN.num t), .slice o3 (TrN.params t).length c3, .slice o4 (TrN.binds t).length c4, .slice o5 (TrN.args t).length c5, .slice o6 (TrN.alts t).length c6] 29) = V := ⟨_, rfl⟩
  have bV : Below w.heap.size w V := by rw [← hV]; exact below1 w _
  have kE : Blk V w.heap.size #[.int .i64 (TrN.kind t), .string (TrN.name t), .int .i64 (TrN.num t), .slice o3 (TrN.params t).length c3, .slice o4 (TrN.binds t).length c4, .slice o5 (TrN.args t).length c5, .slice o6 (TrN.alts t).length c6] 29 := by rw [← hV]; exact Blk.new w _ _
  have hV0 : ∀ W, Below V.heap.size V W → ExVal W B d t (.agg #[.int .i64 (TrN.kind t), .string (TrN.name t), .int .i64 (TrN.num t), .slice o3 (TrN.params t).length c3, .slice o4 (TrN.binds t).length c4, .slice o5 (TrN.args t).length c5, .slice o6 (TrN.alts t).length c6]) := fun W hW => ha.same (fun g off hg => (bV.trans (hW.mono bV.size)).cell (p := ⟨g, off, none⟩) (by show g < w.heap.size; omega))
  have HM : Hid (Calls Tryd.prog 26 #[.agg #[.int .i64 (TrN.kind t), .string (TrN.name t), .int .i64 (TrN.num t), .slice o3 (TrN.params t).length c3, .slice o4 (TrN.binds t).length c4, .slice o5 (TrN.args t).length c5, .slice o6 (TrN.alts t).length c6]] V fun e w' => e = .returned (.bool false) ∧ Below V.heap.size V w') := rlong_c d t _ B V (hV0 V (Below.refl _ _)) (by have := bV.size; omega) hz hd
  have HQ : Hid (∀ W, Below V.heap.size V W → Calls Tryd.prog 27 #[.agg #[.int .i64 (TrN.kind t), .string (TrN.name t), .int .i64 (TrN.num t), .slice o3 (TrN.params t).length c3, .slice o4 (TrN.binds t).length c4, .slice o5 (TrN.args t).length c5, .slice o6 (TrN.alts t).length c6], .string nm] W fun e w' => e = .returned (.int .i64 (ofM (d + 1) t nm.data.toList : Nat)) ∧ Below W.heap.size W w') := fun W hW => rof_all (d + 1) t _ B nm W (hV0 W hW) (by have := (bV.trans (hW.mono bV.size)).size; omega) ht
  have HKE : Hid (∀ W, Below V.heap.size V W → Blk W w.heap.size #[.int .i64 (TrN.kind t), .string (TrN.name t), .int .i64 (TrN.num t), .slice o3 (TrN.params t).length c3, .slice o4 (TrN.binds t).length c4, .slice o5 (TrN.args t).length c5, .slice o6 (TrN.alts t).length c6] 29) := fun W hW => kE.below hW
  have HB : Hid (Below w.heap.size w V) := bV
  have HV : Hid (w.alloc (.cells #[.int .i64 (TrN.kind t), .string (TrN.name t), .int .i64 (TrN.num t), .slice o3 (TrN.params t).length c3, .slice o4 (TrN.binds t).length c4, .slice o5 (TrN.args t).length c5, .slice o6 (TrN.alts t).length c6] 29) = V) := hV
  generalize ofM (d + 1) t nm.data.toList = oc at HQ ⊢
  clear ha hB hz hd ht bV kE hV hV0
  generalize TrN.kind t = kd at *
  generalize TrN.name t = em at *
  generalize TrN.num t = nu at *
  generalize (TrN.params t).length = n3 at *
  generalize (TrN.binds t).length = nb at *
  generalize (TrN.args t).length = na at *
  generalize (TrN.alts t).length = nl at *
  go_enter Tryd.func14, Tryd.ntmps14
  go_upto_region 1 with fail
  rw [HV.out]
  obtain ⟨a0, a1, a2, a3, a4, a5, a6⟩ := (HKE.out V (Below.refl _ _)).cells7
  have al := (HKE.out V (Below.refl _ _)).lt
  go_wp2_with (go_at_call 26; fail)
  clear a0 a1 a2 a3 a4 a5 a6 al
  refine HM.out.mono ?_
  rintro e w1 ⟨rfl, hb⟩
  obtain ⟨a0, a1, a2, a3, a4, a5, a6⟩ := (HKE.out w1 hb).cells7
  have al := (HKE.out w1 hb).lt
  have HB1 : Hid (Below w.heap.size w w1 ∧ w.heap.size ≤ w1.heap.size) := ⟨HB.out.trans (hb.mono HB.out.size), (HB.out.trans (hb.mono HB.out.size)).size⟩
  have HQ1 := HQ.out w1 hb
  clear hb HM HKE HQ
  have HQ1' : Hid (Calls Tryd.prog 27 #[.agg #[.int .i64 kd, .string em, .int .i64 nu, .slice o3 n3 c3, .slice o4 nb c4, .slice o5 na c5, .slice o6 nl c6], .string nm] w1 fun e w' => e = .returned (.int .i64 (oc : Nat)) ∧ Below w1.heap.size w1 w') := HQ1
  clear HQ1
  go_wp2_with (go_at_call 27; fail)
  clear a0 a1 a2 a3 a4 a5 a6 al
  refine HQ1'.out.mono ?_
  rintro e w2 ⟨rfl, hb⟩
  have HB2 : Hid (Below w.heap.size w w2) := HB1.out.1.trans (hb.mono HB1.out.2)
  clear hb HQ1'
  go_wp2
  first | go_ret2 | go_ret
  exact ⟨rfl, HB2.out⟩
set_option maxHeartbeats 4000000 in
set_option maxRecDepth 100000 in
theorem rCount16_c (d : Nat) (t : Tr (d + 1)) (va : Value) (B : Nat) (nm : ByteArray) (w : World) (ha : ExVal w B d t va) (hB : B ≤ w.heap.size) (hz : sizeM (d + 1) t ≤ 1048576) (hd : d + 1 ≤ 4096) (ht : wM (d + 1) t ≤ 3000000) :
    Calls Tryd.prog 16 #[va, .string nm] w fun e w' => e = .returned (.tuple #[.int .i64 (cntN (d + 1) t nm.data.toList : Nat), .int .i64 0]) ∧ Below w.heap.size w w' := by
  obtain ⟨o3, c3, o4, c4, o5, c5, o6, c6, ea, -⟩ := id ha
  subst ea
  obtain ⟨V, hV⟩ : ∃ V, w.alloc (.cells #[.int .i64 (TrN.kind t), .string (TrN.name t), .int .i64 (TrN.num t), .slice o3 (TrN.params t).length c3, .slice o4 (TrN.binds t).length c4, .slice o5 (TrN.args t).length c5, .slice o6 (TrN.alts t).length c6] 29) = V := ⟨_, rfl⟩
  have bV : Below w.heap.size w V := by rw [← hV]; exact below1 w _
  have kE : Blk V w.heap.size #[.int .i64 (TrN.kind t), .string (TrN.name t), .int .i64 (TrN.num t), .slice o3 (TrN.params t).length c3, .slice o4 (TrN.binds t).length c4, .slice o5 (TrN.args t).length c5, .slice o6 (TrN.alts t).length c6] 29 := by rw [← hV]; exact Blk.new w _ _
  have hV0 : ∀ W, Below V.heap.size V W → ExVal W B d t (.agg #[.int .i64 (TrN.kind t), .string (TrN.name t), .int .i64 (TrN.num t), .slice o3 (TrN.params t).length c3, .slice o4 (TrN.binds t).length c4, .slice o5 (TrN.args t).length c5, .slice o6 (TrN.alts t).length c6]) := fun W hW => ha.same (fun g off hg => (bV.trans (hW.mono bV.size)).cell (p := ⟨g, off, none⟩) (by show g < w.heap.size; omega))
  have HM : Hid (Calls Tryd.prog 26 #[.agg #[.int .i64 (TrN.kind t), .string (TrN.name t), .int .i64 (TrN.num t), .slice o3 (TrN.params t).length c3, .slice o4 (TrN.binds t).length c4, .slice o5 (TrN.args t).length c5, .slice o6 (TrN.alts t).length c6]] V fun e w' => e = .returned (.bool false) ∧ Below V.heap.size V w') := rlong_c d t _ B V (hV0 V (Below.refl _ _)) (by have := bV.size; omega) hz hd
  have HQ : Hid (∀ W, Below V.heap.size V W → Calls Tryd.prog 28 #[.agg #[.int .i64 (TrN.kind t), .string (TrN.name t), .int .i64 (TrN.num t), .slice o3 (TrN.params t).length c3, .slice o4 (TrN.binds t).length c4, .slice o5 (TrN.args t).length c5, .slice o6 (TrN.alts t).length c6], .string nm] W fun e w' => e = .returned (.int .i64 (cntN (d + 1) t nm.data.toList : Nat)) ∧ Below W.heap.size W w') := fun W hW => rcount_all (d + 1) t _ B nm W (hV0 W hW) (by have := (bV.trans (hW.mono bV.size)).size; omega) ht
  have HKE : Hid (∀ W, Below V.heap.size V W → Blk W w.heap.size #[.int .i64 (TrN.kind t), .string (TrN.name t), .int .i64 (TrN.num t), .slice o3 (TrN.params t).length c3, .slice o4 (TrN.binds t).length c4, .slice o5 (TrN.args t).length c5, .slice o6 (TrN.alts t).length c6] 29) := fun W hW => kE.below hW
  have HB : Hid (Below w.heap.size w V) := bV
  have HV : Hid (w.alloc (.cells #[.int .i64 (TrN.kind t), .string (TrN.name t), .int .i64 (TrN.num t), .slice o3 (TrN.params t).length c3, .slice o4 (TrN.binds t).length c4, .slice o5 (TrN.args t).length c5, .slice o6 (TrN.alts t).length c6] 29) = V) := hV
  generalize cntN (d + 1) t nm.data.toList = oc at HQ ⊢
  clear ha hB hz hd ht bV kE hV hV0
  generalize TrN.kind t = kd at *
  generalize TrN.name t = em at *
  generalize TrN.num t = nu at *
  generalize (TrN.params t).length = n3 at *
  generalize (TrN.binds t).length = nb at *
  generalize (TrN.args t).length = na at *
  generalize (TrN.alts t).length = nl at *
  go_enter Tryd.func16, Tryd.ntmps16
  go_upto_region 1 with fail
  rw [HV.out]
  obtain ⟨a0, a1, a2, a3, a4, a5, a6⟩ := (HKE.out V (Below.refl _ _)).cells7
  have al := (HKE.out V (Below.refl _ _)).lt
  go_wp2_with (go_at_call 26; fail)
  clear a0 a1 a2 a3 a4 a5 a6 al
  refine HM.out.mono ?_
  rintro e w1 ⟨rfl, hb⟩
  obtain ⟨a0, a1, a2, a3, a4, a5, a6⟩ := (HKE.out w1 hb).cells7
  have al := (HKE.out w1 hb).lt
  have HB1 : Hid (Below w.heap.size w w1 ∧ w.heap.size ≤ w1.heap.size) := ⟨HB.out.trans (hb.mono HB.out.size), (HB.out.trans (hb.mono HB.out.size)).size⟩
  have HQ1 := HQ.out w1 hb
  clear hb HM HKE HQ
  have HQ1' : Hid (Calls Tryd.prog 28 #[.agg #[.int .i64 kd, .string em, .int .i64 nu, .slice o3 n3 c3, .slice o4 nb c4, .slice o5 na c5, .slice o6 nl c6], .string nm] w1 fun e w' => e = .returned (.int .i64 (oc : Nat)) ∧ Below w1.heap.size w1 w') := HQ1
  clear HQ1
  go_wp2_with (go_at_call 28; fail)
  clear a0 a1 a2 a3 a4 a5 a6 al
  refine HQ1'.out.mono ?_
  rintro e w2 ⟨rfl, hb⟩
  have HB2 : Hid (Below w.heap.size w w2) := HB1.out.1.trans (hb.mono HB1.out.2)
  clear hb HQ1'
  go_wp2
  first | go_ret2 | go_ret
  exact ⟨rfl, HB2.out⟩
set_option maxHeartbeats 4000000 in
set_option maxRecDepth 100000 in
theorem rAll16_c (d : Nat) (t : Tr (d + 1)) (va : Value) (B : Nat) (w : World) (ha : ExVal w B d t va) (hB : B ≤ w.heap.size) (hz : sizeM (d + 1) t ≤ 1048576) (hd : d + 1 ≤ 4096) (ht : wM (d + 1) t ≤ 3000000) :
    Calls Tryd.prog 18 #[va] w fun e w' => ∃ o c, e = .returned (.tuple #[.slice o (allOc (d + 1) t).length c, .int .i64 0]) ∧ OcR w.heap.size w' o c (allOc (d + 1) t) ∧ Below w.heap.size w w' := by
  obtain ⟨o3, c3, o4, c4, o5, c5, o6, c6, ea, -⟩ := id ha
  subst ea
  obtain ⟨V, hV⟩ : ∃ V, w.alloc (.cells #[.int .i64 (TrN.kind t), .string (TrN.name t), .int .i64 (TrN.num t), .slice o3 (TrN.params t).length c3, .slice o4 (TrN.binds t).length c4, .slice o5 (TrN.args t).length c5, .slice o6 (TrN.alts t).length c6] 29) = V := ⟨_, rfl⟩
  have bV : Below w.heap.size w V := by rw [← hV]; exact below1 w _
  have kE : Blk V w.heap.size #[.int .i64 (TrN.kind t), .string (TrN.name t), .int .i64 (TrN.num t), .slice o3 (TrN.params t).length c3, .slice o4 (TrN.binds t).length c4, .slice o5 (TrN.args t).length c5, .slice o6 (TrN.alts t).length c6] 29 := by rw [← hV]; exact Blk.new w _ _
  have hV0 : ∀ W, Below V.heap.size V W → ExVal W B d t (.agg #[.int .i64 (TrN.kind t), .string (TrN.name t), .int .i64 (TrN.num t), .slice o3 (TrN.params t).length c3, .slice o4 (TrN.binds t).length c4, .slice o5 (TrN.args t).length c5, .slice o6 (TrN.alts t).length c6]) := fun W hW => ha.same (fun g off hg => (bV.trans (hW.mono bV.size)).cell (p := ⟨g, off, none⟩) (by show g < w.heap.size; omega))
  have HM : Hid (Calls Tryd.prog 26 #[.agg #[.int .i64 (TrN.kind t), .string (TrN.name t), .int .i64 (TrN.num t), .slice o3 (TrN.params t).length c3, .slice o4 (TrN.binds t).length c4, .slice o5 (TrN.args t).length c5, .slice o6 (TrN.alts t).length c6]] V fun e w' => e = .returned (.bool false) ∧ Below V.heap.size V w') := rlong_c d t _ B V (hV0 V (Below.refl _ _)) (by have := bV.size; omega) hz hd
  have HQ : Hid (∀ W, Below V.heap.size V W → Calls Tryd.prog 32 #[.agg #[.int .i64 (TrN.kind t), .string (TrN.name t), .int .i64 (TrN.num t), .slice o3 (TrN.params t).length c3, .slice o4 (TrN.binds t).length c4, .slice o5 (TrN.args t).length c5, .slice o6 (TrN.alts t).length c6]] W fun e w' => ∃ o c, e = .returned (.slice o (allOc (d + 1) t).length c) ∧ OcR W.heap.size w' o c (allOc (d + 1) t) ∧ Below W.heap.size W w') := fun W hW => rall_all (d + 1) t _ B W (hV0 W hW) (by have := (bV.trans (hW.mono bV.size)).size; omega) ht
  have HKE : Hid (∀ W, Below V.heap.size V W → Blk W w.heap.size #[.int .i64 (TrN.kind t), .string (TrN.name t), .int .i64 (TrN.num t), .slice o3 (TrN.params t).length c3, .slice o4 (TrN.binds t).length c4, .slice o5 (TrN.args t).length c5, .slice o6 (TrN.alts t).length c6] 29) := fun W hW => kE.below hW
  have HB : Hid (Below w.heap.size w V) := bV
  have HV : Hid (w.alloc (.cells #[.int .i64 (TrN.kind t), .string (TrN.name t), .int .i64 (TrN.num t), .slice o3 (TrN.params t).length c3, .slice o4 (TrN.binds t).length c4, .slice o5 (TrN.args t).length c5, .slice o6 (TrN.alts t).length c6] 29) = V) := hV
  generalize allOc (d + 1) t = LL at HQ ⊢
  clear ha hB hz hd ht bV kE hV hV0
  generalize TrN.kind t = kd at *
  generalize TrN.name t = em at *
  generalize TrN.num t = nu at *
  generalize (TrN.params t).length = n3 at *
  generalize (TrN.binds t).length = nb at *
  generalize (TrN.args t).length = na at *
  generalize (TrN.alts t).length = nl at *
  go_enter Tryd.func18, Tryd.ntmps18
  go_upto_region 1 with fail
  rw [HV.out]
  obtain ⟨a0, a1, a2, a3, a4, a5, a6⟩ := (HKE.out V (Below.refl _ _)).cells7
  have al := (HKE.out V (Below.refl _ _)).lt
  go_wp2_with (go_at_call 26; fail)
  clear a0 a1 a2 a3 a4 a5 a6 al
  refine HM.out.mono ?_
  rintro e w1 ⟨rfl, hb⟩
  obtain ⟨a0, a1, a2, a3, a4, a5, a6⟩ := (HKE.out w1 hb).cells7
  have al := (HKE.out w1 hb).lt
  have HB1 : Hid (Below w.heap.size w w1 ∧ w.heap.size ≤ w1.heap.size) := ⟨HB.out.trans (hb.mono HB.out.size), (HB.out.trans (hb.mono HB.out.size)).size⟩
  have HQ1 := HQ.out w1 hb
  clear hb HM HKE HQ
  have HQ1' : Hid (Calls Tryd.prog 32 #[.agg #[.int .i64 kd, .string em, .int .i64 nu, .slice o3 n3 c3, .slice o4 nb c4, .slice o5 na c5, .slice o6 nl c6]] w1 fun e w' => ∃ o c, e = .returned (.slice o LL.length c) ∧ OcR w1.heap.size w' o c LL ∧ Below w1.heap.size w1 w') := HQ1
  clear HQ1
  go_wp2_with (go_at_call 32; fail)
  clear a0 a1 a2 a3 a4 a5 a6 al
  refine HQ1'.out.mono ?_
  rintro e w2 ⟨o, c, rfl, hr, hb⟩
  have HB2 : Hid (Below w.heap.size w w2 ∧ OcR w.heap.size w2 o c LL) := ⟨HB1.out.1.trans (hb.mono HB1.out.2), hr.mono HB1.out.2⟩
  clear hb hr HQ1'
  go_wp2
  first | go_ret2 | go_ret
  exact ⟨o, c, rfl, HB2.out.2, HB2.out.1⟩
end Go.Proofs.YtjmpjfggbhongaaDoor
