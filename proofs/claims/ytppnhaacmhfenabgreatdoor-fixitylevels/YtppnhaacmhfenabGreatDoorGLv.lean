/-
  The laws' own applications, by a contract.
  The fifth laws' first question, by a contract.
-/
import Derived.Test.YtppnhaacmhfenabGreatDoorGFxC
import Derived.Test.YtppnhaacmhfenabGreatDoorGIs
import Derived.Test.YtppnhaacmhfenabGreatDoorGLevM
namespace Go.Proofs.YtppnhaacmhfenabGreatDoor
open Go.RowKit Go.Shelf Go.Maps
set_option linter.unusedVariables false

def apT (nm : List UInt8) (a b : Nd) : Nd := .mk 16 [] 0 [.mk 11 nm 0 [] 0, a, b] 0
set_option maxRecDepth 100000 in
set_option maxHeartbeats 4000000 in
theorem app5_c (nm : List UInt8) (hne : nm ≠ [58]) (hnl : nm.length ≤ 9223372036854775807) (a b : Nd) (oa ob : Option Addr) (ca cb : Nat) (w : World) (ha : NdIn w w.heap.size a oa ca) (hb : NdIn w w.heap.size b ob cb) :
    Calls Tryz.prog 17 #[.string (bs nm), .agg #[.int .i64 a.kind, .string (bs a.name), .int .i64 a.num, .slice oa a.kids.length ca, .int .i64 a.pos], .agg #[.int .i64 b.kind, .string (bs b.name), .int .i64 b.num, .slice ob b.kids.length cb, .int .i64 b.pos]] w fun e w' => ∃ g, e = .returned (.agg #[.int .i64 16, .string ⟨#[]⟩, .int .i64 0, .slice (some ⟨g, 0, none⟩) 3 3, .int .i64 0]) ∧ NdIn w' w'.heap.size (apT nm a b) (some ⟨g, 0, none⟩) 3 ∧ Below w.heap.size w w' := by
  obtain ⟨V, hV⟩ : ∃ V, (((w.alloc (.cells #[.int .i64 a.kind, .string (bs a.name), .int .i64 a.num, .slice oa a.kids.length ca, .int .i64 a.pos] 28)).alloc (.cells #[.int .i64 b.kind, .string (bs b.name), .int .i64 b.num, .slice ob b.kids.length cb, .int .i64 b.pos] 28)).alloc (.cells #[.int .i64 0, .string ⟨#[]⟩, .int .i64 0, .slice none 0 0, .int .i64 0] 28)) = V := ⟨_, rfl⟩
  have HV : Hid ((((w.alloc (.cells #[.int .i64 a.kind, .string (bs a.name), .int .i64 a.num, .slice oa a.kids.length ca, .int .i64 a.pos] 28)).alloc (.cells #[.int .i64 b.kind, .string (bs b.name), .int .i64 b.num, .slice ob b.kids.length cb, .int .i64 b.pos] 28)).alloc (.cells #[.int .i64 0, .string ⟨#[]⟩, .int .i64 0, .slice none 0 0, .int .i64 0] 28)) = V) := hV
  have hB : Below w.heap.size w V := by rw [← hV]; exact (((Below.refl _ w).alloc (Nat.le_refl _) _).alloc (by simp) _).alloc (by simp; omega) _
  have HB : Hid (Below w.heap.size w V) := hB
  have HS : Hid (V.heap.size = w.heap.size + 1 + 1 + 1) := by show _ = _; rw [← hV]; simp
  have HB0 : Hid (Blk V w.heap.size #[.int .i64 a.kind, .string (bs a.name), .int .i64 a.num, .slice oa a.kids.length ca, .int .i64 a.pos] 28) := by show Blk _ _ _ _; rw [← hV]; exact ((Blk.new w _ _).alloc _).alloc _
  have HB1 : Hid (Blk V (w.heap.size + 1) #[.int .i64 b.kind, .string (bs b.name), .int .i64 b.num, .slice ob b.kids.length cb, .int .i64 b.pos] 28) := by show Blk _ _ _ _; rw [← hV]; exact (Blk.new2 w _ _ _).alloc _
  have HB2 : Hid (Blk V (w.heap.size + 1 + 1) #[.int .i64 0, .string ⟨#[]⟩, .int .i64 0, .slice none 0 0, .int .i64 0] 28) := by
    show Blk _ _ _ _
    have h := Blk.new ((w.alloc (.cells #[.int .i64 a.kind, .string (bs a.name), .int .i64 a.num, .slice oa a.kids.length ca, .int .i64 a.pos] 28)).alloc (.cells #[.int .i64 b.kind, .string (bs b.name), .int .i64 b.num, .slice ob b.kids.length cb, .int .i64 b.pos] 28)) #[.int .i64 0, .string ⟨#[]⟩, .int .i64 0, .slice none 0 0, .int .i64 0] 28
    simp only [World.size_alloc] at h
    rw [← hV]
    exact h
  have t58 : ((bs nm).toList == (⟨#[58]⟩ : ByteArray).toList) = false := beq_eq_false_iff_ne.2 (fun h => hne (by rw [show (⟨#[58]⟩ : ByteArray) = bs [58] from rfl, bsList, bsList] at h; exact h))
  have t58' : ((bs nm).toList == [58]) = false := beq_eq_false_iff_ne.2 (fun h => hne (by rw [bsList] at h; exact h))
  have HCv : Hid (Calls Tryz.prog 26 #[.string (bs nm)] V fun e w' => e = .returned (.agg #[.int .i64 11, .string (bs nm), .int .i64 0, .slice none 0 0, .int .i64 0]) ∧ Below V.heap.size V w') := v5_c (bs nm) V
  have HCo : Hid (∀ (X : World) (o : Option Addr) (l c : Nat), Calls Tryz.prog 11 #[.int .i64 16, .slice o l c] X fun e w' => e = .returned (.agg #[.int .i64 16, .string ⟨#[]⟩, .int .i64 0, .slice o l c, .int .i64 0]) ∧ Below X.heap.size X w') := fun X o l c => of5_c 16 o l c X
  have HA : Hid (NdIn w w.heap.size a oa ca) := ha
  have HBn : Hid (NdIn w w.heap.size b ob cb) := hb
  have HNl : Hid (nm.length ≤ 9223372036854775807) := hnl
  clear hV hB ha hb hne hnl
  go_enter Tryz.func17, Tryz.ntmps17
  go_wp2_with (go_at_call 26; fail)
  rw [HV.out]
  refine HCv.out.mono ?_
  rintro e w1 ⟨rfl, hb1⟩
  have HW1 : Hid (Below V.heap.size V w1) := hb1
  obtain ⟨a0, a1, a2, a3, a4, _, _, _, _, _⟩ := (HB0.out.below hb1).cells5F
  have la := (HB0.out.below hb1).lt
  obtain ⟨b0, b1, b2, b3, b4, _, _, _, _, _⟩ := (HB1.out.below hb1).cells5F
  have lb := (HB1.out.below hb1).lt
  clear hb1
  obtain ⟨V4, hV4⟩ : ∃ V4, ((w1.alloc (.cells #[.int .i64 11, .string (bs nm), .int .i64 0, .slice none 0 0, .int .i64 0] 28)).alloc (.cells #[.int .i64 11, .string (bs nm), .int .i64 0, .slice none 0 0, .int .i64 0, .int .i64 a.kind, .string (bs a.name), .int .i64 a.num, .slice oa a.kids.length ca, .int .i64 a.pos, .int .i64 b.kind, .string (bs b.name), .int .i64 b.num, .slice ob b.kids.length cb, .int .i64 b.pos] 28)) = V4 := ⟨_, rfl⟩
  have HV4 : Hid (((w1.alloc (.cells #[.int .i64 11, .string (bs nm), .int .i64 0, .slice none 0 0, .int .i64 0] 28)).alloc (.cells #[.int .i64 11, .string (bs nm), .int .i64 0, .slice none 0 0, .int .i64 0, .int .i64 a.kind, .string (bs a.name), .int .i64 a.num, .slice oa a.kids.length ca, .int .i64 a.pos, .int .i64 b.kind, .string (bs b.name), .int .i64 b.num, .slice ob b.kids.length cb, .int .i64 b.pos] 28)) = V4) := hV4
  have hb4 : Below w1.heap.size w1 V4 := by rw [← hV4]; exact ((Below.refl _ w1).alloc (Nat.le_refl _) _).alloc (by simp) _
  have HB4 : Hid (Below w1.heap.size w1 V4) := hb4
  have HK4 : Hid (Blk V4 (w1.heap.size + 1) #[.int .i64 11, .string (bs nm), .int .i64 0, .slice none 0 0, .int .i64 0, .int .i64 a.kind, .string (bs a.name), .int .i64 a.num, .slice oa a.kids.length ca, .int .i64 a.pos, .int .i64 b.kind, .string (bs b.name), .int .i64 b.num, .slice ob b.kids.length cb, .int .i64 b.pos] 28) := by show Blk _ _ _ _; rw [← hV4]; exact Blk.new2 w1 _ _ _
  clear hV4 hb4
  go_wp2_with (go_at_call 11; fail)
  rw [HV4.out]
  refine (HCo.out V4 _ _ _).mono ?_
  rintro e w5 ⟨rfl, hb5⟩
  have HW5 : Hid (Below V.heap.size V w5) := HW1.out.trans ((HB4.out.trans (hb5.mono HB4.out.size)).mono HW1.out.size)
  have HK5 : Hid (Blk w5 (w1.heap.size + 1) #[.int .i64 11, .string (bs nm), .int .i64 0, .slice none 0 0, .int .i64 0, .int .i64 a.kind, .string (bs a.name), .int .i64 a.num, .slice oa a.kids.length ca, .int .i64 a.pos, .int .i64 b.kind, .string (bs b.name), .int .i64 b.num, .slice ob b.kids.length cb, .int .i64 b.pos] 28) := HK4.out.below hb5
  have HZ5 : Hid (Blk w5 (w.heap.size + 1 + 1) #[.int .i64 0, .string ⟨#[]⟩, .int .i64 0, .slice none 0 0, .int .i64 0] 28) := HB2.out.below HW5.out
  have HS5 : Hid (V.heap.size ≤ w1.heap.size ∧ w1.heap.size + 1 < w5.heap.size) := ⟨HW1.out.size, HK5.out.lt⟩
  obtain ⟨z0, z1, z2, z3, z4, y0, y1, y2, y3, y4⟩ := HZ5.out.cells5F
  have lz := HZ5.out.lt
  clear hb5
  go_wp2
  have hK := HZ5.out.sets5F (.int .i64 16) (.string ⟨#[]⟩) (.int .i64 0) (.slice (some ⟨w1.heap.size + 1, 0, none⟩) 3 3) (.int .i64 0)
  have hbs := but_sets5 w5 (w.heap.size + 1 + 1) (.int .i64 16) (.string ⟨#[]⟩) (.int .i64 0) (.slice (some ⟨w1.heap.size + 1, 0, none⟩) 3 3) (.int .i64 0)
  have hs := HS.out
  have hs5 := HS5.out
  have hk5 := HK5.out.but (b := w.heap.size + 1 + 1) (by omega) hbs
  have hX : Below w.heap.size w w5 := HB.out.trans (HW5.out.mono HB.out.size)
  have hXs := hX.size
  have hWs := HW5.out.size
  have hXc := hX.trans (hbs.below (n := w.heap.size) (by omega) (by omega))
  generalize (((((w5.setCell ⟨w.heap.size + 1 + 1, 0, none⟩ (.int .i64 16)).setCell ⟨w.heap.size + 1 + 1, 1, none⟩ (.string ⟨#[]⟩)).setCell ⟨w.heap.size + 1 + 1, 2, none⟩ (.int .i64 0)).setCell ⟨w.heap.size + 1 + 1, 3, none⟩ (.slice (some ⟨w1.heap.size + 1, 0, none⟩) 3 3)).setCell ⟨w.heap.size + 1 + 1, 4, none⟩ (.int .i64 0)) = WF at hK hbs hk5 hXc ⊢
  obtain ⟨g0, g1, g2, g3, g4, _, _, _, _, _⟩ := hK.cells5F
  refine bodyPost_ret (v := .agg #[.int .i64 16, .string ⟨#[]⟩, .int .i64 0, .slice (some ⟨w1.heap.size + 1, 0, none⟩) 3 3, .int .i64 0]) (by simp [results, Tryz.results17, go_sem, g0, g1, g2, g3, g4]) rfl ⟨_, rfl, ?_, hXc⟩
  have hsz := hXc.size
  have hl5 := hk5.lt
  exact nin_3 (a := .mk 11 nm 0 [] 0) (b := a) (d := b) _ rfl ⟨(by decide : (-9223372036854775808 : Int) ≤ 16 ∧ (16 : Int) ≤ 9223372036854775807), (by decide : (0 : Nat) ≤ 9223372036854775807), (by decide : (-9223372036854775808 : Int) ≤ 0 ∧ (0 : Int) ≤ 9223372036854775807)⟩ ⟨.inl rfl, (by decide : (0 : Nat) ≤ 0), (by decide : (0 : Nat) ≤ 9223372036854775807), (by decide : (-9223372036854775808 : Int) ≤ 11 ∧ (11 : Int) ≤ 9223372036854775807), HNl.out, (by decide : (-9223372036854775808 : Int) ≤ 0 ∧ (0 : Int) ≤ 9223372036854775807)⟩ (nin_mono (HA.out.below hXc) hsz) (nin_mono (HBn.out.below hXc) hsz) hl5 hk5
end Go.Proofs.YtppnhaacmhfenabGreatDoor

namespace Go.Proofs.YtppnhaacmhfenabGreatDoor
open Go.RowKit Go.Shelf Go.Maps
set_option linter.unusedVariables false

def lvN : Nd := .mk 17 [] 0 [nmO 1, opO [43], nmO 2, opO [42], nmO 3] 0
def lvX : Nd := appM 17 (opO [43]) (nmO 1) (appM 17 (opO [42]) (nmO 2) (nmO 3))
def lvW : Nd := apT [43] (nmO 1) (apT [42] (nmO 2) (nmO 3))
set_option maxRecDepth 100000 in
theorem lv_chk : chkM lvN = 0 := by decide +kernel
set_option maxRecDepth 100000 in
theorem lv_res : rdM 17 (holdM builtinL) 9 9 topF (leafIts lvN.kids) = .ok lvX [] := by rfl
set_option maxRecDepth 100000 in
theorem lv_same : sameM 256 lvX lvW = true := by decide +kernel
theorem lv_nst : nst 256 lvX = true := by decide +kernel
theorem nin_5 {W : World} {B g : Nat} (n : Nd) {a b c d e : Nd} (hk : n.kids = [a, b, c, d, e]) (hw : WfF n) (ha : NdIn W B a none 0) (hb : NdIn W B b none 0) (hc : NdIn W B c none 0) (hd : NdIn W B d none 0) (he : NdIn W B e none 0) (la : a.kids = []) (lb : b.kids = []) (lc : c.kids = []) (ld : d.kids = []) (le : e.kids = []) (hg : g < B) (hB : Blk W g #[.int .i64 a.kind, .string (bs a.name), .int .i64 a.num, .slice none 0 0, .int .i64 a.pos, .int .i64 b.kind, .string (bs b.name), .int .i64 b.num, .slice none 0 0, .int .i64 b.pos, .int .i64 c.kind, .string (bs c.name), .int .i64 c.num, .slice none 0 0, .int .i64 c.pos, .int .i64 d.kind, .string (bs d.name), .int .i64 d.num, .slice none 0 0, .int .i64 d.pos, .int .i64 e.kind, .string (bs e.name), .int .i64 e.num, .slice none 0 0, .int .i64 e.pos] 28) : NdIn W B n (some ⟨g, 0, none⟩) 5 := by
  refine ⟨.inr ⟨g, 0, rfl, hg, ?_⟩, by rw [hk]; exact Nat.le_refl _, by decide, hw⟩
  rw [hk]
  simp only [KidsAt]
  refine ⟨ndF_at ha (hB.cell 0 _ rfl) (hB.cell 1 _ rfl) (hB.cell 2 _ rfl) ?_ (hB.cell 4 _ rfl), ndF_at hb (hB.cell 5 _ rfl) (hB.cell 6 _ rfl) (hB.cell 7 _ rfl) ?_ (hB.cell 9 _ rfl), ndF_at hc (hB.cell 10 _ rfl) (hB.cell 11 _ rfl) (hB.cell 12 _ rfl) ?_ (hB.cell 14 _ rfl), ndF_at hd (hB.cell 15 _ rfl) (hB.cell 16 _ rfl) (hB.cell 17 _ rfl) ?_ (hB.cell 19 _ rfl), ndF_at he (hB.cell 20 _ rfl) (hB.cell 21 _ rfl) (hB.cell 22 _ rfl) ?_ (hB.cell 24 _ rfl), trivial⟩
  · rw [la]; exact hB.cell 3 _ rfl
  · rw [lb]; exact hB.cell 8 _ rfl
  · rw [lc]; exact hB.cell 13 _ rfl
  · rw [ld]; exact hB.cell 18 _ rfl
  · rw [le]; exact hB.cell 23 _ rfl
set_option maxRecDepth 100000 in
set_option maxHeartbeats 8000000 in
theorem lives5_c (w : World) (hG : GOK w) : Calls Tryz.prog 5 #[] w fun e W' => e = .returned (.bool true) ∧ Below w.heap.size w W' := by
  have HG : Hid (GOK w) := hG
  have HN : Hid (∀ (n : Int) (X : World), Calls Tryz.prog 16 #[.int .i64 n] X fun e w' => e = .returned (.agg #[.int .i64 13, .string ⟨#[]⟩, .int .i64 n, .slice none 0 0, .int .i64 0]) ∧ Below X.heap.size X w') := num5_c
  have HP : Hid (∀ (s : ByteArray) (X : World), Calls Tryz.prog 14 #[.string s] X fun e w' => e = .returned (.agg #[.int .i64 5, .string s, .int .i64 0, .slice none 0 0, .int .i64 0]) ∧ Below X.heap.size X w') := op5_c
  have HO : Hid (∀ (k : Int) (o : Option Addr) (l cap : Nat) (X : World), Calls Tryz.prog 11 #[.int .i64 k, .slice o l cap] X fun e w' => e = .returned (.agg #[.int .i64 k, .string ⟨#[]⟩, .int .i64 0, .slice o l cap, .int .i64 0]) ∧ Below X.heap.size X w') := of5_c
  clear hG
  go_enter Tryz.func5, Tryz.ntmps5
  go_wp2_with (go_at_call 16; fail)
  refine (HN.out _ _).mono ?_
  rintro e w1 ⟨rfl, hbw1⟩
  have Bw1 : Hid (Below w.heap.size w w1) := hbw1
  
  clear hbw1
  go_wp2_with (go_at_call 14; fail)
  refine (HP.out _ _).mono ?_
  rintro e w2 ⟨rfl, hbw2⟩
  have Bw2 : Hid (Below w.heap.size w w2) := Bw1.out.trans (hbw2.mono Bw1.out.size)
  have Dw2 : Hid (Below w1.heap.size w1 w2) := hbw2
  clear hbw2
  go_wp2_with (go_at_call 16; fail)
  refine (HN.out _ _).mono ?_
  rintro e w3 ⟨rfl, hbw3⟩
  have Bw3 : Hid (Below w.heap.size w w3) := Bw2.out.trans (hbw3.mono Bw2.out.size)
  have Dw3 : Hid (Below w2.heap.size w2 w3) := hbw3
  clear hbw3
  go_wp2_with (go_at_call 14; fail)
  refine (HP.out _ _).mono ?_
  rintro e w4 ⟨rfl, hbw4⟩
  have Bw4 : Hid (Below w.heap.size w w4) := Bw3.out.trans (hbw4.mono Bw3.out.size)
  have Dw4 : Hid (Below w3.heap.size w3 w4) := hbw4
  clear hbw4
  go_wp2_with (go_at_call 16; fail)
  refine (HN.out _ _).mono ?_
  rintro e w5 ⟨rfl, hbw5⟩
  have Bw5 : Hid (Below w.heap.size w w5) := Bw4.out.trans (hbw5.mono Bw4.out.size)
  have Dw5 : Hid (Below w4.heap.size w4 w5) := hbw5
  clear hbw5
  obtain ⟨V, hV⟩ : ∃ V, w5.alloc (.cells #[.int .i64 13, .string ⟨#[]⟩, .int .i64 1, .slice none 0 0, .int .i64 0, .int .i64 5, .string ⟨#[43]⟩, .int .i64 0, .slice none 0 0, .int .i64 0, .int .i64 13, .string ⟨#[]⟩, .int .i64 2, .slice none 0 0, .int .i64 0, .int .i64 5, .string ⟨#[42]⟩, .int .i64 0, .slice none 0 0, .int .i64 0, .int .i64 13, .string ⟨#[]⟩, .int .i64 3, .slice none 0 0, .int .i64 0] 28) = V := ⟨_, rfl⟩
  have HV : Hid (w5.alloc (.cells #[.int .i64 13, .string ⟨#[]⟩, .int .i64 1, .slice none 0 0, .int .i64 0, .int .i64 5, .string ⟨#[43]⟩, .int .i64 0, .slice none 0 0, .int .i64 0, .int .i64 13, .string ⟨#[]⟩, .int .i64 2, .slice none 0 0, .int .i64 0, .int .i64 5, .string ⟨#[42]⟩, .int .i64 0, .slice none 0 0, .int .i64 0, .int .i64 13, .string ⟨#[]⟩, .int .i64 3, .slice none 0 0, .int .i64 0] 28) = V) := hV
  have DV : Hid (Below w5.heap.size w5 V) := by show Below _ _ _; rw [← hV]; exact (Below.refl _ _).alloc (Nat.le_refl _) _
  have BV : Hid (Below w.heap.size w V) := Bw5.out.trans (DV.out.mono Bw5.out.size)
  have KV : Hid (Blk V w5.heap.size #[.int .i64 13, .string ⟨#[]⟩, .int .i64 1, .slice none 0 0, .int .i64 0, .int .i64 5, .string ⟨#[43]⟩, .int .i64 0, .slice none 0 0, .int .i64 0, .int .i64 13, .string ⟨#[]⟩, .int .i64 2, .slice none 0 0, .int .i64 0, .int .i64 5, .string ⟨#[42]⟩, .int .i64 0, .slice none 0 0, .int .i64 0, .int .i64 13, .string ⟨#[]⟩, .int .i64 3, .slice none 0 0, .int .i64 0] 28) := by show Blk _ _ _ _; rw [← hV]; exact Blk.new _ _ _
  clear hV
  go_wp2_with (go_at_call 11; fail)
  rw [HV.out]
  refine (HO.out _ _ _ _ _).mono ?_
  rintro e w6 ⟨rfl, hb6⟩
  have Dw6 : Hid (Below V.heap.size V w6) := hb6
  have Bw6 : Hid (Below w.heap.size w w6) := BV.out.trans (hb6.mono BV.out.size)
  have K6 : Hid (Blk w6 w5.heap.size #[.int .i64 13, .string ⟨#[]⟩, .int .i64 1, .slice none 0 0, .int .i64 0, .int .i64 5, .string ⟨#[43]⟩, .int .i64 0, .slice none 0 0, .int .i64 0, .int .i64 13, .string ⟨#[]⟩, .int .i64 2, .slice none 0 0, .int .i64 0, .int .i64 5, .string ⟨#[42]⟩, .int .i64 0, .slice none 0 0, .int .i64 0, .int .i64 13, .string ⟨#[]⟩, .int .i64 3, .slice none 0 0, .int .i64 0] 28) := KV.out.below hb6
  clear hb6
  go_wp2_with (go_at_call 16; fail)
  refine (HN.out _ _).mono ?_
  rintro e w7 ⟨rfl, hbw7⟩
  have Bw7 : Hid (Below w.heap.size w w7) := Bw6.out.trans (hbw7.mono Bw6.out.size)
  have Dw7 : Hid (Below w6.heap.size w6 w7) := hbw7
  clear hbw7
  go_wp2_with (go_at_call 16; fail)
  refine (HN.out _ _).mono ?_
  rintro e w8 ⟨rfl, hbw8⟩
  have Bw8 : Hid (Below w.heap.size w w8) := Bw7.out.trans (hbw8.mono Bw7.out.size)
  have Dw8 : Hid (Below w7.heap.size w7 w8) := hbw8
  clear hbw8
  go_wp2_with (go_at_call 16; fail)
  refine (HN.out _ _).mono ?_
  rintro e w9 ⟨rfl, hbw9⟩
  have Bw9 : Hid (Below w.heap.size w w9) := Bw8.out.trans (hbw9.mono Bw8.out.size)
  have Dw9 : Hid (Below w8.heap.size w8 w9) := hbw9
  clear hbw9
  have HA1 : Hid (Calls Tryz.prog 17 #[.string ⟨#[42]⟩, .agg #[.int .i64 13, .string ⟨#[]⟩, .int .i64 2, .slice none 0 0, .int .i64 0], .agg #[.int .i64 13, .string ⟨#[]⟩, .int .i64 3, .slice none 0 0, .int .i64 0]] w9 fun e w' => ∃ g, e = .returned (.agg #[.int .i64 16, .string ⟨#[]⟩, .int .i64 0, .slice (some ⟨g, 0, none⟩) 3 3, .int .i64 0]) ∧ NdIn w' w'.heap.size (apT [42] (nmO 2) (nmO 3)) (some ⟨g, 0, none⟩) 3 ∧ Below w9.heap.size w9 w') := app5_c [42] (by decide) (by decide) (nmO 2) (nmO 3) none none 0 0 w9 (show NdIn w9 w9.heap.size (nmO 2) none 0 from ⟨.inl rfl, (by decide : (0 : Nat) ≤ 0), (by decide : (0 : Nat) ≤ 9223372036854775807), (by decide : (-9223372036854775808 : Int) ≤ 13 ∧ (13 : Int) ≤ 9223372036854775807), (by decide : (0 : Nat) ≤ 9223372036854775807), (by decide : (-9223372036854775808 : Int) ≤ ((2 : Nat) : Int) ∧ ((2 : Nat) : Int) ≤ 9223372036854775807)⟩) (show NdIn w9 w9.heap.size (nmO 3) none 0 from ⟨.inl rfl, (by decide : (0 : Nat) ≤ 0), (by decide : (0 : Nat) ≤ 9223372036854775807), (by decide : (-9223372036854775808 : Int) ≤ 13 ∧ (13 : Int) ≤ 9223372036854775807), (by decide : (0 : Nat) ≤ 9223372036854775807), (by decide : (-9223372036854775808 : Int) ≤ ((3 : Nat) : Int) ∧ ((3 : Nat) : Int) ≤ 9223372036854775807)⟩)
  go_wp2_with (go_at_call 17; fail)
  refine HA1.out.mono ?_
  rintro e w10 ⟨g1, rfl, hN1, hb10⟩
  have Dw10 : Hid (Below w9.heap.size w9 w10) := hb10
  have Bw10 : Hid (Below w.heap.size w w10) := Bw9.out.trans (hb10.mono Bw9.out.size)
  have HA2 : Hid (Calls Tryz.prog 17 #[.string ⟨#[43]⟩, .agg #[.int .i64 13, .string ⟨#[]⟩, .int .i64 1, .slice none 0 0, .int .i64 0], .agg #[.int .i64 16, .string ⟨#[]⟩, .int .i64 0, .slice (some ⟨g1, 0, none⟩) 3 3, .int .i64 0]] w10 fun e w' => ∃ g, e = .returned (.agg #[.int .i64 16, .string ⟨#[]⟩, .int .i64 0, .slice (some ⟨g, 0, none⟩) 3 3, .int .i64 0]) ∧ NdIn w' w'.heap.size lvW (some ⟨g, 0, none⟩) 3 ∧ Below w10.heap.size w10 w') := app5_c [43] (by decide) (by decide) (nmO 1) (apT [42] (nmO 2) (nmO 3)) none (some ⟨g1, 0, none⟩) 0 3 w10 (show NdIn w10 w10.heap.size (nmO 1) none 0 from ⟨.inl rfl, (by decide : (0 : Nat) ≤ 0), (by decide : (0 : Nat) ≤ 9223372036854775807), (by decide : (-9223372036854775808 : Int) ≤ 13 ∧ (13 : Int) ≤ 9223372036854775807), (by decide : (0 : Nat) ≤ 9223372036854775807), (by decide : (-9223372036854775808 : Int) ≤ ((1 : Nat) : Int) ∧ ((1 : Nat) : Int) ≤ 9223372036854775807)⟩) hN1
  clear hN1 hb10
  go_wp2_with (go_at_call 17; fail)
  refine HA2.out.mono ?_
  rintro e w11 ⟨g2, rfl, hN2, hb11⟩
  have D11 : Hid (Below w6.heap.size w6 w11) := ((Dw7.out.trans (Dw8.out.mono Dw7.out.size)).trans ((Dw9.out.mono (Nat.le_trans Dw7.out.size Dw8.out.size)).trans ((Dw10.out.mono (Nat.le_trans Dw7.out.size (Nat.le_trans Dw8.out.size Dw9.out.size))).trans (hb11.mono (Nat.le_trans Dw7.out.size (Nat.le_trans Dw8.out.size (Nat.le_trans Dw9.out.size Dw10.out.size)))))))
  have Bw11 : Hid (Below w.heap.size w w11) := Bw10.out.trans (hb11.mono Bw10.out.size)
  have HI : Hid (Calls Tryz.prog 15 #[.agg #[.int .i64 17, .string ⟨#[]⟩, .int .i64 0, .slice (some ⟨w5.heap.size, 0, none⟩) 5 5, .int .i64 0], .agg #[.int .i64 16, .string ⟨#[]⟩, .int .i64 0, .slice (some ⟨g2, 0, none⟩) 3 3, .int .i64 0]] w11 fun e w' => e = .returned (.bool true) ∧ Below w11.heap.size w11 w') := by
    have k11 := K6.out.below D11.out
    have lf : ∀ (x : Nd), x.kids = [] → (-9223372036854775808 ≤ x.kind ∧ x.kind ≤ 9223372036854775807) ∧ x.name.length ≤ 9223372036854775807 ∧ (-9223372036854775808 ≤ x.num ∧ x.num ≤ 9223372036854775807) → NdIn w11 w11.heap.size x none 0 := fun x h1 h2 => ⟨.inl h1, by rw [h1]; exact Nat.le_refl _, by decide, h2⟩
    have hn : NdIn w11 w11.heap.size lvN (some ⟨w5.heap.size, 0, none⟩) 5 := nin_5 lvN (a := nmO 1) (b := opO [43]) (c := nmO 2) (d := opO [42]) (e := nmO 3) rfl (by unfold WfF; decide) (lf _ rfl (by decide)) (lf _ rfl (by decide)) (lf _ rfl (by decide)) (lf _ rfl (by decide)) (lf _ rfl (by decide)) rfl rfl rfl rfl rfl k11.lt k11
    have h := is_c lvN lvW rfl (some ⟨w5.heap.size, 0, none⟩) (some ⟨g2, 0, none⟩) 5 3 9 9 w11 (HG.out.below Bw11.out) hn hN2 lv_chk (by decide) (by decide) (by decide) lvX [] lv_res lv_nst
    rw [lv_same] at h
    exact h
  clear hN2 hb11
  go_wp2_with (go_at_call 15; fail)
  refine HI.out.mono ?_
  rintro e w12 ⟨rfl, hb12⟩
  have Bw12 : Hid (Below w.heap.size w w12) := Bw11.out.trans (hb12.mono Bw11.out.size)
  clear hb12
  go_wp2
  go_ret
  exact ⟨rfl, Bw12.out⟩
end Go.Proofs.YtppnhaacmhfenabGreatDoor
