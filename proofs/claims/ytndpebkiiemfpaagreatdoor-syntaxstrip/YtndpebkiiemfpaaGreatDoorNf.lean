/-
  Is a node's name as its kind asks: by contracts.
  Is a node's name as its kind asks: kinds whose names are lexemes.
  Are a node's name and number as its kind asks.
-/
import Derived.Test.YtndpebkiiemfpaaGreatDoorLexi
import Derived.Deep.RegionHeld3
import Derived.BigQuiet
namespace Go.Proofs.YtndpebkiiemfpaaGreatDoor
open Go.RowKit Go.Shelf Go.Maps
set_option linter.unusedVariables false

def isVarB (k : Int) : Bool := k == 1 || k == 3
def isConB (k : Int) : Bool := k == 2 || k == 4
def isSideB (s : ByteArray) : Bool := s.data.toList == [105, 110, 102, 105, 120, 108] || s.data.toList == [105, 110, 102, 105, 120, 114] || s.data.toList == [105, 110, 102, 105, 120]
/-- Is a name as its kind asks? -/
def nameM (k : Int) (s : ByteArray) (len : Nat) : Bool :=
  if k = 15 ∨ k = 38 then true
  else if k = 4 then isSideB s
  else if k = 2 ∨ k = 3 then lkM s == 2
  else if k = 34 ∨ k = 42 then lkM s == 1
  else if k = 11 ∨ k = 6 then isVarB (lkM s)
  else if k = 12 then isConB (lkM s)
  else if k = 39 then isConB (lkM s) && (lkM s == 2 || len == 2)
  else if k = 5 ∨ k = 28 ∨ k = 29 then isVarB (lkM s) || isConB (lkM s)
  else s.data.toList == []

set_option maxRecDepth 100000 in
set_option maxHeartbeats 4000000 in
theorem isVar_c (k : Int) (w : World) : Calls Tryz.prog 134 #[.int .i64 k] w fun e w' => e = .returned (.bool (isVarB k)) ∧ w' = w := by
  obtain ⟨b1, h1⟩ : ∃ b, (k == 1) = b := ⟨_, rfl⟩
  obtain ⟨b3, h3⟩ : ∃ b, (k == 3) = b := ⟨_, rfl⟩
  have HR : Hid (isVarB k = (b1 || b3)) := by show _ = _; unfold isVarB; rw [h1, h3]
  cases b1 <;> cases b3 <;>
  · go_enter Tryz.func134, Tryz.ntmps134
    go_wp2
    go_ret
    exact ⟨by rw [HR.out]; rfl, rfl⟩
set_option maxRecDepth 100000 in
set_option maxHeartbeats 4000000 in
theorem isCon_c (k : Int) (w : World) : Calls Tryz.prog 135 #[.int .i64 k] w fun e w' => e = .returned (.bool (isConB k)) ∧ w' = w := by
  obtain ⟨b1, h1⟩ : ∃ b, (k == 2) = b := ⟨_, rfl⟩
  obtain ⟨b3, h3⟩ : ∃ b, (k == 4) = b := ⟨_, rfl⟩
  have HR : Hid (isConB k = (b1 || b3)) := by show _ = _; unfold isConB; rw [h1, h3]
  cases b1 <;> cases b3 <;>
  · go_enter Tryz.func135, Tryz.ntmps135
    go_wp2
    go_ret
    exact ⟨by rw [HR.out]; rfl, rfl⟩
set_option maxRecDepth 100000 in
set_option maxHeartbeats 4000000 in
theorem isSide_c (s : ByteArray) (w : World) : Calls Tryz.prog 132 #[.string s] w fun e w' => e = .returned (.bool (isSideB s)) ∧ w' = w := by
  obtain ⟨b1, h1⟩ : ∃ b, (s.data.toList == [105, 110, 102, 105, 120, 108]) = b := ⟨_, rfl⟩
  obtain ⟨b2, h2⟩ : ∃ b, (s.data.toList == [105, 110, 102, 105, 120, 114]) = b := ⟨_, rfl⟩
  obtain ⟨b3, h3⟩ : ∃ b, (s.data.toList == [105, 110, 102, 105, 120]) = b := ⟨_, rfl⟩
  have HR : Hid (isSideB s = (b1 || b2 || b3)) := by show _ = _; unfold isSideB; rw [h1, h2, h3]
  have k1 : (s.toList == [105, 110, 102, 105, 120, 108]) = b1 := by rw [ByteArray.toList_eq]; exact h1
  have k2 : (s.toList == [105, 110, 102, 105, 120, 114]) = b2 := by rw [ByteArray.toList_eq]; exact h2
  have k3 : (s.toList == [105, 110, 102, 105, 120]) = b3 := by rw [ByteArray.toList_eq]; exact h3
  clear h1 h2 h3
  cases b1 <;> cases b2 <;> cases b3 <;>
  · go_enter Tryz.func132, Tryz.ntmps132
    go_wp2
    go_ret
    exact ⟨by rw [HR.out]; rfl, rfl⟩

end Go.Proofs.YtndpebkiiemfpaaGreatDoor

namespace Go.Proofs.YtndpebkiiemfpaaGreatDoor
open Go.RowKit Go.Shelf Go.Maps
set_option linter.unusedVariables false

set_option maxRecDepth 100000 in
set_option maxHeartbeats 4000000 in
theorem nf2_c (s : ByteArray) (hs : s.size ≤ 9223372036854775807) (o : Option Addr) (len cap g off b0 bl c : Nat) (hc : c ≤ 4611686018427387904) (w : World) (hG : GOK w) (hL : LexSt w bl c) (h0 : w.cell? ⟨g, off, none⟩ = some (.int .i64 2)) (h1 : w.cell? ⟨g, off + 1, none⟩ = some (.string s)) (h3 : w.cell? ⟨g, off + 3, none⟩ = some (.slice o len cap)) (hg : g < w.heap.size) (hgb : g ≠ bl) :
    Calls Tryz.prog 81 #[.agg #[.map (some b0), .map (some bl)], .pointer (some ⟨g, off, none⟩)] w fun e W' => e = .returned (.bool (nameM 2 s len)) ∧ But bl w W' ∧ LexSt W' bl (c + 1) := by
  have hdep : Tryz.prog.follows Departure.mixedOrders = true := by kernel_rfl
  obtain ⟨kd, hkd⟩ : ∃ kd, lkM s = kd := ⟨_, rfl⟩
  have HR : Hid (nameM 2 s len = (kd == 2)) := by show _ = _; rw [← hkd]; rfl
  have HPre : Hid (GOK (w.alloc (.cells #[.map (some b0), .map (some bl)] 93)) ∧ LexSt (w.alloc (.cells #[.map (some b0), .map (some bl)] 93)) bl c) := ⟨hG.below ((Below.refl _ w).alloc (Nat.le_refl _) _), hL.below ((Below.refl _ w).alloc (Nat.le_refl _) _)⟩
  have HPreD : Hid (GOK (w.alloc (.cells #[.map (some b0), .map (some bl)] 93)).drew ∧ LexSt (w.alloc (.cells #[.map (some b0), .map (some bl)] 93)).drew bl c) := ⟨hG.below ((Below.refl _ w).alloc (Nat.le_refl _) _).drew, hL.below ((Below.refl _ w).alloc (Nat.le_refl _) _).drew⟩
  have HK : Hid (∀ X : World, Hid (GOK X ∧ LexSt X bl c) → Calls Tryz.prog 133 #[.map (some bl), .string s] X fun e W' => e = .returned (.int .i64 kd) ∧ But bl X W' ∧ LexSt W' bl (c + 1)) := fun X hX => by
    have := kind_c s hs bl c hc X hX.out.1 hX.out.2
    rw [hkd] at this
    exact this
  have hS0 : (w.alloc (.cells #[.map (some b0), .map (some bl)] 93)).cell? ⟨w.heap.size, 1, none⟩ = some (.map (some bl)) ∧ (w.alloc (.cells #[.map (some b0), .map (some bl)] 93)).cell? ⟨g, off + 1, none⟩ = some (.string s) := ⟨(Blk.new w _ _).cell 1 _ rfl, (((Below.refl _ w).alloc (Nat.le_refl _) _).cell (p := ⟨g, off + 1, none⟩) hg).trans h1⟩
  have HS0 : Hid ((w.alloc (.cells #[.map (some b0), .map (some bl)] 93)).cell? ⟨w.heap.size, 1, none⟩ = some (.map (some bl)) ∧ (w.alloc (.cells #[.map (some b0), .map (some bl)] 93)).cell? ⟨g, off + 1, none⟩ = some (.string s)) := hS0
  have HS0d : Hid ((w.alloc (.cells #[.map (some b0), .map (some bl)] 93)).drew.cell? ⟨w.heap.size, 1, none⟩ = some (.map (some bl)) ∧ (w.alloc (.cells #[.map (some b0), .map (some bl)] 93)).drew.cell? ⟨g, off + 1, none⟩ = some (.string s)) := hS0
  have HS2 : Hid (∀ X : World, But bl (w.alloc (.cells #[.map (some b0), .map (some bl)] 93)) X → X.cell? ⟨w.heap.size, 1, none⟩ = some (.map (some bl)) ∧ X.cell? ⟨g, off + 1, none⟩ = some (.string s)) := fun X hX => ⟨(hX.cell w.heap.size 1 (by simp) (by have := hL.lt; omega)).trans hS0.1, (hX.cell g (off + 1) (by simp; omega) hgb).trans hS0.2⟩
  have HBt : Hid (But bl w (w.alloc (.cells #[.map (some b0), .map (some bl)] 93))) := but_below ((Below.refl _ w).alloc (Nat.le_refl _) _) bl
  have hbd : Hid (∀ X : World, But bl (w.alloc (.cells #[.map (some b0), .map (some bl)] 93)).drew X → But bl (w.alloc (.cells #[.map (some b0), .map (some bl)] 93)) X) := fun X hX => ⟨hX.os, hX.tape, hX.output, hX.size, hX.block⟩
  have H3 : Hid (∀ X : World, But bl w X → X.cell? ⟨g, off + 3, none⟩ = some (.slice o len cap)) := fun X hX => (hX.cell g (off + 3) hg hgb).trans h3
  have hgl : Hid (bl < w.heap.size) := hL.lt
  clear hG hL hS0 hs hc hkd h1 h3
  go_enter Tryz.func81, Tryz.ntmps81
  go_wp2
  go_region_held3 (fun X : World => X.cell? ⟨w.heap.size, 1, none⟩ = some (.map (some bl)) ∧ X.cell? ⟨g, off + 1, none⟩ = some (.string s))
    (first
      | with_reducible exact HS0.out
      | with_reducible exact HS0d.out
      | with_reducible exact hS2)
    (first
      | (go_at_call 133; refine (HK.out _ (by first | with_reducible exact HPreD | with_reducible exact HPre)).mono ?_; rintro e w2 ⟨rfl, hb2, hl2⟩; have hb3 : But bl (w.alloc (.cells #[.map (some b0), .map (some bl)] 93)) w2 := (by first | with_reducible exact hbd.out _ hb2 | with_reducible exact hb2); have HB3 : Hid (But bl w w2) := HBt.out.trans hb3; have hS2 := HS2.out _ hb3; have HL2 : Hid (LexSt w2 bl (c + 1)) := hl2; clear hb2 hl2 hb3))
  all_goals go_wp2
  all_goals go_ret
  all_goals exact ⟨by rw [HR.out]; rfl, HB3.out, HL2.out⟩
set_option maxRecDepth 100000 in
set_option maxHeartbeats 4000000 in
theorem nf3_c (s : ByteArray) (hs : s.size ≤ 9223372036854775807) (o : Option Addr) (len cap g off b0 bl c : Nat) (hc : c ≤ 4611686018427387904) (w : World) (hG : GOK w) (hL : LexSt w bl c) (h0 : w.cell? ⟨g, off, none⟩ = some (.int .i64 3)) (h1 : w.cell? ⟨g, off + 1, none⟩ = some (.string s)) (h3 : w.cell? ⟨g, off + 3, none⟩ = some (.slice o len cap)) (hg : g < w.heap.size) (hgb : g ≠ bl) :
    Calls Tryz.prog 81 #[.agg #[.map (some b0), .map (some bl)], .pointer (some ⟨g, off, none⟩)] w fun e W' => e = .returned (.bool (nameM 3 s len)) ∧ But bl w W' ∧ LexSt W' bl (c + 1) := by
  have hdep : Tryz.prog.follows Departure.mixedOrders = true := by kernel_rfl
  obtain ⟨kd, hkd⟩ : ∃ kd, lkM s = kd := ⟨_, rfl⟩
  have HR : Hid (nameM 3 s len = (kd == 2)) := by show _ = _; rw [← hkd]; rfl
  have HPre : Hid (GOK (w.alloc (.cells #[.map (some b0), .map (some bl)] 93)) ∧ LexSt (w.alloc (.cells #[.map (some b0), .map (some bl)] 93)) bl c) := ⟨hG.below ((Below.refl _ w).alloc (Nat.le_refl _) _), hL.below ((Below.refl _ w).alloc (Nat.le_refl _) _)⟩
  have HPreD : Hid (GOK (w.alloc (.cells #[.map (some b0), .map (some bl)] 93)).drew ∧ LexSt (w.alloc (.cells #[.map (some b0), .map (some bl)] 93)).drew bl c) := ⟨hG.below ((Below.refl _ w).alloc (Nat.le_refl _) _).drew, hL.below ((Below.refl _ w).alloc (Nat.le_refl _) _).drew⟩
  have HK : Hid (∀ X : World, Hid (GOK X ∧ LexSt X bl c) → Calls Tryz.prog 133 #[.map (some bl), .string s] X fun e W' => e = .returned (.int .i64 kd) ∧ But bl X W' ∧ LexSt W' bl (c + 1)) := fun X hX => by
    have := kind_c s hs bl c hc X hX.out.1 hX.out.2
    rw [hkd] at this
    exact this
  have hS0 : (w.alloc (.cells #[.map (some b0), .map (some bl)] 93)).cell? ⟨w.heap.size, 1, none⟩ = some (.map (some bl)) ∧ (w.alloc (.cells #[.map (some b0), .map (some bl)] 93)).cell? ⟨g, off + 1, none⟩ = some (.string s) := ⟨(Blk.new w _ _).cell 1 _ rfl, (((Below.refl _ w).alloc (Nat.le_refl _) _).cell (p := ⟨g, off + 1, none⟩) hg).trans h1⟩
  have HS0 : Hid ((w.alloc (.cells #[.map (some b0), .map (some bl)] 93)).cell? ⟨w.heap.size, 1, none⟩ = some (.map (some bl)) ∧ (w.alloc (.cells #[.map (some b0), .map (some bl)] 93)).cell? ⟨g, off + 1, none⟩ = some (.string s)) := hS0
  have HS0d : Hid ((w.alloc (.cells #[.map (some b0), .map (some bl)] 93)).drew.cell? ⟨w.heap.size, 1, none⟩ = some (.map (some bl)) ∧ (w.alloc (.cells #[.map (some b0), .map (some bl)] 93)).drew.cell? ⟨g, off + 1, none⟩ = some (.string s)) := hS0
  have HS2 : Hid (∀ X : World, But bl (w.alloc (.cells #[.map (some b0), .map (some bl)] 93)) X → X.cell? ⟨w.heap.size, 1, none⟩ = some (.map (some bl)) ∧ X.cell? ⟨g, off + 1, none⟩ = some (.string s)) := fun X hX => ⟨(hX.cell w.heap.size 1 (by simp) (by have := hL.lt; omega)).trans hS0.1, (hX.cell g (off + 1) (by simp; omega) hgb).trans hS0.2⟩
  have HBt : Hid (But bl w (w.alloc (.cells #[.map (some b0), .map (some bl)] 93))) := but_below ((Below.refl _ w).alloc (Nat.le_refl _) _) bl
  have hbd : Hid (∀ X : World, But bl (w.alloc (.cells #[.map (some b0), .map (some bl)] 93)).drew X → But bl (w.alloc (.cells #[.map (some b0), .map (some bl)] 93)) X) := fun X hX => ⟨hX.os, hX.tape, hX.output, hX.size, hX.block⟩
  have H3 : Hid (∀ X : World, But bl w X → X.cell? ⟨g, off + 3, none⟩ = some (.slice o len cap)) := fun X hX => (hX.cell g (off + 3) hg hgb).trans h3
  have hgl : Hid (bl < w.heap.size) := hL.lt
  clear hG hL hS0 hs hc hkd h1 h3
  go_enter Tryz.func81, Tryz.ntmps81
  go_wp2
  go_region_held3 (fun X : World => X.cell? ⟨w.heap.size, 1, none⟩ = some (.map (some bl)) ∧ X.cell? ⟨g, off + 1, none⟩ = some (.string s))
    (first
      | with_reducible exact HS0.out
      | with_reducible exact HS0d.out
      | with_reducible exact hS2)
    (first
      | (go_at_call 133; refine (HK.out _ (by first | with_reducible exact HPreD | with_reducible exact HPre)).mono ?_; rintro e w2 ⟨rfl, hb2, hl2⟩; have hb3 : But bl (w.alloc (.cells #[.map (some b0), .map (some bl)] 93)) w2 := (by first | with_reducible exact hbd.out _ hb2 | with_reducible exact hb2); have HB3 : Hid (But bl w w2) := HBt.out.trans hb3; have hS2 := HS2.out _ hb3; have HL2 : Hid (LexSt w2 bl (c + 1)) := hl2; clear hb2 hl2 hb3))
  all_goals go_wp2
  all_goals go_ret
  all_goals exact ⟨by rw [HR.out]; rfl, HB3.out, HL2.out⟩
set_option maxRecDepth 100000 in
set_option maxHeartbeats 4000000 in
theorem nf34_c (s : ByteArray) (hs : s.size ≤ 9223372036854775807) (o : Option Addr) (len cap g off b0 bl c : Nat) (hc : c ≤ 4611686018427387904) (w : World) (hG : GOK w) (hL : LexSt w bl c) (h0 : w.cell? ⟨g, off, none⟩ = some (.int .i64 34)) (h1 : w.cell? ⟨g, off + 1, none⟩ = some (.string s)) (h3 : w.cell? ⟨g, off + 3, none⟩ = some (.slice o len cap)) (hg : g < w.heap.size) (hgb : g ≠ bl) :
    Calls Tryz.prog 81 #[.agg #[.map (some b0), .map (some bl)], .pointer (some ⟨g, off, none⟩)] w fun e W' => e = .returned (.bool (nameM 34 s len)) ∧ But bl w W' ∧ LexSt W' bl (c + 1) := by
  have hdep : Tryz.prog.follows Departure.mixedOrders = true := by kernel_rfl
  obtain ⟨kd, hkd⟩ : ∃ kd, lkM s = kd := ⟨_, rfl⟩
  have HR : Hid (nameM 34 s len = (kd == 1)) := by show _ = _; rw [← hkd]; rfl
  have HPre : Hid (GOK (w.alloc (.cells #[.map (some b0), .map (some bl)] 93)) ∧ LexSt (w.alloc (.cells #[.map (some b0), .map (some bl)] 93)) bl c) := ⟨hG.below ((Below.refl _ w).alloc (Nat.le_refl _) _), hL.below ((Below.refl _ w).alloc (Nat.le_refl _) _)⟩
  have HPreD : Hid (GOK (w.alloc (.cells #[.map (some b0), .map (some bl)] 93)).drew ∧ LexSt (w.alloc (.cells #[.map (some b0), .map (some bl)] 93)).drew bl c) := ⟨hG.below ((Below.refl _ w).alloc (Nat.le_refl _) _).drew, hL.below ((Below.refl _ w).alloc (Nat.le_refl _) _).drew⟩
  have HK : Hid (∀ X : World, Hid (GOK X ∧ LexSt X bl c) → Calls Tryz.prog 133 #[.map (some bl), .string s] X fun e W' => e = .returned (.int .i64 kd) ∧ But bl X W' ∧ LexSt W' bl (c + 1)) := fun X hX => by
    have := kind_c s hs bl c hc X hX.out.1 hX.out.2
    rw [hkd] at this
    exact this
  have hS0 : (w.alloc (.cells #[.map (some b0), .map (some bl)] 93)).cell? ⟨w.heap.size, 1, none⟩ = some (.map (some bl)) ∧ (w.alloc (.cells #[.map (some b0), .map (some bl)] 93)).cell? ⟨g, off + 1, none⟩ = some (.string s) := ⟨(Blk.new w _ _).cell 1 _ rfl, (((Below.refl _ w).alloc (Nat.le_refl _) _).cell (p := ⟨g, off + 1, none⟩) hg).trans h1⟩
  have HS0 : Hid ((w.alloc (.cells #[.map (some b0), .map (some bl)] 93)).cell? ⟨w.heap.size, 1, none⟩ = some (.map (some bl)) ∧ (w.alloc (.cells #[.map (some b0), .map (some bl)] 93)).cell? ⟨g, off + 1, none⟩ = some (.string s)) := hS0
  have HS0d : Hid ((w.alloc (.cells #[.map (some b0), .map (some bl)] 93)).drew.cell? ⟨w.heap.size, 1, none⟩ = some (.map (some bl)) ∧ (w.alloc (.cells #[.map (some b0), .map (some bl)] 93)).drew.cell? ⟨g, off + 1, none⟩ = some (.string s)) := hS0
  have HS2 : Hid (∀ X : World, But bl (w.alloc (.cells #[.map (some b0), .map (some bl)] 93)) X → X.cell? ⟨w.heap.size, 1, none⟩ = some (.map (some bl)) ∧ X.cell? ⟨g, off + 1, none⟩ = some (.string s)) := fun X hX => ⟨(hX.cell w.heap.size 1 (by simp) (by have := hL.lt; omega)).trans hS0.1, (hX.cell g (off + 1) (by simp; omega) hgb).trans hS0.2⟩
  have HBt : Hid (But bl w (w.alloc (.cells #[.map (some b0), .map (some bl)] 93))) := but_below ((Below.refl _ w).alloc (Nat.le_refl _) _) bl
  have hbd : Hid (∀ X : World, But bl (w.alloc (.cells #[.map (some b0), .map (some bl)] 93)).drew X → But bl (w.alloc (.cells #[.map (some b0), .map (some bl)] 93)) X) := fun X hX => ⟨hX.os, hX.tape, hX.output, hX.size, hX.block⟩
  have H3 : Hid (∀ X : World, But bl w X → X.cell? ⟨g, off + 3, none⟩ = some (.slice o len cap)) := fun X hX => (hX.cell g (off + 3) hg hgb).trans h3
  have hgl : Hid (bl < w.heap.size) := hL.lt
  clear hG hL hS0 hs hc hkd h1 h3
  go_enter Tryz.func81, Tryz.ntmps81
  go_wp2
  go_region_held3 (fun X : World => X.cell? ⟨w.heap.size, 1, none⟩ = some (.map (some bl)) ∧ X.cell? ⟨g, off + 1, none⟩ = some (.string s))
    (first
      | with_reducible exact HS0.out
      | with_reducible exact HS0d.out
      | with_reducible exact hS2)
    (first
      | (go_at_call 133; refine (HK.out _ (by first | with_reducible exact HPreD | with_reducible exact HPre)).mono ?_; rintro e w2 ⟨rfl, hb2, hl2⟩; have hb3 : But bl (w.alloc (.cells #[.map (some b0), .map (some bl)] 93)) w2 := (by first | with_reducible exact hbd.out _ hb2 | with_reducible exact hb2); have HB3 : Hid (But bl w w2) := HBt.out.trans hb3; have hS2 := HS2.out _ hb3; have HL2 : Hid (LexSt w2 bl (c + 1)) := hl2; clear hb2 hl2 hb3))
  all_goals go_wp2
  all_goals go_ret
  all_goals exact ⟨by rw [HR.out]; rfl, HB3.out, HL2.out⟩
set_option maxRecDepth 100000 in
set_option maxHeartbeats 4000000 in
theorem nf42_c (s : ByteArray) (hs : s.size ≤ 9223372036854775807) (o : Option Addr) (len cap g off b0 bl c : Nat) (hc : c ≤ 4611686018427387904) (w : World) (hG : GOK w) (hL : LexSt w bl c) (h0 : w.cell? ⟨g, off, none⟩ = some (.int .i64 42)) (h1 : w.cell? ⟨g, off + 1, none⟩ = some (.string s)) (h3 : w.cell? ⟨g, off + 3, none⟩ = some (.slice o len cap)) (hg : g < w.heap.size) (hgb : g ≠ bl) :
    Calls Tryz.prog 81 #[.agg #[.map (some b0), .map (some bl)], .pointer (some ⟨g, off, none⟩)] w fun e W' => e = .returned (.bool (nameM 42 s len)) ∧ But bl w W' ∧ LexSt W' bl (c + 1) := by
  have hdep : Tryz.prog.follows Departure.mixedOrders = true := by kernel_rfl
  obtain ⟨kd, hkd⟩ : ∃ kd, lkM s = kd := ⟨_, rfl⟩
  have HR : Hid (nameM 42 s len = (kd == 1)) := by show _ = _; rw [← hkd]; rfl
  have HPre : Hid (GOK (w.alloc (.cells #[.map (some b0), .map (some bl)] 93)) ∧ LexSt (w.alloc (.cells #[.map (some b0), .map (some bl)] 93)) bl c) := ⟨hG.below ((Below.refl _ w).alloc (Nat.le_refl _) _), hL.below ((Below.refl _ w).alloc (Nat.le_refl _) _)⟩
  have HPreD : Hid (GOK (w.alloc (.cells #[.map (some b0), .map (some bl)] 93)).drew ∧ LexSt (w.alloc (.cells #[.map (some b0), .map (some bl)] 93)).drew bl c) := ⟨hG.below ((Below.refl _ w).alloc (Nat.le_refl _) _).drew, hL.below ((Below.refl _ w).alloc (Nat.le_refl _) _).drew⟩
  have HK : Hid (∀ X : World, Hid (GOK X ∧ LexSt X bl c) → Calls Tryz.prog 133 #[.map (some bl), .string s] X fun e W' => e = .returned (.int .i64 kd) ∧ But bl X W' ∧ LexSt W' bl (c + 1)) := fun X hX => by
    have := kind_c s hs bl c hc X hX.out.1 hX.out.2
    rw [hkd] at this
    exact this
  have hS0 : (w.alloc (.cells #[.map (some b0), .map (some bl)] 93)).cell? ⟨w.heap.size, 1, none⟩ = some (.map (some bl)) ∧ (w.alloc (.cells #[.map (some b0), .map (some bl)] 93)).cell? ⟨g, off + 1, none⟩ = some (.string s) := ⟨(Blk.new w _ _).cell 1 _ rfl, (((Below.refl _ w).alloc (Nat.le_refl _) _).cell (p := ⟨g, off + 1, none⟩) hg).trans h1⟩
  have HS0 : Hid ((w.alloc (.cells #[.map (some b0), .map (some bl)] 93)).cell? ⟨w.heap.size, 1, none⟩ = some (.map (some bl)) ∧ (w.alloc (.cells #[.map (some b0), .map (some bl)] 93)).cell? ⟨g, off + 1, none⟩ = some (.string s)) := hS0
  have HS0d : Hid ((w.alloc (.cells #[.map (some b0), .map (some bl)] 93)).drew.cell? ⟨w.heap.size, 1, none⟩ = some (.map (some bl)) ∧ (w.alloc (.cells #[.map (some b0), .map (some bl)] 93)).drew.cell? ⟨g, off + 1, none⟩ = some (.string s)) := hS0
  have HS2 : Hid (∀ X : World, But bl (w.alloc (.cells #[.map (some b0), .map (some bl)] 93)) X → X.cell? ⟨w.heap.size, 1, none⟩ = some (.map (some bl)) ∧ X.cell? ⟨g, off + 1, none⟩ = some (.string s)) := fun X hX => ⟨(hX.cell w.heap.size 1 (by simp) (by have := hL.lt; omega)).trans hS0.1, (hX.cell g (off + 1) (by simp; omega) hgb).trans hS0.2⟩
  have HBt : Hid (But bl w (w.alloc (.cells #[.map (some b0), .map (some bl)] 93))) := but_below ((Below.refl _ w).alloc (Nat.le_refl _) _) bl
  have hbd : Hid (∀ X : World, But bl (w.alloc (.cells #[.map (some b0), .map (some bl)] 93)).drew X → But bl (w.alloc (.cells #[.map (some b0), .map (some bl)] 93)) X) := fun X hX => ⟨hX.os, hX.tape, hX.output, hX.size, hX.block⟩
  have H3 : Hid (∀ X : World, But bl w X → X.cell? ⟨g, off + 3, none⟩ = some (.slice o len cap)) := fun X hX => (hX.cell g (off + 3) hg hgb).trans h3
  have hgl : Hid (bl < w.heap.size) := hL.lt
  clear hG hL hS0 hs hc hkd h1 h3
  go_enter Tryz.func81, Tryz.ntmps81
  go_wp2
  go_region_held3 (fun X : World => X.cell? ⟨w.heap.size, 1, none⟩ = some (.map (some bl)) ∧ X.cell? ⟨g, off + 1, none⟩ = some (.string s))
    (first
      | with_reducible exact HS0.out
      | with_reducible exact HS0d.out
      | with_reducible exact hS2)
    (first
      | (go_at_call 133; refine (HK.out _ (by first | with_reducible exact HPreD | with_reducible exact HPre)).mono ?_; rintro e w2 ⟨rfl, hb2, hl2⟩; have hb3 : But bl (w.alloc (.cells #[.map (some b0), .map (some bl)] 93)) w2 := (by first | with_reducible exact hbd.out _ hb2 | with_reducible exact hb2); have HB3 : Hid (But bl w w2) := HBt.out.trans hb3; have hS2 := HS2.out _ hb3; have HL2 : Hid (LexSt w2 bl (c + 1)) := hl2; clear hb2 hl2 hb3))
  all_goals go_wp2
  all_goals go_ret
  all_goals exact ⟨by rw [HR.out]; rfl, HB3.out, HL2.out⟩
set_option maxRecDepth 100000 in
set_option maxHeartbeats 4000000 in
theorem nf11_c (s : ByteArray) (hs : s.size ≤ 9223372036854775807) (o : Option Addr) (len cap g off b0 bl c : Nat) (hc : c ≤ 4611686018427387904) (w : World) (hG : GOK w) (hL : LexSt w bl c) (h0 : w.cell? ⟨g, off, none⟩ = some (.int .i64 11)) (h1 : w.cell? ⟨g, off + 1, none⟩ = some (.string s)) (h3 : w.cell? ⟨g, off + 3, none⟩ = some (.slice o len cap)) (hg : g < w.heap.size) (hgb : g ≠ bl) :
    Calls Tryz.prog 81 #[.agg #[.map (some b0), .map (some bl)], .pointer (some ⟨g, off, none⟩)] w fun e W' => e = .returned (.bool (nameM 11 s len)) ∧ But bl w W' ∧ LexSt W' bl (c + 1) := by
  have hdep : Tryz.prog.follows Departure.mixedOrders = true := by kernel_rfl
  obtain ⟨kd, hkd⟩ : ∃ kd, lkM s = kd := ⟨_, rfl⟩
  have HR : Hid (nameM 11 s len = isVarB kd) := by show _ = _; rw [← hkd]; rfl
  have HV : Hid (∀ X : World, Calls Tryz.prog 134 #[.int .i64 kd] X fun e w' => e = .returned (.bool (isVarB kd)) ∧ w' = X) := fun X => isVar_c kd X
  have HPre : Hid (GOK (w.alloc (.cells #[.map (some b0), .map (some bl)] 93)) ∧ LexSt (w.alloc (.cells #[.map (some b0), .map (some bl)] 93)) bl c) := ⟨hG.below ((Below.refl _ w).alloc (Nat.le_refl _) _), hL.below ((Below.refl _ w).alloc (Nat.le_refl _) _)⟩
  have HPreD : Hid (GOK (w.alloc (.cells #[.map (some b0), .map (some bl)] 93)).drew ∧ LexSt (w.alloc (.cells #[.map (some b0), .map (some bl)] 93)).drew bl c) := ⟨hG.below ((Below.refl _ w).alloc (Nat.le_refl _) _).drew, hL.below ((Below.refl _ w).alloc (Nat.le_refl _) _).drew⟩
  have HK : Hid (∀ X : World, Hid (GOK X ∧ LexSt X bl c) → Calls Tryz.prog 133 #[.map (some bl), .string s] X fun e W' => e = .returned (.int .i64 kd) ∧ But bl X W' ∧ LexSt W' bl (c + 1)) := fun X hX => by
    have := kind_c s hs bl c hc X hX.out.1 hX.out.2
    rw [hkd] at this
    exact this
  have hS0 : (w.alloc (.cells #[.map (some b0), .map (some bl)] 93)).cell? ⟨w.heap.size, 1, none⟩ = some (.map (some bl)) ∧ (w.alloc (.cells #[.map (some b0), .map (some bl)] 93)).cell? ⟨g, off + 1, none⟩ = some (.string s) := ⟨(Blk.new w _ _).cell 1 _ rfl, (((Below.refl _ w).alloc (Nat.le_refl _) _).cell (p := ⟨g, off + 1, none⟩) hg).trans h1⟩
  have HS0 : Hid ((w.alloc (.cells #[.map (some b0), .map (some bl)] 93)).cell? ⟨w.heap.size, 1, none⟩ = some (.map (some bl)) ∧ (w.alloc (.cells #[.map (some b0), .map (some bl)] 93)).cell? ⟨g, off + 1, none⟩ = some (.string s)) := hS0
  have HS0d : Hid ((w.alloc (.cells #[.map (some b0), .map (some bl)] 93)).drew.cell? ⟨w.heap.size, 1, none⟩ = some (.map (some bl)) ∧ (w.alloc (.cells #[.map (some b0), .map (some bl)] 93)).drew.cell? ⟨g, off + 1, none⟩ = some (.string s)) := hS0
  have HS2 : Hid (∀ X : World, But bl (w.alloc (.cells #[.map (some b0), .map (some bl)] 93)) X → X.cell? ⟨w.heap.size, 1, none⟩ = some (.map (some bl)) ∧ X.cell? ⟨g, off + 1, none⟩ = some (.string s)) := fun X hX => ⟨(hX.cell w.heap.size 1 (by simp) (by have := hL.lt; omega)).trans hS0.1, (hX.cell g (off + 1) (by simp; omega) hgb).trans hS0.2⟩
  have HBt : Hid (But bl w (w.alloc (.cells #[.map (some b0), .map (some bl)] 93))) := but_below ((Below.refl _ w).alloc (Nat.le_refl _) _) bl
  have hbd : Hid (∀ X : World, But bl (w.alloc (.cells #[.map (some b0), .map (some bl)] 93)).drew X → But bl (w.alloc (.cells #[.map (some b0), .map (some bl)] 93)) X) := fun X hX => ⟨hX.os, hX.tape, hX.output, hX.size, hX.block⟩
  have H3 : Hid (∀ X : World, But bl w X → X.cell? ⟨g, off + 3, none⟩ = some (.slice o len cap)) := fun X hX => (hX.cell g (off + 3) hg hgb).trans h3
  have hgl : Hid (bl < w.heap.size) := hL.lt
  clear hG hL hS0 hs hc hkd h1 h3
  go_enter Tryz.func81, Tryz.ntmps81
  go_wp2
  go_region_held3 (fun X : World => X.cell? ⟨w.heap.size, 1, none⟩ = some (.map (some bl)) ∧ X.cell? ⟨g, off + 1, none⟩ = some (.string s))
    (first
      | with_reducible exact HS0.out
      | with_reducible exact HS0d.out
      | with_reducible exact hS2)
    (first
      | (go_at_call 133; refine (HK.out _ (by first | with_reducible exact HPreD | with_reducible exact HPre)).mono ?_; rintro e w2 ⟨rfl, hb2, hl2⟩; have hb3 : But bl (w.alloc (.cells #[.map (some b0), .map (some bl)] 93)) w2 := (by first | with_reducible exact hbd.out _ hb2 | with_reducible exact hb2); have HB3 : Hid (But bl w w2) := HBt.out.trans hb3; have hS2 := HS2.out _ hb3; have HL2 : Hid (LexSt w2 bl (c + 1)) := hl2; clear hb2 hl2 hb3)
      | (go_at_call 134; refine (HV.out _).mono ?_; rintro e w3 ⟨rfl, rfl⟩))
  all_goals go_wp2
  all_goals go_ret
  all_goals exact ⟨by rw [HR.out]; rfl, HB3.out, HL2.out⟩
set_option maxRecDepth 100000 in
set_option maxHeartbeats 4000000 in
theorem nf6_c (s : ByteArray) (hs : s.size ≤ 9223372036854775807) (o : Option Addr) (len cap g off b0 bl c : Nat) (hc : c ≤ 4611686018427387904) (w : World) (hG : GOK w) (hL : LexSt w bl c) (h0 : w.cell? ⟨g, off, none⟩ = some (.int .i64 6)) (h1 : w.cell? ⟨g, off + 1, none⟩ = some (.string s)) (h3 : w.cell? ⟨g, off + 3, none⟩ = some (.slice o len cap)) (hg : g < w.heap.size) (hgb : g ≠ bl) :
    Calls Tryz.prog 81 #[.agg #[.map (some b0), .map (some bl)], .pointer (some ⟨g, off, none⟩)] w fun e W' => e = .returned (.bool (nameM 6 s len)) ∧ But bl w W' ∧ LexSt W' bl (c + 1) := by
  have hdep : Tryz.prog.follows Departure.mixedOrders = true := by kernel_rfl
  obtain ⟨kd, hkd⟩ : ∃ kd, lkM s = kd := ⟨_, rfl⟩
  have HR : Hid (nameM 6 s len = isVarB kd) := by show _ = _; rw [← hkd]; rfl
  have HV : Hid (∀ X : World, Calls Tryz.prog 134 #[.int .i64 kd] X fun e w' => e = .returned (.bool (isVarB kd)) ∧ w' = X) := fun X => isVar_c kd X
  have HPre : Hid (GOK (w.alloc (.cells #[.map (some b0), .map (some bl)] 93)) ∧ LexSt (w.alloc (.cells #[.map (some b0), .map (some bl)] 93)) bl c) := ⟨hG.below ((Below.refl _ w).alloc (Nat.le_refl _) _), hL.below ((Below.refl _ w).alloc (Nat.le_refl _) _)⟩
  have HPreD : Hid (GOK (w.alloc (.cells #[.map (some b0), .map (some bl)] 93)).drew ∧ LexSt (w.alloc (.cells #[.map (some b0), .map (some bl)] 93)).drew bl c) := ⟨hG.below ((Below.refl _ w).alloc (Nat.le_refl _) _).drew, hL.below ((Below.refl _ w).alloc (Nat.le_refl _) _).drew⟩
  have HK : Hid (∀ X : World, Hid (GOK X ∧ LexSt X bl c) → Calls Tryz.prog 133 #[.map (some bl), .string s] X fun e W' => e = .returned (.int .i64 kd) ∧ But bl X W' ∧ LexSt W' bl (c + 1)) := fun X hX => by
    have := kind_c s hs bl c hc X hX.out.1 hX.out.2
    rw [hkd] at this
    exact this
  have hS0 : (w.alloc (.cells #[.map (some b0), .map (some bl)] 93)).cell? ⟨w.heap.size, 1, none⟩ = some (.map (some bl)) ∧ (w.alloc (.cells #[.map (some b0), .map (some bl)] 93)).cell? ⟨g, off + 1, none⟩ = some (.string s) := ⟨(Blk.new w _ _).cell 1 _ rfl, (((Below.refl _ w).alloc (Nat.le_refl _) _).cell (p := ⟨g, off + 1, none⟩) hg).trans h1⟩
  have HS0 : Hid ((w.alloc (.cells #[.map (some b0), .map (some bl)] 93)).cell? ⟨w.heap.size, 1, none⟩ = some (.map (some bl)) ∧ (w.alloc (.cells #[.map (some b0), .map (some bl)] 93)).cell? ⟨g, off + 1, none⟩ = some (.string s)) := hS0
  have HS0d : Hid ((w.alloc (.cells #[.map (some b0), .map (some bl)] 93)).drew.cell? ⟨w.heap.size, 1, none⟩ = some (.map (some bl)) ∧ (w.alloc (.cells #[.map (some b0), .map (some bl)] 93)).drew.cell? ⟨g, off + 1, none⟩ = some (.string s)) := hS0
  have HS2 : Hid (∀ X : World, But bl (w.alloc (.cells #[.map (some b0), .map (some bl)] 93)) X → X.cell? ⟨w.heap.size, 1, none⟩ = some (.map (some bl)) ∧ X.cell? ⟨g, off + 1, none⟩ = some (.string s)) := fun X hX => ⟨(hX.cell w.heap.size 1 (by simp) (by have := hL.lt; omega)).trans hS0.1, (hX.cell g (off + 1) (by simp; omega) hgb).trans hS0.2⟩
  have HBt : Hid (But bl w (w.alloc (.cells #[.map (some b0), .map (some bl)] 93))) := but_below ((Below.refl _ w).alloc (Nat.le_refl _) _) bl
  have hbd : Hid (∀ X : World, But bl (w.alloc (.cells #[.map (some b0), .map (some bl)] 93)).drew X → But bl (w.alloc (.cells #[.map (some b0), .map (some bl)] 93)) X) := fun X hX => ⟨hX.os, hX.tape, hX.output, hX.size, hX.block⟩
  have H3 : Hid (∀ X : World, But bl w X → X.cell? ⟨g, off + 3, none⟩ = some (.slice o len cap)) := fun X hX => (hX.cell g (off + 3) hg hgb).trans h3
  have hgl : Hid (bl < w.heap.size) := hL.lt
  clear hG hL hS0 hs hc hkd h1 h3
  go_enter Tryz.func81, Tryz.ntmps81
  go_wp2
  go_region_held3 (fun X : World => X.cell? ⟨w.heap.size, 1, none⟩ = some (.map (some bl)) ∧ X.cell? ⟨g, off + 1, none⟩ = some (.string s))
    (first
      | with_reducible exact HS0.out
      | with_reducible exact HS0d.out
      | with_reducible exact hS2)
    (first
      | (go_at_call 133; refine (HK.out _ (by first | with_reducible exact HPreD | with_reducible exact HPre)).mono ?_; rintro e w2 ⟨rfl, hb2, hl2⟩; have hb3 : But bl (w.alloc (.cells #[.map (some b0), .map (some bl)] 93)) w2 := (by first | with_reducible exact hbd.out _ hb2 | with_reducible exact hb2); have HB3 : Hid (But bl w w2) := HBt.out.trans hb3; have hS2 := HS2.out _ hb3; have HL2 : Hid (LexSt w2 bl (c + 1)) := hl2; clear hb2 hl2 hb3)
      | (go_at_call 134; refine (HV.out _).mono ?_; rintro e w3 ⟨rfl, rfl⟩))
  all_goals go_wp2
  all_goals go_ret
  all_goals exact ⟨by rw [HR.out]; rfl, HB3.out, HL2.out⟩
set_option maxRecDepth 100000 in
set_option maxHeartbeats 4000000 in
theorem nf12_c (s : ByteArray) (hs : s.size ≤ 9223372036854775807) (o : Option Addr) (len cap g off b0 bl c : Nat) (hc : c ≤ 4611686018427387904) (w : World) (hG : GOK w) (hL : LexSt w bl c) (h0 : w.cell? ⟨g, off, none⟩ = some (.int .i64 12)) (h1 : w.cell? ⟨g, off + 1, none⟩ = some (.string s)) (h3 : w.cell? ⟨g, off + 3, none⟩ = some (.slice o len cap)) (hg : g < w.heap.size) (hgb : g ≠ bl) :
    Calls Tryz.prog 81 #[.agg #[.map (some b0), .map (some bl)], .pointer (some ⟨g, off, none⟩)] w fun e W' => e = .returned (.bool (nameM 12 s len)) ∧ But bl w W' ∧ LexSt W' bl (c + 1) := by
  have hdep : Tryz.prog.follows Departure.mixedOrders = true := by kernel_rfl
  obtain ⟨kd, hkd⟩ : ∃ kd, lkM s = kd := ⟨_, rfl⟩
  have HR : Hid (nameM 12 s len = isConB kd) := by show _ = _; rw [← hkd]; rfl
  have HV : Hid (∀ X : World, Calls Tryz.prog 135 #[.int .i64 kd] X fun e w' => e = .returned (.bool (isConB kd)) ∧ w' = X) := fun X => isCon_c kd X
  have HPre : Hid (GOK (w.alloc (.cells #[.map (some b0), .map (some bl)] 93)) ∧ LexSt (w.alloc (.cells #[.map (some b0), .map (some bl)] 93)) bl c) := ⟨hG.below ((Below.refl _ w).alloc (Nat.le_refl _) _), hL.below ((Below.refl _ w).alloc (Nat.le_refl _) _)⟩
  have HPreD : Hid (GOK (w.alloc (.cells #[.map (some b0), .map (some bl)] 93)).drew ∧ LexSt (w.alloc (.cells #[.map (some b0), .map (some bl)] 93)).drew bl c) := ⟨hG.below ((Below.refl _ w).alloc (Nat.le_refl _) _).drew, hL.below ((Below.refl _ w).alloc (Nat.le_refl _) _).drew⟩
  have HK : Hid (∀ X : World, Hid (GOK X ∧ LexSt X bl c) → Calls Tryz.prog 133 #[.map (some bl), .string s] X fun e W' => e = .returned (.int .i64 kd) ∧ But bl X W' ∧ LexSt W' bl (c + 1)) := fun X hX => by
    have := kind_c s hs bl c hc X hX.out.1 hX.out.2
    rw [hkd] at this
    exact this
  have hS0 : (w.alloc (.cells #[.map (some b0), .map (some bl)] 93)).cell? ⟨w.heap.size, 1, none⟩ = some (.map (some bl)) ∧ (w.alloc (.cells #[.map (some b0), .map (some bl)] 93)).cell? ⟨g, off + 1, none⟩ = some (.string s) := ⟨(Blk.new w _ _).cell 1 _ rfl, (((Below.refl _ w).alloc (Nat.le_refl _) _).cell (p := ⟨g, off + 1, none⟩) hg).trans h1⟩
  have HS0 : Hid ((w.alloc (.cells #[.map (some b0), .map (some bl)] 93)).cell? ⟨w.heap.size, 1, none⟩ = some (.map (some bl)) ∧ (w.alloc (.cells #[.map (some b0), .map (some bl)] 93)).cell? ⟨g, off + 1, none⟩ = some (.string s)) := hS0
  have HS0d : Hid ((w.alloc (.cells #[.map (some b0), .map (some bl)] 93)).drew.cell? ⟨w.heap.size, 1, none⟩ = some (.map (some bl)) ∧ (w.alloc (.cells #[.map (some b0), .map (some bl)] 93)).drew.cell? ⟨g, off + 1, none⟩ = some (.string s)) := hS0
  have HS2 : Hid (∀ X : World, But bl (w.alloc (.cells #[.map (some b0), .map (some bl)] 93)) X → X.cell? ⟨w.heap.size, 1, none⟩ = some (.map (some bl)) ∧ X.cell? ⟨g, off + 1, none⟩ = some (.string s)) := fun X hX => ⟨(hX.cell w.heap.size 1 (by simp) (by have := hL.lt; omega)).trans hS0.1, (hX.cell g (off + 1) (by simp; omega) hgb).trans hS0.2⟩
  have HBt : Hid (But bl w (w.alloc (.cells #[.map (some b0), .map (some bl)] 93))) := but_below ((Below.refl _ w).alloc (Nat.le_refl _) _) bl
  have hbd : Hid (∀ X : World, But bl (w.alloc (.cells #[.map (some b0), .map (some bl)] 93)).drew X → But bl (w.alloc (.cells #[.map (some b0), .map (some bl)] 93)) X) := fun X hX => ⟨hX.os, hX.tape, hX.output, hX.size, hX.block⟩
  have H3 : Hid (∀ X : World, But bl w X → X.cell? ⟨g, off + 3, none⟩ = some (.slice o len cap)) := fun X hX => (hX.cell g (off + 3) hg hgb).trans h3
  have hgl : Hid (bl < w.heap.size) := hL.lt
  clear hG hL hS0 hs hc hkd h1 h3
  go_enter Tryz.func81, Tryz.ntmps81
  go_wp2
  go_region_held3 (fun X : World => X.cell? ⟨w.heap.size, 1, none⟩ = some (.map (some bl)) ∧ X.cell? ⟨g, off + 1, none⟩ = some (.string s))
    (first
      | with_reducible exact HS0.out
      | with_reducible exact HS0d.out
      | with_reducible exact hS2)
    (first
      | (go_at_call 133; refine (HK.out _ (by first | with_reducible exact HPreD | with_reducible exact HPre)).mono ?_; rintro e w2 ⟨rfl, hb2, hl2⟩; have hb3 : But bl (w.alloc (.cells #[.map (some b0), .map (some bl)] 93)) w2 := (by first | with_reducible exact hbd.out _ hb2 | with_reducible exact hb2); have HB3 : Hid (But bl w w2) := HBt.out.trans hb3; have hS2 := HS2.out _ hb3; have HL2 : Hid (LexSt w2 bl (c + 1)) := hl2; clear hb2 hl2 hb3)
      | (go_at_call 135; refine (HV.out _).mono ?_; rintro e w3 ⟨rfl, rfl⟩))
  all_goals go_wp2
  all_goals go_ret
  all_goals exact ⟨by rw [HR.out]; rfl, HB3.out, HL2.out⟩
set_option maxRecDepth 100000 in
set_option maxHeartbeats 4000000 in
theorem nf5_c (s : ByteArray) (hs : s.size ≤ 9223372036854775807) (o : Option Addr) (len cap g off b0 bl c : Nat) (hc : c ≤ 4611686018427387904) (w : World) (hG : GOK w) (hL : LexSt w bl c) (h0 : w.cell? ⟨g, off, none⟩ = some (.int .i64 5)) (h1 : w.cell? ⟨g, off + 1, none⟩ = some (.string s)) (h3 : w.cell? ⟨g, off + 3, none⟩ = some (.slice o len cap)) (hg : g < w.heap.size) (hgb : g ≠ bl) :
    Calls Tryz.prog 81 #[.agg #[.map (some b0), .map (some bl)], .pointer (some ⟨g, off, none⟩)] w fun e W' => e = .returned (.bool (nameM 5 s len)) ∧ But bl w W' ∧ LexSt W' bl (c + 1) := by
  have hdep : Tryz.prog.follows Departure.mixedOrders = true := by kernel_rfl
  obtain ⟨kd, hkd⟩ : ∃ kd, lkM s = kd := ⟨_, rfl⟩
  have HR : Hid (nameM 5 s len = (isVarB kd || isConB kd)) := by show _ = _; rw [← hkd]; rfl
  have HV : Hid (∀ X : World, Calls Tryz.prog 134 #[.int .i64 kd] X fun e w' => e = .returned (.bool (isVarB kd)) ∧ w' = X) := fun X => isVar_c kd X
  have HC : Hid (∀ X : World, Calls Tryz.prog 135 #[.int .i64 kd] X fun e w' => e = .returned (.bool (isConB kd)) ∧ w' = X) := fun X => isCon_c kd X
  have HPre : Hid (GOK (w.alloc (.cells #[.map (some b0), .map (some bl)] 93)) ∧ LexSt (w.alloc (.cells #[.map (some b0), .map (some bl)] 93)) bl c) := ⟨hG.below ((Below.refl _ w).alloc (Nat.le_refl _) _), hL.below ((Below.refl _ w).alloc (Nat.le_refl _) _)⟩
  have HPreD : Hid (GOK (w.alloc (.cells #[.map (some b0), .map (some bl)] 93)).drew ∧ LexSt (w.alloc (.cells #[.map (some b0), .map (some bl)] 93)).drew bl c) := ⟨hG.below ((Below.refl _ w).alloc (Nat.le_refl _) _).drew, hL.below ((Below.refl _ w).alloc (Nat.le_refl _) _).drew⟩
  have HK : Hid (∀ X : World, Hid (GOK X ∧ LexSt X bl c) → Calls Tryz.prog 133 #[.map (some bl), .string s] X fun e W' => e = .returned (.int .i64 kd) ∧ But bl X W' ∧ LexSt W' bl (c + 1)) := fun X hX => by
    have := kind_c s hs bl c hc X hX.out.1 hX.out.2
    rw [hkd] at this
    exact this
  have hS0 : (w.alloc (.cells #[.map (some b0), .map (some bl)] 93)).cell? ⟨w.heap.size, 1, none⟩ = some (.map (some bl)) ∧ (w.alloc (.cells #[.map (some b0), .map (some bl)] 93)).cell? ⟨g, off + 1, none⟩ = some (.string s) := ⟨(Blk.new w _ _).cell 1 _ rfl, (((Below.refl _ w).alloc (Nat.le_refl _) _).cell (p := ⟨g, off + 1, none⟩) hg).trans h1⟩
  have HS0 : Hid ((w.alloc (.cells #[.map (some b0), .map (some bl)] 93)).cell? ⟨w.heap.size, 1, none⟩ = some (.map (some bl)) ∧ (w.alloc (.cells #[.map (some b0), .map (some bl)] 93)).cell? ⟨g, off + 1, none⟩ = some (.string s)) := hS0
  have HS0d : Hid ((w.alloc (.cells #[.map (some b0), .map (some bl)] 93)).drew.cell? ⟨w.heap.size, 1, none⟩ = some (.map (some bl)) ∧ (w.alloc (.cells #[.map (some b0), .map (some bl)] 93)).drew.cell? ⟨g, off + 1, none⟩ = some (.string s)) := hS0
  have HS2 : Hid (∀ X : World, But bl (w.alloc (.cells #[.map (some b0), .map (some bl)] 93)) X → X.cell? ⟨w.heap.size, 1, none⟩ = some (.map (some bl)) ∧ X.cell? ⟨g, off + 1, none⟩ = some (.string s)) := fun X hX => ⟨(hX.cell w.heap.size 1 (by simp) (by have := hL.lt; omega)).trans hS0.1, (hX.cell g (off + 1) (by simp; omega) hgb).trans hS0.2⟩
  have HBt : Hid (But bl w (w.alloc (.cells #[.map (some b0), .map (some bl)] 93))) := but_below ((Below.refl _ w).alloc (Nat.le_refl _) _) bl
  have hbd : Hid (∀ X : World, But bl (w.alloc (.cells #[.map (some b0), .map (some bl)] 93)).drew X → But bl (w.alloc (.cells #[.map (some b0), .map (some bl)] 93)) X) := fun X hX => ⟨hX.os, hX.tape, hX.output, hX.size, hX.block⟩
  have H3 : Hid (∀ X : World, But bl w X → X.cell? ⟨g, off + 3, none⟩ = some (.slice o len cap)) := fun X hX => (hX.cell g (off + 3) hg hgb).trans h3
  have hgl : Hid (bl < w.heap.size) := hL.lt
  clear hG hL hS0 hs hc hkd h1 h3
  go_enter Tryz.func81, Tryz.ntmps81
  go_wp2
  go_region_held3 (fun X : World => X.cell? ⟨w.heap.size, 1, none⟩ = some (.map (some bl)) ∧ X.cell? ⟨g, off + 1, none⟩ = some (.string s))
    (first
      | with_reducible exact HS0.out
      | with_reducible exact HS0d.out
      | with_reducible exact hS2)
    (first
      | (go_at_call 133; refine (HK.out _ (by first | with_reducible exact HPreD | with_reducible exact HPre)).mono ?_; rintro e w2 ⟨rfl, hb2, hl2⟩; have hb3 : But bl (w.alloc (.cells #[.map (some b0), .map (some bl)] 93)) w2 := (by first | with_reducible exact hbd.out _ hb2 | with_reducible exact hb2); have HB3 : Hid (But bl w w2) := HBt.out.trans hb3; have hS2 := HS2.out _ hb3; have HL2 : Hid (LexSt w2 bl (c + 1)) := hl2; clear hb2 hl2 hb3))
  generalize isVarB kd = bv at HR HV
  generalize isConB kd = bc at HR HC
  cases bv with
  | true =>
    go_wp2_with (go_at_call 134; refine (HV.out _).mono ?_; rintro e w3 ⟨rfl, rfl⟩)
    go_ret
    exact ⟨by rw [HR.out]; rfl, HB3.out, HL2.out⟩
  | false =>
    go_wp2_with (first | (go_at_call 134; refine (HV.out _).mono ?_; rintro e w3 ⟨rfl, rfl⟩) | (go_at_call 135; refine (HC.out _).mono ?_; rintro e w4 ⟨rfl, rfl⟩))
    go_ret
    exact ⟨by rw [HR.out]; rfl, HB3.out, HL2.out⟩
set_option maxRecDepth 100000 in
set_option maxHeartbeats 4000000 in
theorem nf28_c (s : ByteArray) (hs : s.size ≤ 9223372036854775807) (o : Option Addr) (len cap g off b0 bl c : Nat) (hc : c ≤ 4611686018427387904) (w : World) (hG : GOK w) (hL : LexSt w bl c) (h0 : w.cell? ⟨g, off, none⟩ = some (.int .i64 28)) (h1 : w.cell? ⟨g, off + 1, none⟩ = some (.string s)) (h3 : w.cell? ⟨g, off + 3, none⟩ = some (.slice o len cap)) (hg : g < w.heap.size) (hgb : g ≠ bl) :
    Calls Tryz.prog 81 #[.agg #[.map (some b0), .map (some bl)], .pointer (some ⟨g, off, none⟩)] w fun e W' => e = .returned (.bool (nameM 28 s len)) ∧ But bl w W' ∧ LexSt W' bl (c + 1) := by
  have hdep : Tryz.prog.follows Departure.mixedOrders = true := by kernel_rfl
  obtain ⟨kd, hkd⟩ : ∃ kd, lkM s = kd := ⟨_, rfl⟩
  have HR : Hid (nameM 28 s len = (isVarB kd || isConB kd)) := by show _ = _; rw [← hkd]; rfl
  have HV : Hid (∀ X : World, Calls Tryz.prog 134 #[.int .i64 kd] X fun e w' => e = .returned (.bool (isVarB kd)) ∧ w' = X) := fun X => isVar_c kd X
  have HC : Hid (∀ X : World, Calls Tryz.prog 135 #[.int .i64 kd] X fun e w' => e = .returned (.bool (isConB kd)) ∧ w' = X) := fun X => isCon_c kd X
  have HPre : Hid (GOK (w.alloc (.cells #[.map (some b0), .map (some bl)] 93)) ∧ LexSt (w.alloc (.cells #[.map (some b0), .map (some bl)] 93)) bl c) := ⟨hG.below ((Below.refl _ w).alloc (Nat.le_refl _) _), hL.below ((Below.refl _ w).alloc (Nat.le_refl _) _)⟩
  have HPreD : Hid (GOK (w.alloc (.cells #[.map (some b0), .map (some bl)] 93)).drew ∧ LexSt (w.alloc (.cells #[.map (some b0), .map (some bl)] 93)).drew bl c) := ⟨hG.below ((Below.refl _ w).alloc (Nat.le_refl _) _).drew, hL.below ((Below.refl _ w).alloc (Nat.le_refl _) _).drew⟩
  have HK : Hid (∀ X : World, Hid (GOK X ∧ LexSt X bl c) → Calls Tryz.prog 133 #[.map (some bl), .string s] X fun e W' => e = .returned (.int .i64 kd) ∧ But bl X W' ∧ LexSt W' bl (c + 1)) := fun X hX => by
    have := kind_c s hs bl c hc X hX.out.1 hX.out.2
    rw [hkd] at this
    exact this
  have hS0 : (w.alloc (.cells #[.map (some b0), .map (some bl)] 93)).cell? ⟨w.heap.size, 1, none⟩ = some (.map (some bl)) ∧ (w.alloc (.cells #[.map (some b0), .map (some bl)] 93)).cell? ⟨g, off + 1, none⟩ = some (.string s) := ⟨(Blk.new w _ _).cell 1 _ rfl, (((Below.refl _ w).alloc (Nat.le_refl _) _).cell (p := ⟨g, off + 1, none⟩) hg).trans h1⟩
  have HS0 : Hid ((w.alloc (.cells #[.map (some b0), .map (some bl)] 93)).cell? ⟨w.heap.size, 1, none⟩ = some (.map (some bl)) ∧ (w.alloc (.cells #[.map (some b0), .map (some bl)] 93)).cell? ⟨g, off + 1, none⟩ = some (.string s)) := hS0
  have HS0d : Hid ((w.alloc (.cells #[.map (some b0), .map (some bl)] 93)).drew.cell? ⟨w.heap.size, 1, none⟩ = some (.map (some bl)) ∧ (w.alloc (.cells #[.map (some b0), .map (some bl)] 93)).drew.cell? ⟨g, off + 1, none⟩ = some (.string s)) := hS0
  have HS2 : Hid (∀ X : World, But bl (w.alloc (.cells #[.map (some b0), .map (some bl)] 93)) X → X.cell? ⟨w.heap.size, 1, none⟩ = some (.map (some bl)) ∧ X.cell? ⟨g, off + 1, none⟩ = some (.string s)) := fun X hX => ⟨(hX.cell w.heap.size 1 (by simp) (by have := hL.lt; omega)).trans hS0.1, (hX.cell g (off + 1) (by simp; omega) hgb).trans hS0.2⟩
  have HBt : Hid (But bl w (w.alloc (.cells #[.map (some b0), .map (some bl)] 93))) := but_below ((Below.refl _ w).alloc (Nat.le_refl _) _) bl
  have hbd : Hid (∀ X : World, But bl (w.alloc (.cells #[.map (some b0), .map (some bl)] 93)).drew X → But bl (w.alloc (.cells #[.map (some b0), .map (some bl)] 93)) X) := fun X hX => ⟨hX.os, hX.tape, hX.output, hX.size, hX.block⟩
  have H3 : Hid (∀ X : World, But bl w X → X.cell? ⟨g, off + 3, none⟩ = some (.slice o len cap)) := fun X hX => (hX.cell g (off + 3) hg hgb).trans h3
  have hgl : Hid (bl < w.heap.size) := hL.lt
  clear hG hL hS0 hs hc hkd h1 h3
  go_enter Tryz.func81, Tryz.ntmps81
  go_wp2
  go_region_held3 (fun X : World => X.cell? ⟨w.heap.size, 1, none⟩ = some (.map (some bl)) ∧ X.cell? ⟨g, off + 1, none⟩ = some (.string s))
    (first
      | with_reducible exact HS0.out
      | with_reducible exact HS0d.out
      | with_reducible exact hS2)
    (first
      | (go_at_call 133; refine (HK.out _ (by first | with_reducible exact HPreD | with_reducible exact HPre)).mono ?_; rintro e w2 ⟨rfl, hb2, hl2⟩; have hb3 : But bl (w.alloc (.cells #[.map (some b0), .map (some bl)] 93)) w2 := (by first | with_reducible exact hbd.out _ hb2 | with_reducible exact hb2); have HB3 : Hid (But bl w w2) := HBt.out.trans hb3; have hS2 := HS2.out _ hb3; have HL2 : Hid (LexSt w2 bl (c + 1)) := hl2; clear hb2 hl2 hb3))
  generalize isVarB kd = bv at HR HV
  generalize isConB kd = bc at HR HC
  cases bv with
  | true =>
    go_wp2_with (go_at_call 134; refine (HV.out _).mono ?_; rintro e w3 ⟨rfl, rfl⟩)
    go_ret
    exact ⟨by rw [HR.out]; rfl, HB3.out, HL2.out⟩
  | false =>
    go_wp2_with (first | (go_at_call 134; refine (HV.out _).mono ?_; rintro e w3 ⟨rfl, rfl⟩) | (go_at_call 135; refine (HC.out _).mono ?_; rintro e w4 ⟨rfl, rfl⟩))
    go_ret
    exact ⟨by rw [HR.out]; rfl, HB3.out, HL2.out⟩
set_option maxRecDepth 100000 in
set_option maxHeartbeats 4000000 in
theorem nf29_c (s : ByteArray) (hs : s.size ≤ 9223372036854775807) (o : Option Addr) (len cap g off b0 bl c : Nat) (hc : c ≤ 4611686018427387904) (w : World) (hG : GOK w) (hL : LexSt w bl c) (h0 : w.cell? ⟨g, off, none⟩ = some (.int .i64 29)) (h1 : w.cell? ⟨g, off + 1, none⟩ = some (.string s)) (h3 : w.cell? ⟨g, off + 3, none⟩ = some (.slice o len cap)) (hg : g < w.heap.size) (hgb : g ≠ bl) :
    Calls Tryz.prog 81 #[.agg #[.map (some b0), .map (some bl)], .pointer (some ⟨g, off, none⟩)] w fun e W' => e = .returned (.bool (nameM 29 s len)) ∧ But bl w W' ∧ LexSt W' bl (c + 1) := by
  have hdep : Tryz.prog.follows Departure.mixedOrders = true := by kernel_rfl
  obtain ⟨kd, hkd⟩ : ∃ kd, lkM s = kd := ⟨_, rfl⟩
  have HR : Hid (nameM 29 s len = (isVarB kd || isConB kd)) := by show _ = _; rw [← hkd]; rfl
  have HV : Hid (∀ X : World, Calls Tryz.prog 134 #[.int .i64 kd] X fun e w' => e = .returned (.bool (isVarB kd)) ∧ w' = X) := fun X => isVar_c kd X
  have HC : Hid (∀ X : World, Calls Tryz.prog 135 #[.int .i64 kd] X fun e w' => e = .returned (.bool (isConB kd)) ∧ w' = X) := fun X => isCon_c kd X
  have HPre : Hid (GOK (w.alloc (.cells #[.map (some b0), .map (some bl)] 93)) ∧ LexSt (w.alloc (.cells #[.map (some b0), .map (some bl)] 93)) bl c) := ⟨hG.below ((Below.refl _ w).alloc (Nat.le_refl _) _), hL.below ((Below.refl _ w).alloc (Nat.le_refl _) _)⟩
  have HPreD : Hid (GOK (w.alloc (.cells #[.map (some b0), .map (some bl)] 93)).drew ∧ LexSt (w.alloc (.cells #[.map (some b0), .map (some bl)] 93)).drew bl c) := ⟨hG.below ((Below.refl _ w).alloc (Nat.le_refl _) _).drew, hL.below ((Below.refl _ w).alloc (Nat.le_refl _) _).drew⟩
  have HK : Hid (∀ X : World, Hid (GOK X ∧ LexSt X bl c) → Calls Tryz.prog 133 #[.map (some bl), .string s] X fun e W' => e = .returned (.int .i64 kd) ∧ But bl X W' ∧ LexSt W' bl (c + 1)) := fun X hX => by
    have := kind_c s hs bl c hc X hX.out.1 hX.out.2
    rw [hkd] at this
    exact this
  have hS0 : (w.alloc (.cells #[.map (some b0), .map (some bl)] 93)).cell? ⟨w.heap.size, 1, none⟩ = some (.map (some bl)) ∧ (w.alloc (.cells #[.map (some b0), .map (some bl)] 93)).cell? ⟨g, off + 1, none⟩ = some (.string s) := ⟨(Blk.new w _ _).cell 1 _ rfl, (((Below.refl _ w).alloc (Nat.le_refl _) _).cell (p := ⟨g, off + 1, none⟩) hg).trans h1⟩
  have HS0 : Hid ((w.alloc (.cells #[.map (some b0), .map (some bl)] 93)).cell? ⟨w.heap.size, 1, none⟩ = some (.map (some bl)) ∧ (w.alloc (.cells #[.map (some b0), .map (some bl)] 93)).cell? ⟨g, off + 1, none⟩ = some (.string s)) := hS0
  have HS0d : Hid ((w.alloc (.cells #[.map (some b0), .map (some bl)] 93)).drew.cell? ⟨w.heap.size, 1, none⟩ = some (.map (some bl)) ∧ (w.alloc (.cells #[.map (some b0), .map (some bl)] 93)).drew.cell? ⟨g, off + 1, none⟩ = some (.string s)) := hS0
  have HS2 : Hid (∀ X : World, But bl (w.alloc (.cells #[.map (some b0), .map (some bl)] 93)) X → X.cell? ⟨w.heap.size, 1, none⟩ = some (.map (some bl)) ∧ X.cell? ⟨g, off + 1, none⟩ = some (.string s)) := fun X hX => ⟨(hX.cell w.heap.size 1 (by simp) (by have := hL.lt; omega)).trans hS0.1, (hX.cell g (off + 1) (by simp; omega) hgb).trans hS0.2⟩
  have HBt : Hid (But bl w (w.alloc (.cells #[.map (some b0), .map (some bl)] 93))) := but_below ((Below.refl _ w).alloc (Nat.le_refl _) _) bl
  have hbd : Hid (∀ X : World, But bl (w.alloc (.cells #[.map (some b0), .map (some bl)] 93)).drew X → But bl (w.alloc (.cells #[.map (some b0), .map (some bl)] 93)) X) := fun X hX => ⟨hX.os, hX.tape, hX.output, hX.size, hX.block⟩
  have H3 : Hid (∀ X : World, But bl w X → X.cell? ⟨g, off + 3, none⟩ = some (.slice o len cap)) := fun X hX => (hX.cell g (off + 3) hg hgb).trans h3
  have hgl : Hid (bl < w.heap.size) := hL.lt
  clear hG hL hS0 hs hc hkd h1 h3
  go_enter Tryz.func81, Tryz.ntmps81
  go_wp2
  go_region_held3 (fun X : World => X.cell? ⟨w.heap.size, 1, none⟩ = some (.map (some bl)) ∧ X.cell? ⟨g, off + 1, none⟩ = some (.string s))
    (first
      | with_reducible exact HS0.out
      | with_reducible exact HS0d.out
      | with_reducible exact hS2)
    (first
      | (go_at_call 133; refine (HK.out _ (by first | with_reducible exact HPreD | with_reducible exact HPre)).mono ?_; rintro e w2 ⟨rfl, hb2, hl2⟩; have hb3 : But bl (w.alloc (.cells #[.map (some b0), .map (some bl)] 93)) w2 := (by first | with_reducible exact hbd.out _ hb2 | with_reducible exact hb2); have HB3 : Hid (But bl w w2) := HBt.out.trans hb3; have hS2 := HS2.out _ hb3; have HL2 : Hid (LexSt w2 bl (c + 1)) := hl2; clear hb2 hl2 hb3))
  generalize isVarB kd = bv at HR HV
  generalize isConB kd = bc at HR HC
  cases bv with
  | true =>
    go_wp2_with (go_at_call 134; refine (HV.out _).mono ?_; rintro e w3 ⟨rfl, rfl⟩)
    go_ret
    exact ⟨by rw [HR.out]; rfl, HB3.out, HL2.out⟩
  | false =>
    go_wp2_with (first | (go_at_call 134; refine (HV.out _).mono ?_; rintro e w3 ⟨rfl, rfl⟩) | (go_at_call 135; refine (HC.out _).mono ?_; rintro e w4 ⟨rfl, rfl⟩))
    go_ret
    exact ⟨by rw [HR.out]; rfl, HB3.out, HL2.out⟩
set_option maxRecDepth 100000 in
set_option maxHeartbeats 4000000 in
theorem nf39_c (s : ByteArray) (hs : s.size ≤ 9223372036854775807) (o : Option Addr) (len cap g off b0 bl c : Nat) (hc : c ≤ 4611686018427387904) (w : World) (hG : GOK w) (hL : LexSt w bl c) (h0 : w.cell? ⟨g, off, none⟩ = some (.int .i64 39)) (h1 : w.cell? ⟨g, off + 1, none⟩ = some (.string s)) (h3 : w.cell? ⟨g, off + 3, none⟩ = some (.slice o len cap)) (hg : g < w.heap.size) (hgb : g ≠ bl) :
    Calls Tryz.prog 81 #[.agg #[.map (some b0), .map (some bl)], .pointer (some ⟨g, off, none⟩)] w fun e W' => e = .returned (.bool (nameM 39 s len)) ∧ But bl w W' ∧ LexSt W' bl (c + 1) := by
  have hdep : Tryz.prog.follows Departure.mixedOrders = true := by kernel_rfl
  obtain ⟨kd, hkd⟩ : ∃ kd, lkM s = kd := ⟨_, rfl⟩
  have HR : Hid (nameM 39 s len = (isConB kd && (kd == 2 || len == 2))) := by show _ = _; rw [← hkd]; rfl
  have HC : Hid (∀ X : World, Calls Tryz.prog 135 #[.int .i64 kd] X fun e w' => e = .returned (.bool (isConB kd)) ∧ w' = X) := fun X => isCon_c kd X
  have HPre : Hid (GOK (w.alloc (.cells #[.map (some b0), .map (some bl)] 93)) ∧ LexSt (w.alloc (.cells #[.map (some b0), .map (some bl)] 93)) bl c) := ⟨hG.below ((Below.refl _ w).alloc (Nat.le_refl _) _), hL.below ((Below.refl _ w).alloc (Nat.le_refl _) _)⟩
  have HPreD : Hid (GOK (w.alloc (.cells #[.map (some b0), .map (some bl)] 93)).drew ∧ LexSt (w.alloc (.cells #[.map (some b0), .map (some bl)] 93)).drew bl c) := ⟨hG.below ((Below.refl _ w).alloc (Nat.le_refl _) _).drew, hL.below ((Below.refl _ w).alloc (Nat.le_refl _) _).drew⟩
  have HK : Hid (∀ X : World, Hid (GOK X ∧ LexSt X bl c) → Calls Tryz.prog 133 #[.map (some bl), .string s] X fun e W' => e = .returned (.int .i64 kd) ∧ But bl X W' ∧ LexSt W' bl (c + 1)) := fun X hX => by
    have := kind_c s hs bl c hc X hX.out.1 hX.out.2
    rw [hkd] at this
    exact this
  have hS0 : (w.alloc (.cells #[.map (some b0), .map (some bl)] 93)).cell? ⟨w.heap.size, 1, none⟩ = some (.map (some bl)) ∧ (w.alloc (.cells #[.map (some b0), .map (some bl)] 93)).cell? ⟨g, off + 1, none⟩ = some (.string s) := ⟨(Blk.new w _ _).cell 1 _ rfl, (((Below.refl _ w).alloc (Nat.le_refl _) _).cell (p := ⟨g, off + 1, none⟩) hg).trans h1⟩
  have HS0 : Hid ((w.alloc (.cells #[.map (some b0), .map (some bl)] 93)).cell? ⟨w.heap.size, 1, none⟩ = some (.map (some bl)) ∧ (w.alloc (.cells #[.map (some b0), .map (some bl)] 93)).cell? ⟨g, off + 1, none⟩ = some (.string s)) := hS0
  have HS0d : Hid ((w.alloc (.cells #[.map (some b0), .map (some bl)] 93)).drew.cell? ⟨w.heap.size, 1, none⟩ = some (.map (some bl)) ∧ (w.alloc (.cells #[.map (some b0), .map (some bl)] 93)).drew.cell? ⟨g, off + 1, none⟩ = some (.string s)) := hS0
  have HS2 : Hid (∀ X : World, But bl (w.alloc (.cells #[.map (some b0), .map (some bl)] 93)) X → X.cell? ⟨w.heap.size, 1, none⟩ = some (.map (some bl)) ∧ X.cell? ⟨g, off + 1, none⟩ = some (.string s)) := fun X hX => ⟨(hX.cell w.heap.size 1 (by simp) (by have := hL.lt; omega)).trans hS0.1, (hX.cell g (off + 1) (by simp; omega) hgb).trans hS0.2⟩
  have HBt : Hid (But bl w (w.alloc (.cells #[.map (some b0), .map (some bl)] 93))) := but_below ((Below.refl _ w).alloc (Nat.le_refl _) _) bl
  have hbd : Hid (∀ X : World, But bl (w.alloc (.cells #[.map (some b0), .map (some bl)] 93)).drew X → But bl (w.alloc (.cells #[.map (some b0), .map (some bl)] 93)) X) := fun X hX => ⟨hX.os, hX.tape, hX.output, hX.size, hX.block⟩
  have H3 : Hid (∀ X : World, But bl w X → X.cell? ⟨g, off + 3, none⟩ = some (.slice o len cap)) := fun X hX => (hX.cell g (off + 3) hg hgb).trans h3
  have hgl : Hid (bl < w.heap.size) := hL.lt
  clear hG hL hS0 hs hc hkd h1 h3
  go_enter Tryz.func81, Tryz.ntmps81
  go_wp2
  go_region_held3 (fun X : World => X.cell? ⟨w.heap.size, 1, none⟩ = some (.map (some bl)) ∧ X.cell? ⟨g, off + 1, none⟩ = some (.string s))
    (first
      | with_reducible exact HS0.out
      | with_reducible exact HS0d.out
      | with_reducible exact hS2)
    (first
      | (go_at_call 133; refine (HK.out _ (by first | with_reducible exact HPreD | with_reducible exact HPre)).mono ?_; rintro e w2 ⟨rfl, hb2, hl2⟩; have hb3 : But bl (w.alloc (.cells #[.map (some b0), .map (some bl)] 93)) w2 := (by first | with_reducible exact hbd.out _ hb2 | with_reducible exact hb2); have HB3 : Hid (But bl w w2) := HBt.out.trans hb3; have hS2 := HS2.out _ hb3; have HL2 : Hid (LexSt w2 bl (c + 1)) := hl2; clear hb2 hl2 hb3))
  generalize isConB kd = bc at HR HC
  have c3 := H3.out _ HB3.out
  have hg2 : g < w2.heap.size := Nat.lt_of_lt_of_le hg HB3.out.size
  cases bc with
  | false =>
    go_wp2_with (go_at_call 135; refine (HC.out _).mono ?_; rintro e w3 ⟨rfl, rfl⟩)
    go_ret
    exact ⟨by rw [HR.out]; rfl, HB3.out, HL2.out⟩
  | true =>
    cases hk2 : (kd == 2) with
    | true =>
      rw [hk2] at HR
      go_wp2_with (go_at_call 135; refine (HC.out _).mono ?_; rintro e w3 ⟨rfl, rfl⟩)
      go_ret
      exact ⟨by rw [HR.out]; rfl, HB3.out, HL2.out⟩
    | false =>
      rw [hk2] at HR
      have HR2 : Hid (nameM 39 s len = ((len : Int) == 2)) := by show _ = _; rw [HR.out, Bool.true_and, Bool.false_or, Bool.eq_iff_iff, beq_iff_eq, beq_iff_eq]; omega
      go_wp2_with (go_at_call 135; refine (HC.out _).mono ?_; rintro e w3 ⟨rfl, rfl⟩)
      go_ret
      exact ⟨by rw [HR2.out]; rfl, HB3.out, HL2.out⟩

end Go.Proofs.YtndpebkiiemfpaaGreatDoor

namespace Go.Proofs.YtndpebkiiemfpaaGreatDoor
open Go.RowKit Go.Shelf Go.Maps
set_option linter.unusedVariables false

set_option maxRecDepth 100000 in
set_option maxHeartbeats 4000000 in
theorem nf15_c (s : ByteArray) (hs : s.size ≤ 9223372036854775807) (o : Option Addr) (len cap g off b0 bl c : Nat) (hc : c ≤ 4611686018427387904) (w : World) (hG : GOK w) (hL : LexSt w bl c) (h0 : w.cell? ⟨g, off, none⟩ = some (.int .i64 15)) (h1 : w.cell? ⟨g, off + 1, none⟩ = some (.string s)) (h3 : w.cell? ⟨g, off + 3, none⟩ = some (.slice o len cap)) (hg : g < w.heap.size) (hgb : g ≠ bl) :
    Calls Tryz.prog 81 #[.agg #[.map (some b0), .map (some bl)], .pointer (some ⟨g, off, none⟩)] w fun e W' => e = .returned (.bool (nameM 15 s len)) ∧ But bl w W' ∧ LexSt W' bl (c + 1) := by
  have HL2 : Hid (∀ X : World, Below w.heap.size w X → LexSt X bl (c + 1)) := fun X hX => (hL.below hX).mono (by omega)
  have HB : Hid (∀ o : Obj, Below w.heap.size w (w.alloc o)) := fun o => (Below.refl _ w).alloc (Nat.le_refl _) _
  have HR : Hid (nameM 15 s len = true) := rfl
  clear hG hL hs hc h1 h3
  go_enter Tryz.func81, Tryz.ntmps81
  go_wp2
  go_ret
  exact ⟨by rw [HR.out]; rfl, but_below (HB.out _) bl, HL2.out _ (HB.out _)⟩
set_option maxRecDepth 100000 in
set_option maxHeartbeats 4000000 in
theorem nf38_c (s : ByteArray) (hs : s.size ≤ 9223372036854775807) (o : Option Addr) (len cap g off b0 bl c : Nat) (hc : c ≤ 4611686018427387904) (w : World) (hG : GOK w) (hL : LexSt w bl c) (h0 : w.cell? ⟨g, off, none⟩ = some (.int .i64 38)) (h1 : w.cell? ⟨g, off + 1, none⟩ = some (.string s)) (h3 : w.cell? ⟨g, off + 3, none⟩ = some (.slice o len cap)) (hg : g < w.heap.size) (hgb : g ≠ bl) :
    Calls Tryz.prog 81 #[.agg #[.map (some b0), .map (some bl)], .pointer (some ⟨g, off, none⟩)] w fun e W' => e = .returned (.bool (nameM 38 s len)) ∧ But bl w W' ∧ LexSt W' bl (c + 1) := by
  have HL2 : Hid (∀ X : World, Below w.heap.size w X → LexSt X bl (c + 1)) := fun X hX => (hL.below hX).mono (by omega)
  have HB : Hid (∀ o : Obj, Below w.heap.size w (w.alloc o)) := fun o => (Below.refl _ w).alloc (Nat.le_refl _) _
  have HR : Hid (nameM 38 s len = true) := rfl
  clear hG hL hs hc h1 h3
  go_enter Tryz.func81, Tryz.ntmps81
  go_wp2
  go_ret
  exact ⟨by rw [HR.out]; rfl, but_below (HB.out _) bl, HL2.out _ (HB.out _)⟩
set_option maxRecDepth 100000 in
set_option maxHeartbeats 4000000 in
theorem nf4_c (s : ByteArray) (hs : s.size ≤ 9223372036854775807) (o : Option Addr) (len cap g off b0 bl c : Nat) (hc : c ≤ 4611686018427387904) (w : World) (hG : GOK w) (hL : LexSt w bl c) (h0 : w.cell? ⟨g, off, none⟩ = some (.int .i64 4)) (h1 : w.cell? ⟨g, off + 1, none⟩ = some (.string s)) (h3 : w.cell? ⟨g, off + 3, none⟩ = some (.slice o len cap)) (hg : g < w.heap.size) (hgb : g ≠ bl) :
    Calls Tryz.prog 81 #[.agg #[.map (some b0), .map (some bl)], .pointer (some ⟨g, off, none⟩)] w fun e W' => e = .returned (.bool (nameM 4 s len)) ∧ But bl w W' ∧ LexSt W' bl (c + 1) := by
  have HL2 : Hid (∀ X : World, Below w.heap.size w X → LexSt X bl (c + 1)) := fun X hX => (hL.below hX).mono (by omega)
  have HB : Hid (∀ o : Obj, Below w.heap.size w (w.alloc o)) := fun o => (Below.refl _ w).alloc (Nat.le_refl _) _
  have HR : Hid (nameM 4 s len = isSideB s) := rfl
  have HC : Hid (∀ X : World, Calls Tryz.prog 132 #[.string s] X fun e w' => e = .returned (.bool (isSideB s)) ∧ w' = X) := fun X => isSide_c s X
  generalize isSideB s = bb at HR HC
  clear hG hL hs hc h3
  go_enter Tryz.func81, Tryz.ntmps81
  go_wp2_with (go_at_call 132; refine (HC.out _).mono ?_; rintro e w3 ⟨rfl, rfl⟩)
  go_ret
  exact ⟨by rw [HR.out]; rfl, but_below (HB.out _) bl, HL2.out _ (HB.out _)⟩
set_option maxRecDepth 100000 in
set_option maxHeartbeats 4000000 in
theorem nfo_c (k : Int) (q15 : k ≠ 15) (q38 : k ≠ 38) (q4 : k ≠ 4) (q2 : k ≠ 2) (q3 : k ≠ 3) (q34 : k ≠ 34) (q42 : k ≠ 42) (q11 : k ≠ 11) (q6 : k ≠ 6) (q12 : k ≠ 12) (q39 : k ≠ 39) (q5 : k ≠ 5) (q28 : k ≠ 28) (q29 : k ≠ 29) (s : ByteArray) (hs : s.size ≤ 9223372036854775807) (o : Option Addr) (len cap g off b0 bl c : Nat) (hc : c ≤ 4611686018427387904) (w : World) (hG : GOK w) (hL : LexSt w bl c) (h0 : w.cell? ⟨g, off, none⟩ = some (.int .i64 k)) (h1 : w.cell? ⟨g, off + 1, none⟩ = some (.string s)) (h3 : w.cell? ⟨g, off + 3, none⟩ = some (.slice o len cap)) (hg : g < w.heap.size) (hgb : g ≠ bl) :
    Calls Tryz.prog 81 #[.agg #[.map (some b0), .map (some bl)], .pointer (some ⟨g, off, none⟩)] w fun e W' => e = .returned (.bool (nameM k s len)) ∧ But bl w W' ∧ LexSt W' bl (c + 1) := by
  have HL2 : Hid (∀ X : World, Below w.heap.size w X → LexSt X bl (c + 1)) := fun X hX => (hL.below hX).mono (by omega)
  have HB : Hid (∀ o : Obj, Below w.heap.size w (w.alloc o)) := fun o => (Below.refl _ w).alloc (Nat.le_refl _) _
  have HR : Hid (nameM k s len = (s.data.toList == [])) := by show _ = _; unfold nameM; rw [if_neg (by omega), if_neg (by omega), if_neg (by omega), if_neg (by omega), if_neg (by omega), if_neg (by omega), if_neg (by omega), if_neg (by omega)]
  have e15 : (k == 15) = false := beq_eq_false_iff_ne.2 q15
  have e38 : (k == 38) = false := beq_eq_false_iff_ne.2 q38
  have e4 : (k == 4) = false := beq_eq_false_iff_ne.2 q4
  have e2 : (k == 2) = false := beq_eq_false_iff_ne.2 q2
  have e3 : (k == 3) = false := beq_eq_false_iff_ne.2 q3
  have e34 : (k == 34) = false := beq_eq_false_iff_ne.2 q34
  have e42 : (k == 42) = false := beq_eq_false_iff_ne.2 q42
  have e11 : (k == 11) = false := beq_eq_false_iff_ne.2 q11
  have e6 : (k == 6) = false := beq_eq_false_iff_ne.2 q6
  have e12 : (k == 12) = false := beq_eq_false_iff_ne.2 q12
  have e39 : (k == 39) = false := beq_eq_false_iff_ne.2 q39
  have e5 : (k == 5) = false := beq_eq_false_iff_ne.2 q5
  have e28 : (k == 28) = false := beq_eq_false_iff_ne.2 q28
  have e29 : (k == 29) = false := beq_eq_false_iff_ne.2 q29
  clear hG hL hs hc h3 q15 q38 q4 q2 q3 q34 q42 q11 q6 q12 q39 q5 q28 q29
  obtain ⟨bb, hbb⟩ : ∃ b, (s.data.toList == []) = b := ⟨_, rfl⟩
  rw [hbb] at HR
  have k1 : (s.toList == []) = bb := by rw [ByteArray.toList_eq]; exact hbb
  have k2 : s.toList.isEmpty = bb := by rw [← k1]; cases s.toList <;> rfl
  clear hbb
  cases bb <;>
  · go_enter Tryz.func81, Tryz.ntmps81
    go_wp2
    go_ret
    exact ⟨by rw [HR.out]; rfl, but_below (HB.out _) bl, HL2.out _ (HB.out _)⟩
theorem nameFits_c (k : Int) (s : ByteArray) (hs : s.size ≤ 9223372036854775807) (o : Option Addr) (len cap g off b0 bl c : Nat) (hc : c ≤ 4611686018427387904) (w : World) (hG : GOK w) (hL : LexSt w bl c) (h0 : w.cell? ⟨g, off, none⟩ = some (.int .i64 k)) (h1 : w.cell? ⟨g, off + 1, none⟩ = some (.string s)) (h3 : w.cell? ⟨g, off + 3, none⟩ = some (.slice o len cap)) (hg : g < w.heap.size) (hgb : g ≠ bl) :
    Calls Tryz.prog 81 #[.agg #[.map (some b0), .map (some bl)], .pointer (some ⟨g, off, none⟩)] w fun e W' => e = .returned (.bool (nameM k s len)) ∧ But bl w W' ∧ LexSt W' bl (c + 1) := by
  by_cases q15 : k = 15
  · subst q15; exact nf15_c s hs o len cap g off b0 bl c hc w hG hL h0 h1 h3 hg hgb
  by_cases q38 : k = 38
  · subst q38; exact nf38_c s hs o len cap g off b0 bl c hc w hG hL h0 h1 h3 hg hgb
  by_cases q4 : k = 4
  · subst q4; exact nf4_c s hs o len cap g off b0 bl c hc w hG hL h0 h1 h3 hg hgb
  by_cases q2 : k = 2
  · subst q2; exact nf2_c s hs o len cap g off b0 bl c hc w hG hL h0 h1 h3 hg hgb
  by_cases q3 : k = 3
  · subst q3; exact nf3_c s hs o len cap g off b0 bl c hc w hG hL h0 h1 h3 hg hgb
  by_cases q34 : k = 34
  · subst q34; exact nf34_c s hs o len cap g off b0 bl c hc w hG hL h0 h1 h3 hg hgb
  by_cases q42 : k = 42
  · subst q42; exact nf42_c s hs o len cap g off b0 bl c hc w hG hL h0 h1 h3 hg hgb
  by_cases q11 : k = 11
  · subst q11; exact nf11_c s hs o len cap g off b0 bl c hc w hG hL h0 h1 h3 hg hgb
  by_cases q6 : k = 6
  · subst q6; exact nf6_c s hs o len cap g off b0 bl c hc w hG hL h0 h1 h3 hg hgb
  by_cases q12 : k = 12
  · subst q12; exact nf12_c s hs o len cap g off b0 bl c hc w hG hL h0 h1 h3 hg hgb
  by_cases q39 : k = 39
  · subst q39; exact nf39_c s hs o len cap g off b0 bl c hc w hG hL h0 h1 h3 hg hgb
  by_cases q5 : k = 5
  · subst q5; exact nf5_c s hs o len cap g off b0 bl c hc w hG hL h0 h1 h3 hg hgb
  by_cases q28 : k = 28
  · subst q28; exact nf28_c s hs o len cap g off b0 bl c hc w hG hL h0 h1 h3 hg hgb
  by_cases q29 : k = 29
  · subst q29; exact nf29_c s hs o len cap g off b0 bl c hc w hG hL h0 h1 h3 hg hgb
  exact nfo_c k q15 q38 q4 q2 q3 q34 q42 q11 q6 q12 q39 q5 q28 q29 s hs o len cap g off b0 bl c hc w hG hL h0 h1 h3 hg hgb

/-- The greatest number of a kind. -/
def gnM (k : Int) : Int := if k = 13 ∨ k = 36 then 9223372036854775807 else if k = 14 ∨ k = 37 then 255 else if k = 3 then 32 else if k = 4 then 9 else 0
def numM (k num : Int) : Bool := decide (0 ≤ num ∧ num ≤ gnM k)
set_option maxRecDepth 100000 in
set_option maxHeartbeats 4000000 in
theorem greatestNum_c (k : Int) (w : World) : Calls Tryz.prog 136 #[.int .i64 k] w fun e w' => e = .returned (.int .i64 (gnM k)) ∧ w' = w := by
  by_cases q13 : k = 13
  · subst q13
    have HR : Hid (gnM 13 = 9223372036854775807) := rfl
    go_enter Tryz.func136, Tryz.ntmps136
    go_wp2
    go_ret
    exact ⟨by rw [HR.out]; rfl, rfl⟩
  by_cases q36 : k = 36
  · subst q36
    have HR : Hid (gnM 36 = 9223372036854775807) := rfl
    go_enter Tryz.func136, Tryz.ntmps136
    go_wp2
    go_ret
    exact ⟨by rw [HR.out]; rfl, rfl⟩
  by_cases q14 : k = 14
  · subst q14
    have HR : Hid (gnM 14 = 255) := rfl
    go_enter Tryz.func136, Tryz.ntmps136
    go_wp2
    go_ret
    exact ⟨by rw [HR.out]; rfl, rfl⟩
  by_cases q37 : k = 37
  · subst q37
    have HR : Hid (gnM 37 = 255) := rfl
    go_enter Tryz.func136, Tryz.ntmps136
    go_wp2
    go_ret
    exact ⟨by rw [HR.out]; rfl, rfl⟩
  by_cases q3 : k = 3
  · subst q3
    have HR : Hid (gnM 3 = 32) := rfl
    go_enter Tryz.func136, Tryz.ntmps136
    go_wp2
    go_ret
    exact ⟨by rw [HR.out]; rfl, rfl⟩
  by_cases q4 : k = 4
  · subst q4
    have HR : Hid (gnM 4 = 9) := rfl
    go_enter Tryz.func136, Tryz.ntmps136
    go_wp2
    go_ret
    exact ⟨by rw [HR.out]; rfl, rfl⟩
  have HR : Hid (gnM k = 0) := by show _ = _; unfold gnM; rw [if_neg (by omega), if_neg (by omega), if_neg (by omega), if_neg (by omega)]
  have e13 : (k == 13) = false := beq_eq_false_iff_ne.2 q13
  have e36 : (k == 36) = false := beq_eq_false_iff_ne.2 q36
  have e14 : (k == 14) = false := beq_eq_false_iff_ne.2 q14
  have e37 : (k == 37) = false := beq_eq_false_iff_ne.2 q37
  have e3 : (k == 3) = false := beq_eq_false_iff_ne.2 q3
  have e4 : (k == 4) = false := beq_eq_false_iff_ne.2 q4
  clear q13 q36 q14 q37 q3 q4
  go_enter Tryz.func136, Tryz.ntmps136
  go_wp2
  go_ret
  exact ⟨by rw [HR.out]; rfl, rfl⟩
set_option maxRecDepth 100000 in
set_option maxHeartbeats 4000000 in
theorem numFits_c (k num : Int) (g off : Nat) (w : World) (h0 : w.cell? ⟨g, off, none⟩ = some (.int .i64 k)) (h2 : w.cell? ⟨g, off + 2, none⟩ = some (.int .i64 num)) (hg : g < w.heap.size) :
    Calls Tryz.prog 82 #[.pointer (some ⟨g, off, none⟩)] w fun e W' => e = .returned (.bool (numM k num)) ∧ Below w.heap.size w W' := by
  have hdep : Tryz.prog.follows Departure.mixedOrders = true := by kernel_rfl
  have HC : Hid (∀ X : World, Calls Tryz.prog 136 #[.int .i64 k] X fun e w' => e = .returned (.int .i64 (gnM k)) ∧ w' = X) := fun X => greatestNum_c k X
  have HR : Hid (numM k num = decide (0 ≤ num ∧ num ≤ gnM k)) := rfl
  generalize gnM k = gm at HC HR
  by_cases q0 : 0 ≤ num
  · have e0 : decide (0 ≤ num) = true := decide_eq_true q0
    have HR2 : Hid (numM k num = decide (num ≤ gm)) := by show _ = _; rw [HR.out]; simp [q0]
    go_enter Tryz.func82, Tryz.ntmps82
    go_wp2
    go_big_quiet ((go_at_call 136; exact Calls.quiet_of_same (HC.out _)))
    go_wp2
    go_ret
    exact ⟨by rw [HR2.out]; rfl, ⟨rfl, rfl, rfl, Nat.le_refl _, fun _ _ => rfl⟩⟩
  · have e0 : decide (0 ≤ num) = false := decide_eq_false q0
    have HR2 : Hid (numM k num = false) := by show _ = _; rw [HR.out]; simp [q0]
    go_enter Tryz.func82, Tryz.ntmps82
    go_wp2
    go_big_quiet ((go_at_call 136; exact Calls.quiet_of_same (HC.out _)))
    go_wp2
    go_ret
    exact ⟨by rw [HR2.out]; rfl, ⟨rfl, rfl, rfl, Nat.le_refl _, fun _ _ => rfl⟩⟩

end Go.Proofs.YtndpebkiiemfpaaGreatDoor
