/-
  The texts of a text's tokens, by a contract.
-/
import Derived.Test.YtpidccdgkkcljaaGreatDoorLives
namespace Go.Proofs.YtpidccdgkkcljaaGreatDoor
open Go.RowKit Go.Shelf Go.Maps
set_option linter.unusedVariables false

def txV (t : M.Tk) : Value := .string (bs t.t.text)

set_option maxRecDepth 100000 in
set_option maxHeartbeats 8000000 in
theorem texts_c (s : ByteArray) (ts : List M.Tk) (m : Nat) (hm : ts.length = m + 1) (hm2 : m ≤ 4000) (hpl : ∀ t ∈ ts, plainK t.t.kind) (hs : s.size ≤ 70000) (hc : chk s = (0, 0)) (hts : M.scanAll s.data.toList = .inr ts) (w : World) (hG : GOK w) :
    Calls Tryz.prog 12 #[.string s] w fun e W' => ∃ g cap, e = .returned (.slice (some ⟨g, 0, none⟩) (m + 1) cap) ∧ g < W'.heap.size ∧ Hid (TextsAt W' g (ts.map fun t => bs t.t.text)) ∧ Below w.heap.size w W' := by
  have hdep : Tryz.prog.follows Departure.mixedOrders = true := by kernel_rfl
  have HA : Hid (∀ (w : World), GOK w → Calls Tryz.prog 10 #[.string s] w fun r W' => ∃ v, r = .returned (.tuple #[v, .agg #[.int .i64 0, .int .i64 0]]) ∧ Hid (W'.ownsRow w.heap.size 30 7 v ts.length (tksC ts)) ∧ Below w.heap.size w W') := fun w hG => all_inr s ts hs hc hts w hG
  have HM : Hid (ts.length = m + 1) := hm
  have HPl : Hid (∀ t ∈ ts, plainK t.t.kind) := hpl
  have HG : Hid (GOK w) := hG
  obtain ⟨i0, hi0, hz0, hz1, hz2⟩ := info_parts Tryz.info9
  clear hm hpl hc hts hG hs
  go_enter Tryz.func12, Tryz.ntmps12
  go_wp2_with (go_at_call 10; fail)
  refine (HA.out _ HG.out).mono ?_
  rintro r w1 ⟨v, rfl, hrow, hb⟩
  have hrow' := hrow.out
  rw [HM.out] at hrow'
  obtain ⟨gt, capt, rfl⟩ := ownsRow_succ' hrow'
  clear hrow'
  have HB1 : Hid (Below w.heap.size w w1) := hb
  have hgt : gt < w1.heap.size := (hrow.out.lt gt rfl).2
  clear hb
  go_wp2
  obtain ⟨W2, hW2⟩ : ∃ W2, W2 = w1.alloc (.cells #[.int .i64 0, .int .i64 0] 26) := ⟨_, rfl⟩
  have hB12 : Hid (Below w1.heap.size w1 W2) := by rw [hW2]; exact (Below.refl _ _).alloc (Nat.le_refl _) _
  have hrow2 : Hid (W2.ownsRow w.heap.size 30 7 (.slice (some ⟨gt, 0, none⟩) (m + 1) capt) ts.length (tksC ts)) := owns_below hrow.out hB12.out
  have hgt2 : gt < W2.heap.size := by have := hB12.out.size; omega
  rw [← hW2]
  clear hW2 hrow
  go_loopw [5, 6] (fun o i wr => ∃ k : Nat, k ≤ m + 1 ∧ i = .int .i64 k ∧ Hid (wr.ownsRow W2.heap.size 9 1 o k ((ts.take k).map txV)) ∧ Hid (Below W2.heap.size W2 wr)) (fun _ i _ => m + 1 - (intOf i).toNat)
  case atStart => exact ⟨0, Nat.zero_le _, rfl, World.ownsRow_nil _ _ _ _, Below.refl _ _⟩
  case round =>
    obtain ⟨k, hk, rfl, hown, hB⟩ := hrel
    by_cases hlt : k < m + 1
    · have hkL : k < ts.length := by rw [HM.out]; exact hlt
      have hki : (k : Int) < (m : Int) + 1 := by omega
      have hcell := fun q hq u hu => (hB.out.cell (p := ⟨gt, k * 7 + q, none⟩) hgt2).trans (tks_cell HM.out hrow2.out k hkL q hq u hu)
      have c0 := hcell 0 (by omega) _ rfl
      rw [Nat.add_zero] at c0
      have c1 := hcell 1 (by omega) _ rfl
      have c2 := hcell 2 (by omega) _ rfl
      have c3 := hcell 3 (by omega) _ rfl
      have c4 := hcell 4 (by omega) _ rfl
      have c5 := hcell 5 (by omega) _ rfl
      have c6 := hcell 6 (by omega) _ rfl
      have hpk := HPl.out ts[k] (List.getElem_mem hkL)
      have htk : Hid ((ts.take (k + 1)).map txV = (ts.take k).map txV ++ [txV ts[k]]) := by show _ = _; rw [List.take_succ_eq_append_getElem hkL, List.map_append]; rfl
      generalize ts[k] = t at c0 c1 c2 c3 c4 c5 c6 hpk htk
      obtain ⟨⟨tk, tt, tn⟩, pos, line, col, first⟩ := t
      simp only at c0 c1 c2 c3 c4 c5 c6 hpk htk
      have HT := text_plain tk hpk (bs tt) tn pos line col first
      have HT' : Hid (∀ w : World, Calls Tryz.prog 16 #[.agg #[.int .i64 (tk : Int), .string (bs tt), .int .i64 (tn : Int), .int .i64 (pos : Int), .int .i64 (line : Int), .int .i64 (col : Int), .bool first]] w fun e W' => e = .returned (.string (bs tt)) ∧ Below w.heap.size w W') := HT
      clear HT hcell hpk
      have hs2 : W2.heap.size ≤ wr.heap.size := hB.out.size
      go_wp2_with (first
        | (go_at_call 16; refine (HT'.out _).mono ?_; rintro r w3 ⟨rfl, hb3⟩; have hown3 := owns_below hown.out hb3; have hB3 : Hid (Below W2.heap.size W2 w3) := hB.out.trans (hb3.mono hs2); have hs3 := hB3.out.size; clear hb3 c0 c1 c2 c3 c4 c5 c6)
        | (at_builtin; refine wpList_append_own _ rfl _ _ 32 rfl W2.heap.size 9 i0 (.string ⟨#[]⟩) 1 16 Tryz.underlying32 hi0 hz0 hz1 hz2 rfl (by decide) _ _ _ rfl (hown3.alloc _) ⟨w3.heap.size, 0, none⟩ 1 1 [.string (bs tt)] rfl rfl (cell_one_new _ _ _) (by simp [Value.oneCell']) (by unfold maxLen; omega) (by omega) (by simp; omega) ?_; intro o' w4 hown4 hgrow4 _; have hB4 : Hid (Below W2.heap.size W2 w4) := (hB3.out.alloc hs3 _).grown hgrow4 (by simp; omega) (fun j e => (hown3.lt j e).1); have HO4 : Hid (w4.ownsRow W2.heap.size 9 1 o' (k + 1) ((ts.take k).map txV ++ [.string (bs tt)])) := hown4; clear hown4 hgrow4 hown3))
      go_roundw
      case rel => exact ⟨k + 1, by omega, by go_num, (by rw [htk.out]; exact HO4.out : w4.ownsRow W2.heap.size 9 1 o' (k + 1) ((ts.take (k + 1)).map txV)), hB4⟩
      case measure => simp [intOf]; omega
    · obtain rfl : k = m + 1 := by omega
      go_wp2
      go_ret
      have ho := hown.out
      obtain ⟨g, cap, rfl⟩ := ownsRow_succ' ho
      rw [List.take_of_length_le (by rw [HM.out]; exact Nat.le_refl _)] at ho
      refine ⟨g, cap, rfl, (ho.lt g rfl).2, ?_, HB1.out.trans (((hB12.out.trans (hB.out.mono hB12.out.size)).mono HB1.out.size))⟩
      intro j hj
      have := ho.cellAt j (by simpa [HM.out] using hj)
      rw [this]
      simp only [List.getElem?_map, List.getElem_map]
      rw [List.getElem?_eq_getElem (by simpa using hj)]
      rfl

def s0L : List UInt8 := [120, 49, 39, 32, 61, 32, 97, 43, 98, 32, 45, 45, 32, 99]
def ts0 : List M.Tk := [⟨⟨1, [120, 49, 39], 0⟩, 0, 1, 1, true⟩, ⟨⟨10, [61], 0⟩, 4, 1, 5, false⟩, ⟨⟨1, [97], 0⟩, 6, 1, 7, false⟩, ⟨⟨3, [43], 0⟩, 7, 1, 8, false⟩, ⟨⟨1, [98], 0⟩, 8, 1, 9, false⟩]
theorem scan0 : M.scanAll s0L = .inr ts0 := by decide +kernel
theorem chk0 : chk (bs s0L) = (0, 0) := by decide +kernel

set_option maxRecDepth 100000 in
set_option maxHeartbeats 4000000 in
theorem lives_c (w : World) (hG : GOK w) : Calls Tryz.prog 9 #[] w fun e W' => e = .returned (.bool true) ∧ Below w.heap.size w W' := by
  have hT : Hid (∀ (w : World), GOK w → Calls Tryz.prog 12 #[.string (ByteArray.mk #[120, 49, 39, 32, 61, 32, 97, 43, 98, 32, 45, 45, 32, 99])] w fun e W' => ∃ g cap, e = .returned (.slice (some ⟨g, 0, none⟩) 5 cap) ∧ g < W'.heap.size ∧ Hid (TextsAt W' g (ts0.map fun t => bs t.t.text)) ∧ Below w.heap.size w W') :=
    fun w hG => texts_c (bs s0L) ts0 4 rfl (by omega) (by intro t ht; simp [ts0] at ht; rcases ht with rfl | rfl | rfl | rfl | rfl <;> simp [plainK]) (by decide) chk0 scan0 w hG
  have HG : Hid (GOK w) := hG
  clear hG
  go_enter Tryz.func9, Tryz.ntmps9
  go_wp2_with (first
    | (go_at_call 12; refine (hT.out _ HG.out).mono ?_; rintro r w1 ⟨g, cap, rfl, hg, ht, hb⟩)
    | (go_at_call 11; fail))
  refine (same_c (ts0.map fun t => bs t.t.text) 4 g cap w1.heap.size 5 rfl (by omega) _ ?_ ?_ (by simp; omega) (by simp)).mono ?_
  · exact fun j hj => (((Below.refl _ w1).alloc (Nat.le_refl _) _).cell (p := ⟨g, j, none⟩) hg).trans (ht.out j hj)
  · intro j hj
    match j, hj with
    | 0, _ => exact (Blk.new w1 _ _).cell 0 _ rfl
    | 1, _ => exact (Blk.new w1 _ _).cell 1 _ rfl
    | 2, _ => exact (Blk.new w1 _ _).cell 2 _ rfl
    | 3, _ => exact (Blk.new w1 _ _).cell 3 _ rfl
    | 4, _ => exact (Blk.new w1 _ _).cell 4 _ rfl
    | j + 5, hj => exact absurd hj (by simp [ts0])
  · rintro r w2 ⟨rfl, hb2⟩
    have HB : Hid (Below w.heap.size w w2) := by
      have h1 : Below w.heap.size w (w1.alloc (.cells #[.string ⟨#[120, 49, 39]⟩, .string ⟨#[61]⟩, .string ⟨#[97]⟩, .string ⟨#[43]⟩, .string ⟨#[98]⟩] 9)) := hb.alloc hb.size _
      exact h1.trans (hb2.mono h1.size)
    clear hb hb2
    go_wp2
    go_ret
    exact ⟨rfl, HB.out⟩

end Go.Proofs.YtpidccdgkkcljaaGreatDoor
