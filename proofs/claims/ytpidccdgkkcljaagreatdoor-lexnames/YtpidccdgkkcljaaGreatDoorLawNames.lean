/-
  The law LexNames, walked.
-/
import Derived.Test.YtpidccdgkkcljaaGreatDoorLives2
namespace Go.Proofs.YtpidccdgkkcljaaGreatDoor
open Go.RowKit Go.Shelf Go.Maps
set_option linter.unusedVariables false

set_option maxRecDepth 100000 in
set_option maxHeartbeats 8000000 in
theorem bad_c (s : ByteArray) (a : Nat) (hs : s.size ≤ 70000) (hc : chk s = (0, 0)) (hts : M.scanAll s.data.toList = .inl a) (w : World) (hG : GOK w) :
    Calls Tryz.prog 13 #[.string s, .int .i64 (a : Int)] w fun e W' => e = .returned (.bool true) ∧ Below w.heap.size w W' := by
  have HA : Hid (∀ (w : World), GOK w → Calls Tryz.prog 10 #[.string s] w fun r W' => r = .returned (.tuple #[.slice none 0 0, .agg #[.int .i64 4, .int .i64 (a : Int)]]) ∧ Below w.heap.size w W') := fun w hG => all_inl s a hs hc hts w hG
  have HG : Hid (GOK w) := hG
  clear hG hc hts hs
  go_enter Tryz.func13, Tryz.ntmps13
  go_wp2_with (go_at_call 10; refine (HA.out _ HG.out).mono ?_; rintro r w2 ⟨rfl, hb2⟩; have HB2 : Hid (Below w.heap.size w w2) := hb2; clear hb2)
  all_goals go_ret
  exact ⟨rfl, HB2.out.alloc HB2.out.size _⟩

def n1 : List UInt8 := [45, 45, 62, 32, 124, 45, 45, 32, 46, 46, 46, 32, 46, 46]
def n2 : List UInt8 := [48, 120, 49, 70, 32, 49, 50, 97, 98, 32, 39, 97, 39, 32, 39, 92, 110, 39, 32, 34, 97, 92, 38, 98, 34]
def n3 : List UInt8 := [123, 45, 32, 97, 32, 123, 45, 32, 98, 32, 45, 125, 32, 99, 32, 45, 125, 32, 100]
def b1 : List UInt8 := [34, 97, 10]
def b2 : List UInt8 := [32, 39, 39]
def b3 : List UInt8 := [57, 50, 50, 51, 51, 55, 50, 48, 51, 54, 56, 53, 52, 55, 55, 53, 56, 48, 56]
def b4 : List UInt8 := [97, 32, 123, 45, 32, 123, 45, 32, 45, 125]
theorem k1 : chk (bs n1) = (0, 0) := by decide +kernel
theorem k2 : chk (bs n2) = (0, 0) := by decide +kernel
theorem k3 : chk (bs n3) = (0, 0) := by decide +kernel
theorem kb1 : chk (bs b1) = (0, 0) := by decide +kernel
theorem kb2 : chk (bs b2) = (0, 0) := by decide +kernel
theorem kb3 : chk (bs b3) = (0, 0) := by decide +kernel
theorem kb4 : chk (bs b4) = (0, 0) := by decide +kernel
def t1 : List M.Tk := [⟨⟨3, [45, 45, 62], 0⟩, 0, 1, 1, true⟩, ⟨⟨3, [124, 45, 45], 0⟩, 4, 1, 5, false⟩, ⟨⟨3, [46, 46, 46], 0⟩, 8, 1, 9, false⟩, ⟨⟨10, [46, 46], 0⟩, 12, 1, 13, false⟩]
def t2 : List M.Tk := [⟨⟨5, [], 31⟩, 0, 1, 1, true⟩, ⟨⟨5, [], 12⟩, 5, 1, 6, false⟩, ⟨⟨1, [97, 98], 0⟩, 7, 1, 8, false⟩, ⟨⟨6, [], 97⟩, 10, 1, 11, false⟩, ⟨⟨6, [], 10⟩, 14, 1, 15, false⟩, ⟨⟨7, [97, 98], 0⟩, 19, 1, 20, false⟩]
def t3 : List M.Tk := [⟨⟨1, [100], 0⟩, 18, 1, 19, true⟩]
theorem s1 : M.scanAll n1 = .inr t1 := by decide +kernel
theorem s2 : M.scanAll n2 = .inr t2 := by decide +kernel
theorem s3 : M.scanAll n3 = .inr t3 := by decide +kernel
theorem sb1 : M.scanAll b1 = .inl 0 := by decide +kernel
theorem sb2 : M.scanAll b2 = .inl 1 := by decide +kernel
theorem sb3 : M.scanAll b3 = .inl 0 := by decide +kernel
theorem sb4 : M.scanAll b4 = .inl 2 := by decide +kernel

set_option maxRecDepth 100000 in
set_option maxHeartbeats 40000000 in
theorem lawNames_c (w : World) (hG : GOK w) : Calls Tryz.prog 3 #[] w fun e W' => e = .returned (.bool true) ∧ Below w.heap.size w W' := by
  have H1 : Hid (∀ (w : World), GOK w → Calls Tryz.prog 10 #[.string (ByteArray.mk #[45, 45, 62, 32, 124, 45, 45, 32, 46, 46, 46, 32, 46, 46])] w fun r W' => ∃ v, r = .returned (.tuple #[v, .agg #[.int .i64 0, .int .i64 0]]) ∧ Hid (W'.ownsRow w.heap.size 30 7 v t1.length (tksC t1)) ∧ Below w.heap.size w W') := fun w hG => all_inr (bs n1) t1 (by decide) k1 s1 w hG
  have H2 : Hid (∀ (w : World), GOK w → Calls Tryz.prog 10 #[.string (ByteArray.mk #[48, 120, 49, 70, 32, 49, 50, 97, 98, 32, 39, 97, 39, 32, 39, 92, 110, 39, 32, 34, 97, 92, 38, 98, 34])] w fun r W' => ∃ v, r = .returned (.tuple #[v, .agg #[.int .i64 0, .int .i64 0]]) ∧ Hid (W'.ownsRow w.heap.size 30 7 v t2.length (tksC t2)) ∧ Below w.heap.size w W') := fun w hG => all_inr (bs n2) t2 (by decide) k2 s2 w hG
  have H3 : Hid (∀ (w : World), GOK w → Calls Tryz.prog 12 #[.string (ByteArray.mk #[123, 45, 32, 97, 32, 123, 45, 32, 98, 32, 45, 125, 32, 99, 32, 45, 125, 32, 100])] w fun e W' => ∃ g cap, e = .returned (.slice (some ⟨g, 0, none⟩) 1 cap) ∧ g < W'.heap.size ∧ Hid (TextsAt W' g (t3.map fun t => bs t.t.text)) ∧ Below w.heap.size w W') :=
    fun w hG => texts_c (bs n3) t3 0 rfl (by omega) (by intro t ht; simp [t3] at ht; subst ht; simp [plainK]) (by decide) k3 s3 w hG
  have B1 : Hid (∀ (w : World), GOK w → Calls Tryz.prog 13 #[.string (ByteArray.mk #[34, 97, 10]), .int .i64 0] w fun e W' => e = .returned (.bool true) ∧ Below w.heap.size w W') := fun w hG => bad_c (bs b1) 0 (by decide) kb1 sb1 w hG
  have B2 : Hid (∀ (w : World), GOK w → Calls Tryz.prog 13 #[.string (ByteArray.mk #[32, 39, 39]), .int .i64 1] w fun e W' => e = .returned (.bool true) ∧ Below w.heap.size w W') := fun w hG => bad_c (bs b2) 1 (by decide) kb2 sb2 w hG
  have B3 : Hid (∀ (w : World), GOK w → Calls Tryz.prog 13 #[.string (ByteArray.mk #[57, 50, 50, 51, 51, 55, 50, 48, 51, 54, 56, 53, 52, 55, 55, 53, 56, 48, 56]), .int .i64 0] w fun e W' => e = .returned (.bool true) ∧ Below w.heap.size w W') := fun w hG => bad_c (bs b3) 0 (by decide) kb3 sb3 w hG
  have B4 : Hid (∀ (w : World), GOK w → Calls Tryz.prog 13 #[.string (ByteArray.mk #[97, 32, 123, 45, 32, 123, 45, 32, 45, 125]), .int .i64 2] w fun e W' => e = .returned (.bool true) ∧ Below w.heap.size w W') := fun w hG => bad_c (bs b4) 2 (by decide) kb4 sb4 w hG
  have HG : Hid (GOK w) := hG
  clear hG
  go_enter Tryz.func3, Tryz.ntmps3
  go_wp2_with (first
    | (go_at_call 9; refine (lives_c _ HG.out).mono ?_; rintro r w1 ⟨rfl, hb⟩; have HB1 : Hid (Below w.heap.size w w1) := hb; clear hb)
    | (go_at_call 10; fail))
  refine (H1.out _ (HG.out.below HB1.out)).mono ?_
  rintro r w2 ⟨v1, rfl, hr1, hb2⟩
  have HB2 : Hid (Below w.heap.size w w2) := HB1.out.trans (hb2.mono HB1.out.size)
  obtain ⟨g1, cap1, rfl⟩ := ownsRow_succ' (m := 3) hr1.out
  have hg1 : g1 < w2.heap.size := (hr1.out.lt g1 rfl).2
  clear hb2
  go_wp2_with (go_at_call 10; fail)
  have HBa : Hid (∀ o, Below w.heap.size w (w2.alloc o)) := fun o => HB2.out.alloc HB2.out.size o
  refine (H2.out _ (HG.out.below (HBa.out _))).mono ?_
  rintro r w3 ⟨v2, rfl, hr2, hb3⟩
  have hF : Hid (Blk w3 w2.heap.size #[.int .i64 0, .int .i64 0] 26) := (Blk.new w2 _ _).below hb3
  have HB3 : Hid (Below w.heap.size w w3) := (HBa.out _).trans (hb3.mono (HBa.out _).size)
  obtain ⟨g2, cap2, rfl⟩ := ownsRow_succ' (m := 5) hr2.out
  have hg2 : g2 < w3.heap.size := (hr2.out.lt g2 rfl).2
  have hr13 := owns_below (hr1.out.alloc (.cells #[.int .i64 0, .int .i64 0] 26)) hb3
  have hg13 : g1 < w3.heap.size := (hr13.lt g1 rfl).2
  have hFl := hF.out.lt
  have x0 : w3.cell? ⟨g1, 0, none⟩ = some (.int .i64 3) := tks_cell (ts := t1) rfl hr13 0 (by decide) 0 (by omega) _ rfl
  have x1 : w3.cell? ⟨g1, 7, none⟩ = some (.int .i64 3) := tks_cell (ts := t1) rfl hr13 1 (by decide) 0 (by omega) _ rfl
  have x2 : w3.cell? ⟨g1, 14, none⟩ = some (.int .i64 3) := tks_cell (ts := t1) rfl hr13 2 (by decide) 0 (by omega) _ rfl
  have x3 : w3.cell? ⟨g1, 21, none⟩ = some (.int .i64 10) := tks_cell (ts := t1) rfl hr13 3 (by decide) 0 (by omega) _ rfl
  have y0 : w3.cell? ⟨g2, 2, none⟩ = some (.int .i64 31) := tks_cell (ts := t2) rfl hr2.out 0 (by decide) 2 (by omega) _ rfl
  have y1 : w3.cell? ⟨g2, 9, none⟩ = some (.int .i64 12) := tks_cell (ts := t2) rfl hr2.out 1 (by decide) 2 (by omega) _ rfl
  have y2 : w3.cell? ⟨g2, 15, none⟩ = some (.string ⟨#[97, 98]⟩) := tks_cell (ts := t2) rfl hr2.out 2 (by decide) 1 (by omega) _ rfl
  have y3 : w3.cell? ⟨g2, 23, none⟩ = some (.int .i64 97) := tks_cell (ts := t2) rfl hr2.out 3 (by decide) 2 (by omega) _ rfl
  have y4 : w3.cell? ⟨g2, 30, none⟩ = some (.int .i64 10) := tks_cell (ts := t2) rfl hr2.out 4 (by decide) 2 (by omega) _ rfl
  have y5 : w3.cell? ⟨g2, 36, none⟩ = some (.string ⟨#[97, 98]⟩) := tks_cell (ts := t2) rfl hr2.out 5 (by decide) 1 (by omega) _ rfl
  obtain ⟨z0, z1, zf0, zf1⟩ := hF.out.all2
  clear hr13 hb3 zf0 zf1 hr1 hr2 hg1
  generalize w2.heap.size = Fb at *
  go_wp2_with (go_at_call 12; fail)
  have HB4 : Hid (∀ o, Below w.heap.size w (w3.alloc o)) := fun o => HB3.out.alloc HB3.out.size o
  refine (H3.out _ (HG.out.below (HB4.out _))).mono ?_
  rintro r w4 ⟨g4, cap4, rfl, hg4, ht4, hb4⟩
  have HB5 : Hid (Below w.heap.size w w4) := (HB4.out _).trans (hb4.mono (HB4.out _).size)
  clear hb4 x0 x1 x2 x3 y0 y1 y2 y3 y4 y5 z0 z1 hg13 hg2 hFl
  go_wp2_with (go_at_call 11; fail)
  refine (same_c (t3.map fun t => bs t.t.text) 0 g4 cap4 w4.heap.size 1 rfl (by omega) _ ?_ ?_ (by simp; omega) (by simp)).mono ?_
  · exact fun j hj => (((Below.refl _ w4).alloc (Nat.le_refl _) _).cell (p := ⟨g4, j, none⟩) hg4).trans (ht4.out j hj)
  · intro j hj
    match j, hj with
    | 0, _ => exact (Blk.new w4 _ _).cell 0 _ rfl
    | j + 1, hj => exact absurd hj (by simp [t3])
  · rintro r w5 ⟨rfl, hb5⟩
    have HB6 : Hid (Below w.heap.size w w5) := by
      have h1 : Below w.heap.size w (w4.alloc (.cells #[.string ⟨#[100]⟩] 9)) := HB5.out.alloc HB5.out.size _
      exact h1.trans (hb5.mono h1.size)
    clear hb5 ht4 hg4
    go_wp2_with (go_at_call 13; fail)
    refine (B1.out _ (HG.out.below HB6.out)).mono ?_
    rintro r w6 ⟨rfl, hb6⟩
    have HB7 : Hid (Below w.heap.size w w6) := HB6.out.trans (hb6.mono HB6.out.size)
    clear hb6
    go_wp2_with (go_at_call 13; fail)
    refine (B2.out _ (HG.out.below HB7.out)).mono ?_
    rintro r w7 ⟨rfl, hb7⟩
    have HB8 : Hid (Below w.heap.size w w7) := HB7.out.trans (hb7.mono HB7.out.size)
    clear hb7
    go_wp2_with (go_at_call 13; fail)
    refine (B3.out _ (HG.out.below HB8.out)).mono ?_
    rintro r w8 ⟨rfl, hb8⟩
    have HB9 : Hid (Below w.heap.size w w8) := HB8.out.trans (hb8.mono HB8.out.size)
    clear hb8
    go_wp2_with (go_at_call 13; fail)
    refine (B4.out _ (HG.out.below HB9.out)).mono ?_
    rintro r w9 ⟨rfl, hb9⟩
    have HBx : Hid (Below w.heap.size w w9) := HB9.out.trans (hb9.mono HB9.out.size)
    clear hb9
    go_wp2
    go_ret
    exact ⟨rfl, HBx.out⟩

end Go.Proofs.YtpidccdgkkcljaaGreatDoor
