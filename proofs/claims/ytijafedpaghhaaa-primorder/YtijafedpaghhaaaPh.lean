/-
  The laws' two, is and lives, by contracts.
-/
import Derived.Test.YtijafedpaghhaaaPg
import Derived.Test.YtijafedpaghhaaaPe2
namespace Go.Proofs.Ytijafedpaghhaaa
open Go.RowKit Go.Shelf Go.Maps
set_option linter.unusedVariables false

theorem okP_num (a : Int) : okP 1 ⟨1, a, noText⟩ = true := by
  unfold okP mayM
  rw [toL]
  rfl
theorem zeroPrim (w : World) : (zeroValue 24).run Try.prog w = .ok (.agg #[.int .i64 0, .int .i64 0, .string ⟨#[]⟩]) w := by kernel_rfl

set_option maxRecDepth 100000 in
set_option maxHeartbeats 4000000 in
theorem two_c (s : ByteArray) (hs : s.size ≤ maxLen) (gm : Int → Int → Value) (hop : opOf s.data.toList = some (1, gm)) (har : arM s.data.toList = 2) (a b : Int) (wa : Lit.wf (.int .i64 a) = true) (wb : Lit.wf (.int .i64 b) = true) (kv nv : Int) (tv : ByteArray) (hgm : gm a b = pv kv nv tv) (w : World) :
    Calls Try.prog 6 #[.string s, .int .i64 a, .int .i64 b] w fun e w' => e = .returned (.tuple #[pv kv nv tv, .bool true]) ∧ Below w.heap.size w w' := by
  have HAp : Hid (∀ (W : World) (g : Nat), Blk W g #[.int .i64 1, .int .i64 a, .string noText, .int .i64 1, .int .i64 b, .string noText] 24 → Calls Try.prog 9 #[.string s, .slice (some ⟨g, 0, none⟩) 2 2] W fun e w' => e = .returned (.tuple #[pv kv nv tv, .int .i64 0]) ∧ Below W.heap.size W w') := by
    intro W g h
    rcases tab_find s.data.toList with h0 | ⟨tk, f, g1, h1, h2, h3, h4⟩
    · rw [hop] at h0; cases h0.2
    · rw [hop] at h2
      cases h2
      refine apply_yes s hs (some ⟨g, 0, none⟩) 2 [⟨1, a, noText⟩, ⟨1, b, noText⟩] W 1 f gm h3 h1 (by rw [har]; rfl) (by simp) (by simp) (.inr ⟨g, 0, rfl, h.lt, ?_⟩) ?_ ?_ kv nv tv hgm
      · intro k hk
        match k, hk with
        | 0, _ => exact ⟨h.cell 0 _ rfl, h.cell 1 _ rfl, h.cell 2 _ rfl⟩
        | 1, _ => exact ⟨h.cell 3 _ rfl, h.cell 4 _ rfl, h.cell 5 _ rfl⟩
      · intro p hp
        simp at hp
        rcases hp with rfl | rfl
        · exact wa
        · exact wb
      · intro i hi
        match i, hi with
        | 0, _ => exact okP_num a
        | 1, _ => exact okP_num b
  clear hs hop har wa wb hgm
  go_enter Try.func6, Try.ntmps6
  go_wp2_with (go_at_call 10; fail)
  refine (num_c a _).mono ?_
  rintro e w1 ⟨rfl, hb⟩
  have H1 : Hid (Below w.heap.size w w1) := (below1 w _).trans (hb.mono (by simp))
  have HK1 : Hid (Blk w1 w.heap.size #[.int .i64 0, .int .i64 0, .string ⟨#[]⟩] 24) := (Blk.new w _ _).below hb
  clear hb
  go_wp2_with (go_at_call 10; fail)
  refine (num_c b _).mono ?_
  rintro e w2 ⟨rfl, hb⟩
  have H2 : Hid (Below w.heap.size w w2) := H1.out.trans (hb.mono H1.out.size)
  have HK2 : Hid (Blk w2 w.heap.size #[.int .i64 0, .int .i64 0, .string ⟨#[]⟩] 24) := HK1.out.below hb
  clear hb H1 HK1
  simp only [pv]
  go_wp2_with (go_at_call 9; fail)
  refine (HAp.out _ w2.heap.size (Blk.new w2 _ _)).mono ?_
  rintro e w3 ⟨rfl, hb⟩
  have H3 : Hid (Below w.heap.size w w3) := (H2.out.alloc H2.out.size _).trans (hb.mono (H2.out.alloc H2.out.size _).size)
  have HK3 : Hid (Blk w3 w.heap.size #[.int .i64 0, .int .i64 0, .string ⟨#[]⟩] 24) := (HK2.out.alloc _).below hb
  clear hb H2 HK2 HAp
  simp only [pv]
  obtain ⟨f0, f1, f2, z0, z1, z2⟩ := HK3.out.all3
  have hl := HK3.out.lt
  go_wp2
  have hB2 := (below_sets3 H3.out w.heap.size (Nat.le_refl _) (.int .i64 kv) (.int .i64 nv) (.string tv)).alloc (below_sets3 H3.out w.heap.size (Nat.le_refl _) (.int .i64 kv) (.int .i64 nv) (.string tv)).size (.cells #[.int .i64 kv, .int .i64 nv, .string tv] 24)
  have hK := (HK3.out.sets3 (.int .i64 kv) (.int .i64 nv) (.string tv)).alloc (.cells #[.int .i64 kv, .int .i64 nv, .string tv] 24)
  generalize World.alloc _ _ = WF at hK hB2 ⊢
  obtain ⟨g0, g1, g2, _, _, _⟩ := hK.all3
  exact bodyPost_ret (v := .tuple #[pv kv nv tv, .bool true]) (by simp [results, Try.results6, go_sem, g0, g1, g2, pv]) rfl ⟨rfl, hB2⟩

theorem below_drewT {w W W' : World} (h : Below w.heap.size w W) (hb : Below W.drew.heap.size W.drew W') : Below w.heap.size w W' := h.drew.trans (hb.mono h.drew.size)
set_option maxRecDepth 100000 in
set_option maxHeartbeats 4000000 in
theorem is_c (s : ByteArray) (hs : s.size ≤ maxLen) (gm : Int → Int → Value) (hop : opOf s.data.toList = some (1, gm)) (har : arM s.data.toList = 2) (a b : Int) (wa : Lit.wf (.int .i64 a) = true) (wb : Lit.wf (.int .i64 b) = true) (nv : Int) (hgm : gm a b = pv 1 nv noText) (w : World) :
    Calls Try.prog 8 #[.string s, .int .i64 a, .int .i64 b, .int .i64 nv] w fun e w' => e = .returned (.bool true) ∧ Below w.heap.size w w' := by
  have HT : Hid (∀ W : World, Calls Try.prog 6 #[.string s, .int .i64 a, .int .i64 b] W fun e w' => e = .returned (.tuple #[pv 1 nv noText, .bool true]) ∧ Below W.heap.size W w') := fun W => two_c s hs gm hop har a b wa wb 1 nv noText hgm W
  have HN : Hid (∀ W : World, Calls Try.prog 10 #[.int .i64 nv] W fun e w' => e = .returned (pv 1 nv noText) ∧ Below W.heap.size W w') := num_c nv
  have heq : ∀ W : World, (binOp .eql 24 (.agg #[.int .i64 1, .int .i64 nv, .string noText]) (.agg #[.int .i64 1, .int .i64 nv, .string noText])).run Try.prog W = .ok (.bool true) W := fun W => by rw [eqPrim]; simp
  have hgd := guardP
  clear hs hop har wa wb hgm
  go_enter Try.func8, Try.ntmps8
  go_wp2_with (go_at_call 6; fail)
  refine (HT.out _).mono ?_
  rintro e w1 ⟨rfl, hb⟩
  have H1 : Hid (Below w.heap.size w (w1.alloc (.cells #[.int .i64 1, .int .i64 nv, .string noText] 24))) := hb.alloc hb.size _
  clear hb HT
  simp only [pv]
  go_wp2
  go_region_with ((go_at_call 10; (with_reducible refine (HN.out _).mono ?_); rintro e w2 ⟨rfl, hb⟩; have H2 : Hid (Below w.heap.size w w2) := below_drewT H1.out hb; have HK2 : Hid (Blk w2 w1.heap.size #[.int .i64 1, .int .i64 nv, .string noText] 24) := (Blk.new w1 _ _).drew.below hb; obtain ⟨f0, f1, f2, z0, z1, z2⟩ := HK2.out.all3; have hl2 := HK2.out.lt; clear hb; simp only [pv]))
  all_goals (go_wp2; exact bodyPost_ret (v := .bool true) (by simp [results, Try.results8, go_sem]) rfl ⟨rfl, H2.out⟩)

theorem op_add : opOf [97, 100, 100] = some (1, addM) := by simp [opOf]
theorem ar_add : arM [97, 100, 100] = 2 := by decide
def nm_add : ByteArray := ⟨#[97, 100, 100]⟩
theorem op_quot : opOf [113, 117, 111, 116] = some (1, quotM) := by simp [opOf]
theorem ar_quot : arM [113, 117, 111, 116] = 2 := by decide
def nm_quot : ByteArray := ⟨#[113, 117, 111, 116]⟩
theorem op_rem : opOf [114, 101, 109] = some (1, remM) := by simp [opOf]
theorem ar_rem : arM [114, 101, 109] = 2 := by decide
def nm_rem : ByteArray := ⟨#[114, 101, 109]⟩
theorem op_lt : opOf [108, 116] = some (1, ltM) := by simp [opOf]
theorem ar_lt : arM [108, 116] = 2 := by decide
def nm_lt : ByteArray := ⟨#[108, 116]⟩
theorem op_eq : opOf [101, 113] = some (1, eqM) := by simp [opOf]
theorem ar_eq : arM [101, 113] = 2 := by decide
def nm_eq : ByteArray := ⟨#[101, 113]⟩
theorem op_gt : opOf [103, 116] = some (1, gtM) := by simp [opOf]
theorem ar_gt : arM [103, 116] = 2 := by decide
def nm_gt : ByteArray := ⟨#[103, 116]⟩
theorem op_le : opOf [108, 101] = some (1, leM) := by simp [opOf]
theorem ar_le : arM [108, 101] = 2 := by decide
def nm_le : ByteArray := ⟨#[108, 101]⟩
theorem op_ne : opOf [110, 101] = some (1, neM) := by simp [opOf]
theorem ar_ne : arM [110, 101] = 2 := by decide
def nm_ne : ByteArray := ⟨#[110, 101]⟩
set_option maxRecDepth 100000 in
set_option maxHeartbeats 4000000 in
theorem lives_c (w : World) : Calls Try.prog 5 #[] w fun e w' => e = .returned (.bool true) ∧ Below w.heap.size w w' := by
  have H1 : Hid (∀ W : World, Calls Try.prog 8 #[.string ⟨#[97, 100, 100]⟩, .int .i64 9223372036854775807, .int .i64 1, .int .i64 (-9223372036854775808)] W fun e w' => e = .returned (.bool true) ∧ Below W.heap.size W w') := fun W => is_c nm_add (by decide) addM op_add ar_add 9223372036854775807 1 (by decide) (by decide) (-9223372036854775808) (pv_eq (by unfold wrap64; omega)) W
  have H2 : Hid (∀ W : World, Calls Try.prog 8 #[.string ⟨#[113, 117, 111, 116]⟩, .int .i64 (-7), .int .i64 2, .int .i64 (-3)] W fun e w' => e = .returned (.bool true) ∧ Below W.heap.size W w') := fun W => is_c nm_quot (by decide) quotM op_quot ar_quot (-7) 2 (by decide) (by decide) (-3) (by simp [quotM, wrap64, show Int.tdiv (-7) 2 = -3 from rfl]) W
  have H3 : Hid (∀ W : World, Calls Try.prog 8 #[.string ⟨#[114, 101, 109]⟩, .int .i64 (-7), .int .i64 2, .int .i64 (-1)] W fun e w' => e = .returned (.bool true) ∧ Below W.heap.size W w') := fun W => is_c nm_rem (by decide) remM op_rem ar_rem (-7) 2 (by decide) (by decide) (-1) (by simp [remM, show Int.tmod (-7) 2 = -1 from rfl]) W
  go_enter Try.func5, Try.ntmps5
  go_wp2_with (go_at_call 8; fail)
  refine (H1.out _).mono ?_
  rintro e w1 ⟨rfl, hb1⟩
  have HB1 : Hid (Below w.heap.size w w1) := hb1
  clear hb1
  go_wp2_with (go_at_call 8; fail)
  refine (H2.out _).mono ?_
  rintro e w2 ⟨rfl, hb2⟩
  have HB2 : Hid (Below w.heap.size w w2) := HB1.out.trans (hb2.mono HB1.out.size)
  clear hb2
  go_wp2_with (go_at_call 8; fail)
  refine (H3.out _).mono ?_
  rintro e w3 ⟨rfl, hb3⟩
  have HB3 : Hid (Below w.heap.size w w3) := HB2.out.trans (hb3.mono HB2.out.size)
  clear hb3
  go_wp2
  go_ret
  exact ⟨rfl, HB3.out⟩
end Go.Proofs.Ytijafedpaghhaaa
