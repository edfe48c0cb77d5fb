/-
  Is there room for a tree: by a contract.
-/
import Derived.Test.YtndpebkiiemfpaaGreatDoorNd
import Derived.Test.YtndpebkiiemfpaaGreatDoorAllH
namespace Go.Proofs.YtndpebkiiemfpaaGreatDoor
open Go.RowKit Go.Shelf Go.Maps
set_option linter.unusedVariables false

def hK (f : Nat → Nd → Bool × Nat) : Nat → List Nd → Bool × Nat
  | m, [] => (true, m)
  | m, n :: ns => if (f m n).1 = true then hK f (f m n).2 ns else (false, (f m n).2)
/-- Is a tree no deeper than told, and has no more nodes; and how many are left. -/
def hN : Nat → Nat → Nd → Bool × Nat
  | 0, m, n => (false, m)
  | d + 1, m, n => if m = 0 then (false, m) else hK (hN d) (m - 1) n.kids
theorem hK_le (f : Nat → Nd → Bool × Nat) (hf : ∀ m n, (f m n).2 ≤ m) : ∀ (l : List Nd) (m : Nat), (hK f m l).2 ≤ m
  | [], m => Nat.le_refl _
  | n :: ns, m => by
    unfold hK
    split
    · exact Nat.le_trans (hK_le f hf ns _) (hf m n)
    · exact hf m n
theorem hLe : ∀ (d m : Nat) (n : Nd), (hN d m n).2 ≤ m
  | 0, m, n => Nat.le_refl _
  | d + 1, m, n => by
    unfold hN
    split
    · exact Nat.le_refl _
    · exact Nat.le_trans (hK_le _ (hLe d) _ _) (Nat.sub_le _ _)

set_option maxRecDepth 100000 in
set_option maxHeartbeats 4000000 in
theorem holds_c : ∀ (d m : Nat) (n : Nd) (g off R B : Nat) (w : World), NdAt w B n g off → g < B → B ≤ R → Blk w R #[.int .i64 (m : Int)] 88 → d ≤ 1000 → m ≤ 9223372036854775807 →
    Calls Tryz.prog 42 #[.pointer (some ⟨R, 0, none⟩), .pointer (some ⟨g, off, none⟩), .int .i64 (d : Int)] w fun e w' => e = .returned (.bool (hN d m n).1) ∧ Blk w' R #[.int .i64 ((hN d m n).2 : Int)] 88 ∧ Below R w w' ∧ w'.heap.size = w.heap.size := by
  intro d
  induction d with
  | zero =>
    intro m n g off R B w hn hg hB hR hd hm
    have HR : Hid (hN 0 m n = (false, m)) := rfl
    have HBk : Hid (Blk w R #[.int .i64 (m : Int)] 88) := hR
    have c0 := hR.cell 0 _ rfl
    clear hn hg hB hR hd hm
    go_enter Tryz.func42, Tryz.ntmps42
    go_wp2
    all_goals go_ret
    all_goals exact ⟨by rw [HR.out]; rfl, by rw [HR.out]; exact HBk.out, Below.refl _ _, rfl⟩
  | succ d ih =>
    intro m n g off R B w hn hg hB hR hd hm
    have HI : Hid (∀ (m : Nat) (n : Nd) (g off : Nat) (w : World), NdAt w B n g off → g < B → Blk w R #[.int .i64 (m : Int)] 88 → m ≤ 9223372036854775807 → Calls Tryz.prog 42 #[.pointer (some ⟨R, 0, none⟩), .pointer (some ⟨g, off, none⟩), .int .i64 (d : Int)] w fun e w' => e = .returned (.bool (hN d m n).1) ∧ Blk w' R #[.int .i64 ((hN d m n).2 : Int)] 88 ∧ Below R w w' ∧ w'.heap.size = w.heap.size) := fun m n g off w h1 h2 h3 h4 => ih m n g off R B w h1 h2 hB h3 (by omega) h4
    have HBk : Hid (Blk w R #[.int .i64 (m : Int)] 88) := hR
    have c0 := hR.cell 0 _ rfl
    have f0 := hR.frozen 0
    have hRl := hR.lt
    clear ih hR
    rcases Nat.eq_zero_or_pos m with h0 | h0
    · subst h0
      have HR : Hid (hN (d + 1) 0 n = (false, 0)) := rfl
      clear hn hg hB hd hm HI f0
      go_enter Tryz.func42, Tryz.ntmps42
      go_wp2
      go_ret
      exact ⟨by rw [HR.out]; rfl, by rw [HR.out]; exact HBk.out, Below.refl _ _, rfl⟩
    · obtain ⟨m1, hm1⟩ : ∃ m1, m = m1 + 1 := ⟨m - 1, by omega⟩
      have HR : Hid (hN (d + 1) m n = hK (hN d) m1 n.kids) := by subst hm1; rfl
      obtain ⟨D, hD⟩ : ∃ D, D = d + 1 := ⟨_, rfl⟩
      rw [← hD] at HR ⊢
      have e0 : ((m : Int) == 0) = false := beq_eq_false_iff_ne.2 (by omega)
      have e1 : ((D : Int) == 0) = false := beq_eq_false_iff_ne.2 (by omega)
      have e2 : (m : Int) - 1 = (m1 : Int) := by omega
      have e3 : (D : Int) - 1 = (d : Int) := by omega
      have hmi : (m1 : Int) ≤ 9223372036854775806 := by omega
      have hmi2 : (m : Int) ≤ 9223372036854775807 := by omega
      have hDi : (D : Int) ≤ 1000 := by omega
      have hm0 : (0 : Int) < m := by omega
      obtain ⟨o, cap, k0, k1, k2, k3, k4, hc, hc2, hk⟩ := hn.cells
      have HK : Hid (KIn w B o n.kids) := hk
      have HK3 : Hid (∀ W : World, Below R w W → W.cell? ⟨g, off + 3, none⟩ = some (.slice o n.kids.length cap)) := fun W hW => (hW.cell (p := ⟨g, off + 3, none⟩) (by show g < R; omega)).trans k3
      obtain ⟨L, hL⟩ : ∃ L, n.kids.length = L := ⟨_, rfl⟩
      have HL : Hid (n.kids.length = L) := hL
      have hLi : (L : Int) ≤ 9223372036854775807 := by omega
      rw [hL] at HK3
      have c3 := HK3.out (w.setCell ⟨R, 0, none⟩ (.int .i64 (m1 : Int))) ((Below.refl _ _).setCell (p := ⟨R, 0, none⟩) (Nat.le_refl _) _)
      have HB1 : Hid (Below R w (w.setCell ⟨R, 0, none⟩ (.int .i64 (m1 : Int)))) := (Below.refl _ _).setCell (p := ⟨R, 0, none⟩) (Nat.le_refl _) _
      have HBk1 : Hid (Blk (w.setCell ⟨R, 0, none⟩ (.int .i64 (m1 : Int))) R #[.int .i64 (m1 : Int)] 88) := HBk.out.set 0 _
      have HBg : Hid (B ≤ R ∧ g < B) := ⟨hB, hg⟩
      have hgw : g < w.heap.size := by omega
      have HM1 : Hid (m1 ≤ 9223372036854775807) := by show _ ≤ _; omega
      clear hn hg hB hd hm hk k0 k1 k2 k3 k4 hc hc2 hL h0 hm1 hD
      go_enter Tryz.func42, Tryz.ntmps42
      go_wp2
      go_loopw [29] (fun i wr => ∃ (k m2 : Nat), k ≤ L ∧ i = .int .i64 k ∧ Hid (m2 ≤ m1) ∧ Hid (Blk wr R #[.int .i64 (m2 : Int)] 88) ∧ Hid (Below R w wr) ∧ Hid (wr.heap.size = w.heap.size) ∧ Hid (hK (hN d) m1 n.kids = hK (hN d) m2 (n.kids.drop k))) (fun i _ => L - (intOf i).toNat)
      case atStart => exact ⟨0, m1, Nat.zero_le _, rfl, Nat.le_refl _, HBk1, HB1, by show _ = _; simp, rfl⟩
      case round =>
        obtain ⟨k, m2, hk, rfl, hm2, hBk, hBl, hSz, hEq⟩ := hrel
        clear HBk1 HB1 c3
        by_cases hlt : k < L
        · have hkL : k < n.kids.length := by rw [HL.out]; exact hlt
          have hki : (k : Int) < (L : Int) := by omega
          obtain ⟨g2, off2, rfl, hg2, hKA⟩ := HK.out.at k hkL
          have hNd := ((hKA.get n.kids g2 off2 k hkL).below (hBl.out.mono HBg.out.1) _ _ _ hg2)
          have HC : Hid (Calls Tryz.prog 42 #[.pointer (some ⟨R, 0, none⟩), .pointer (some ⟨g2, off2 + k * 5, none⟩), .int .i64 (d : Int)] wr fun e w' => e = .returned (.bool (hN d m2 n.kids[k]).1) ∧ Blk w' R #[.int .i64 ((hN d m2 n.kids[k]).2 : Int)] 88 ∧ Below R wr w' ∧ w'.heap.size = wr.heap.size) := HI.out m2 n.kids[k] g2 (off2 + k * 5) wr hNd hg2 hBk.out (by have := hm2.out; have := HM1.out; omega)
          have HD : Hid (hK (hN d) m2 (n.kids.drop k) = if (hN d m2 n.kids[k]).1 = true then hK (hN d) (hN d m2 n.kids[k]).2 (n.kids.drop (k + 1)) else (false, (hN d m2 n.kids[k]).2)) := by
            show _ = _
            rw [List.drop_eq_getElem_cons hkL]; rfl
          have HLe : Hid ((hN d m2 n.kids[k]).2 ≤ m2) := hLe d m2 _
          obtain ⟨⟨b, m3⟩, hbm⟩ : ∃ x, hN d m2 n.kids[k] = x := ⟨_, rfl⟩
          rw [hbm] at HC HD HLe
          simp only at HC HD HLe
          have c3 := HK3.out wr hBl.out
          have hgr : g < wr.heap.size := by have := hSz.out; omega
          clear hNd hKA hkL hbm
          cases b with
          | true =>
            rw [if_pos rfl] at HD
            go_wp2_with (go_at_call 42; fail)
            refine HC.out.mono ?_
            rintro e w1 ⟨rfl, hb1, hb2, hb3⟩
            have H1 : Hid (Blk w1 R #[.int .i64 (m3 : Int)] 88) := hb1
            have H2 : Hid (Below R w w1) := hBl.out.trans hb2
            have H3 : Hid (w1.heap.size = w.heap.size) := hb3.trans hSz.out
            clear hb1 hb2 hb3 hBl hSz hBk
            go_wp2
            go_roundw
            case rel => exact ⟨k + 1, m3, by omega, by go_num, (Nat.le_trans HLe.out hm2.out : m3 ≤ m1), H1, H2, H3, (hEq.out.trans HD.out : hK (hN d) m1 n.kids = hK (hN d) m3 (n.kids.drop (k + 1)))⟩
            case measure => simp [intOf]; omega
          | false =>
            rw [if_neg (by simp)] at HD
            go_wp2_with (go_at_call 42; fail)
            refine HC.out.mono ?_
            rintro e w1 ⟨rfl, hb1, hb2, hb3⟩
            have H1 : Hid (Blk w1 R #[.int .i64 (m3 : Int)] 88) := hb1
            have H2 : Hid (Below R w w1) := hBl.out.trans hb2
            have H3 : Hid (w1.heap.size = w.heap.size) := hb3.trans hSz.out
            clear hb1 hb2 hb3 hBl hSz hBk
            go_wp2
            go_ret
            exact ⟨by rw [HR.out, hEq.out, HD.out]; rfl, by rw [HR.out, hEq.out, HD.out]; exact H1.out, H2.out, H3.out⟩
        · obtain rfl : k = L := by omega
          have HD : Hid (hK (hN d) m2 (n.kids.drop k) = (true, m2)) := by
            show _ = _
            rw [List.drop_eq_nil_of_le (by rw [HL.out]; exact Nat.le_refl _)]; rfl
          go_wp2
          go_ret
          exact ⟨by rw [HR.out, hEq.out, HD.out]; rfl, by rw [HR.out, hEq.out, HD.out]; exact hBk.out, hBl.out, hSz.out⟩
end Go.Proofs.YtndpebkiiemfpaaGreatDoor
