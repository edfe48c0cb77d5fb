/-
  Merging in place: one element among those to its right, by a contract.
  Merging in place: one element among those to its left, by a contract.
-/
import Derived.Test.YtdbpggncpkocaaaGreatDoorGSm
import Derived.Shelf.SlSortCmp.QuietGrown
namespace Go.Proofs.YtdbpggncpkocaaaGreatDoor
open Go.RowKit Go.Shelf Go.Sort
set_option linter.unusedVariables false

/-- What merging leaves. -/
def SymPost (w : World) (blk off : Nat) (d : Array CT) (a b : Nat) (w' : World) : Prop := ∃ q d' os, w' = sW w blk off q d' os ∧ PermIn a b d d' ∧ SortedIn (ltOf cfC) a b d'
theorem sW_grown (w : World) (blk off m : Nat) (d : Array CT) (os : Array Obj) (n : Nat) (os' : Array Obj) : grow ((sW w blk off m d os).drewN n) os' = sW w blk off (m + n) d (os ++ os') := sortWorldK_grown_c cnC 4 w blk off m n d os os'
/-- The four cells of a place, in every world that a comparison leaves. -/
theorem holds4g {W : World} {blk off : Nat} {d : Array CT} (h : HoldsK cnC 4 W blk off d) (hb : blk < W.heap.size) (i : Nat) (hi : i < d.size) (n : Nat) (os : Array Obj) :
    (grow (W.drewN n) os).cell? ⟨blk, off + i * 4, none⟩ = some (.string d[i]!.1) ∧ (grow (W.drewN n) os).cell? ⟨blk, off + i * 4 + 1, none⟩ = some (.int .i64 d[i]!.2.1) ∧ (grow (W.drewN n) os).cell? ⟨blk, off + i * 4 + 2, none⟩ = some (.string d[i]!.2.2.1) ∧ (grow (W.drewN n) os).cell? ⟨blk, off + i * 4 + 3, none⟩ = some (.int .i64 d[i]!.2.2.2) := by
  obtain ⟨h0, h1, h2, h3⟩ := holds4 h i hi
  exact ⟨cell_grown (a := ⟨blk, off + i * 4, none⟩) hb h0 n os, cell_grown (a := ⟨blk, off + i * 4 + 1, none⟩) hb h1 n os, cell_grown (a := ⟨blk, off + i * 4 + 2, none⟩) hb h2 n os, cell_grown (a := ⟨blk, off + i * 4 + 3, none⟩) hb h3 n os⟩
/-- The comparison, as a walk calls it. -/
theorem cmp_at (x y : CT) (W : World) : Calls Tryz.prog 30 #[.agg #[.string x.1, .int .i64 x.2.1, .string x.2.2.1, .int .i64 x.2.2.2], .agg #[.string y.1, .int .i64 y.2.1, .string y.2.2.1, .int .i64 y.2.2.2]] W fun e w' => e = .returned (.int .i64 (cfC x y)) ∧ ∃ q os, w' = grow (W.drewN q) os := byTT_c x y W

set_option maxRecDepth 100000 in
set_option maxHeartbeats 4000000 in
theorem symL_c (blk off cap a b : Nat) (d : Array CT) (w : World) (hH : HoldsK cnC 4 w blk off d) (hblk : blk < w.heap.size) (h2 : a + 1 < b) (hb : b ≤ d.size) (hsz : d.size < 4611686018427387904) (hs : SortedIn (ltOf cfC) (a + 1) b d) :
    Calls Tryz.prog 54 #[.slice (some ⟨blk, off, none⟩) d.size cap, .int .i64 a, .int .i64 ((a + 1 : Nat) : Int), .int .i64 b, .func (.func 30) #[] #[]] w fun e w' => e = .returned (.tuple #[]) ∧ SymPost w blk off d a b w' := by
  have HST : Hid (w = sW w blk off 0 d #[]) := sW_start hH
  have HH : Hid (HoldsK cnC 4 w blk off d) := hH
  have HS : Hid (SortedIn (ltOf cfC) (a + 1) b d) := hs
  have hm : Tryz.prog.follows Departure.mixedOrders = true := by kernel_rfl
  have eg : ∀ args w, (callFunc 30 args).run Tryz.prog w = .ok (.enter 30 args) w := enters_of Tryz.func30 (by kernel_rfl) rfl
  have e0 : (((a + 1 : Nat) : Int) - (a : Int)) = 1 := by omega
  clear hH hs
  obtain ⟨m, hm1⟩ : ∃ m, m = a + 1 := ⟨_, rfl⟩
  rw [← hm1] at e0 ⊢
  have HM : Hid (m = a + 1) := hm1
  have hmb : m < b := by omega
  have ham : a < m := by omega
  clear hm1
  go_enter Tryz.func54, Tryz.ntmps54
  go_wp2
  go_loopg [10, 11] (b - m) (fun g vi vj wr => ∃ (i j q : Nat) (os : Array Obj), vi = .int .i64 i ∧ vj = .int .i64 j ∧ m ≤ i ∧ i ≤ j ∧ j ≤ b ∧ j - i ≤ g ∧ wr = sW w blk off q d os ∧ Hid ((i = m ∨ ltOf cfC d[i - 1]! d[a]! = true) ∧ (j = b ∨ ltOf cfC d[j]! d[a]! = false)))
  case atStart => exact ⟨m, b, 0, #[], rfl, rfl, Nat.le_refl _, by omega, Nat.le_refl _, Nat.le_refl _, HST.out, (⟨.inl rfl, .inl rfl⟩ : _ ∧ _)⟩
  case round =>
    obtain ⟨i, j, q, os, rfl, rfl, hmi, hij, hjb, hg, rfl, HI⟩ := hrel
    by_cases hlt : i < j
    · have hltz : (i : Int) < (j : Int) := by omega
      obtain ⟨h, hh⟩ : ∃ h, (i + j) / 2 = h := ⟨_, rfl⟩
      have eh : ((i : Int) + (j : Int)) / 2 = (h : Int) := by omega
      have hhi : i ≤ h := by omega
      have hhj : h < j := by omega
      have HE : Hid (((i : Int) + (j : Int)) / 2 = (h : Int)) := eh
      have hHk := sW_holds (m := q) (os := os) (dk := d) HH.out hblk rfl
      have g1 := holds4g hHk (sW_lt hblk _ _ _ _) h (by omega)
      have g2 := holds4g hHk (sW_lt hblk _ _ _ _) a (by omega)
      obtain ⟨xh, hxh⟩ : ∃ x, d[h]! = x := ⟨_, rfl⟩
      obtain ⟨xa, hxa⟩ : ∃ x, d[a]! = x := ⟨_, rfl⟩
      have HX : Hid (d[h]! = xh ∧ d[a]! = xa) := ⟨hxh, hxa⟩
      rw [hxh] at g1
      rw [hxa] at g2
      have c0 := fun n os => (g1 n os).1
      have c1 := fun n os => (g1 n os).2.1
      have c2 := fun n os => (g1 n os).2.2.1
      have c3 := fun n os => (g1 n os).2.2.2
      have k0 := fun n os => (g2 n os).1
      have k1 := fun n os => (g2 n os).2.1
      have k2 := fun n os => (g2 n os).2.2.1
      have k3 := fun n os => (g2 n os).2.2.2
      have HG : Hid (∀ n os', grow ((sW w blk off q d os).drewN n) os' = sW w blk off (q + n) d (os ++ os')) := fun n os' => sW_grown w blk off q d os n os'
      have hz : (h : Int) < (d.size : Int) := by omega
      have hza : (a : Int) < (d.size : Int) := by omega
      clear g1 g2 hHk hxh hxa eh hh
      generalize hwq : sW w blk off q d os = wq at c0 c1 c2 c3 k0 k1 k2 k3 HG ⊢
      clear hwq
      have hcg : ∀ n' os', Calls Tryz.prog 30 #[.agg #[.string xh.1, .int .i64 xh.2.1, .string xh.2.2.1, .int .i64 xh.2.2.2], .agg #[.string xa.1, .int .i64 xa.2.1, .string xa.2.2.1, .int .i64 xa.2.2.2]] (grow (wq.drewN n') os') fun e w' => e = .returned (.int .i64 (cfC xh xa)) ∧ ∃ q os'', w' = grow ((grow (wq.drewN n') os').drewN q) os'' := fun n' os' => cmp_at xh xa _
      go_wp2_with fail
      rw [HE.out]
      by_cases hlv : cfC xh xa < 0
      · go_quiet_grown (first | (go_at_fn 30; refine Calls.grown_of (hcg _ _)))
        go_wp2
        go_roundg (j - (h + 1))
        case measure => omega
        case rel => exact ⟨h + 1, j, _, _, by go_num, rfl, by omega, by omega, hjb, Nat.le_refl _, HG.out nq osq, (⟨.inr (by rw [Nat.add_sub_cancel, HX.out.1, HX.out.2]; exact decide_eq_true hlv), HI.out.2⟩ : _ ∧ _)⟩
      · go_quiet_grown (first | (go_at_fn 30; refine Calls.grown_of (hcg _ _)))
        go_wp2
        go_roundg (h - i)
        case measure => omega
        case rel => exact ⟨i, h, _, _, rfl, rfl, hmi, hhi, by omega, Nat.le_refl _, HG.out nq osq, (⟨HI.out.1, .inr (by rw [HX.out.1, HX.out.2]; exact decide_eq_false (by omega))⟩ : _ ∧ _)⟩
    · obtain rfl : i = j := by omega
      have hltz : ¬ (i : Int) < (i : Int) := by omega
      go_wp2
      go_loopg [13] (i - 1 - a) (fun g vk wr => ∃ (k q2 : Nat) (dk : Array CT) (os2 : Array Obj), vk = .int .i64 k ∧ a ≤ k ∧ k + 1 ≤ i ∧ i - 1 - k ≤ g ∧ dk.size = d.size ∧ wr = sW w blk off q2 dk os2 ∧ Hid (Rot d dk a (a + 1) (k + 1) ∧ PermIn a b d dk))
      case atStart => exact ⟨a, q, d, os, rfl, Nat.le_refl _, by omega, Nat.le_refl _, rfl, rfl, (⟨rot_right d a (a + 1), permIn_refl d a b⟩ : Rot d d a (a + 1) (a + 1) ∧ PermIn a b d d)⟩
      case round =>
        obtain ⟨k, q2, dk, os2, rfl, hak, hki, hg2, hsk, rfl, HR⟩ := hrel
        by_cases hlt2 : k < i - 1
        · have hltz2 : (k : Int) < (i : Int) - 1 := by omega
          have hHk := sW_holds (m := q2) (os := os2) HH.out hblk hsk
          obtain ⟨c0, c1, c2, c3⟩ := holds4 hHk k (by omega)
          obtain ⟨e0, e1, e2, e3⟩ := holds4 hHk (k + 1) (by omega)
          obtain ⟨f0, f1, f2, f3⟩ := holds4f hHk k (by omega)
          obtain ⟨k0, k1, k2, k3⟩ := holds4f hHk (k + 1) (by omega)
          have hW2 : IntKind.i64.wrap ((k : Int) + 1) = ((k + 1 : Nat) : Int) := by rw [IntKind.wrap_i64]; omega
          have l1 : (k : Int) < (d.size : Int) := by omega
          have l2 : ((k + 1 : Nat) : Int) < (d.size : Int) := by omega
          generalize hwq : sW w blk off q2 dk os2 = wq at *
          have HWQ : Hid (sW w blk off q2 dk os2 = wq) := hwq
          clear hwq hHk
          go_wp2_with fail
          go_big_region
          all_goals go_wp2
          go_roundg (i - 1 - (k + 1))
          case measure => omega
          case rel =>
            refine ⟨k + 1, q2 + 1, swp dk k (k + 1), os2, by go_num, by omega, by omega, by omega, by rw [size_swp]; exact hsk, ?_, (show Hid _ from ?_)⟩
            · rw [← HWQ.out]
              exact sW_swp8 w blk off q2 dk os2 hblk k (k + 1) (by omega) (by omega)
            · exact (⟨HR.out.1.up hak (by omega), permIn_trans _ _ _ _ _ HR.out.2 (swp_permIn dk a b k (k + 1) (by omega) (by omega) (by omega) (by omega) (by omega))⟩ : _ ∧ _)
        · have hltz2 : ¬ (k : Int) < (i : Int) - 1 := by omega
          have hk : k + 1 = i := by omega
          go_wp2
          refine bodyPost_ret (results_none rfl _ _ _) rfl ?_
          have HM2 := HM.out
          subst HM2
          rw [hk] at HR
          exact ⟨rfl, ⟨q2, dk, os2, rfl, HR.out.2, ins_left swoC HS.out (by omega) (by omega) HI.out.1 HI.out.2 HR.out.1⟩⟩
end Go.Proofs.YtdbpggncpkocaaaGreatDoor

namespace Go.Proofs.YtdbpggncpkocaaaGreatDoor
open Go.RowKit Go.Shelf Go.Sort
set_option linter.unusedVariables false

set_option maxRecDepth 100000 in
set_option maxHeartbeats 4000000 in
theorem symR_c (blk off cap a m : Nat) (d : Array CT) (w : World) (hH : HoldsK cnC 4 w blk off d) (hblk : blk < w.heap.size) (h2 : a + 1 < m) (hb : m + 1 ≤ d.size) (hsz : d.size < 4611686018427387904) (hs : SortedIn (ltOf cfC) a m d) :
    Calls Tryz.prog 54 #[.slice (some ⟨blk, off, none⟩) d.size cap, .int .i64 a, .int .i64 m, .int .i64 ((m + 1 : Nat) : Int), .func (.func 30) #[] #[]] w fun e w' => e = .returned (.tuple #[]) ∧ SymPost w blk off d a (m + 1) w' := by
  have HST : Hid (w = sW w blk off 0 d #[]) := sW_start hH
  have HH : Hid (HoldsK cnC 4 w blk off d) := hH
  have HS : Hid (SortedIn (ltOf cfC) a m d) := hs
  have hm : Tryz.prog.follows Departure.mixedOrders = true := by kernel_rfl
  have eg : ∀ args w, (callFunc 30 args).run Tryz.prog w = .ok (.enter 30 args) w := enters_of Tryz.func30 (by kernel_rfl) rfl
  have e0 : (((m + 1 : Nat) : Int) - (m : Int)) = 1 := by omega
  have e9 : ¬ (m : Int) - (a : Int) = 1 := by omega
  have e8 : (((m : Int) - (a : Int)) == 1) = false := by simpa using e9
  clear hH hs
  obtain ⟨b, hm1⟩ : ∃ b, b = m + 1 := ⟨_, rfl⟩
  rw [← hm1] at e0 ⊢
  have HM : Hid (b = m + 1) := hm1
  have hmb : m < b := by omega
  have hbs : b ≤ d.size := by omega
  have ham : a < m := by omega
  clear hm1
  go_enter Tryz.func54, Tryz.ntmps54
  go_wp2
  go_loopg [14, 15] (m - a) (fun g vi vj wr => ∃ (i j q : Nat) (os : Array Obj), vi = .int .i64 i ∧ vj = .int .i64 j ∧ a ≤ i ∧ i ≤ j ∧ j ≤ m ∧ j - i ≤ g ∧ wr = sW w blk off q d os ∧ Hid ((i = a ∨ ltOf cfC d[m]! d[i - 1]! = false) ∧ (j = m ∨ ltOf cfC d[m]! d[j]! = true)))
  case atStart => exact ⟨a, m, 0, #[], rfl, rfl, Nat.le_refl _, by omega, Nat.le_refl _, Nat.le_refl _, HST.out, (⟨.inl rfl, .inl rfl⟩ : _ ∧ _)⟩
  case round =>
    obtain ⟨i, j, q, os, rfl, rfl, hmi, hij, hjb, hg, rfl, HI⟩ := hrel
    by_cases hlt : i < j
    · have hltz : (i : Int) < (j : Int) := by omega
      obtain ⟨h, hh⟩ : ∃ h, (i + j) / 2 = h := ⟨_, rfl⟩
      have eh : ((i : Int) + (j : Int)) / 2 = (h : Int) := by omega
      have hhi : i ≤ h := by omega
      have hhj : h < j := by omega
      have HE : Hid (((i : Int) + (j : Int)) / 2 = (h : Int)) := eh
      have hHk := sW_holds (m := q) (os := os) (dk := d) HH.out hblk rfl
      have g1 := holds4g hHk (sW_lt hblk _ _ _ _) h (by omega)
      have g2 := holds4g hHk (sW_lt hblk _ _ _ _) m (by omega)
      obtain ⟨xh, hxh⟩ : ∃ x, d[h]! = x := ⟨_, rfl⟩
      obtain ⟨xa, hxa⟩ : ∃ x, d[m]! = x := ⟨_, rfl⟩
      have HX : Hid (d[h]! = xh ∧ d[m]! = xa) := ⟨hxh, hxa⟩
      rw [hxh] at g1
      rw [hxa] at g2
      have c0 := fun n os => (g1 n os).1
      have c1 := fun n os => (g1 n os).2.1
      have c2 := fun n os => (g1 n os).2.2.1
      have c3 := fun n os => (g1 n os).2.2.2
      have k0 := fun n os => (g2 n os).1
      have k1 := fun n os => (g2 n os).2.1
      have k2 := fun n os => (g2 n os).2.2.1
      have k3 := fun n os => (g2 n os).2.2.2
      have HG : Hid (∀ n os', grow ((sW w blk off q d os).drewN n) os' = sW w blk off (q + n) d (os ++ os')) := fun n os' => sW_grown w blk off q d os n os'
      have hz : (h : Int) < (d.size : Int) := by omega
      have hza : (m : Int) < (d.size : Int) := by omega
      clear g1 g2 hHk hxh hxa eh hh
      generalize hwq : sW w blk off q d os = wq at c0 c1 c2 c3 k0 k1 k2 k3 HG ⊢
      clear hwq
      have hcg : ∀ n' os', Calls Tryz.prog 30 #[.agg #[.string xa.1, .int .i64 xa.2.1, .string xa.2.2.1, .int .i64 xa.2.2.2], .agg #[.string xh.1, .int .i64 xh.2.1, .string xh.2.2.1, .int .i64 xh.2.2.2]] (grow (wq.drewN n') os') fun e w' => e = .returned (.int .i64 (cfC xa xh)) ∧ ∃ q os'', w' = grow ((grow (wq.drewN n') os').drewN q) os'' := fun n' os' => cmp_at xa xh _
      go_wp2_with fail
      rw [HE.out]
      by_cases hlv : cfC xa xh < 0
      · go_quiet_grown (first | (go_at_fn 30; refine Calls.grown_of (hcg _ _)))
        go_wp2
        go_roundg (h - i)
        case measure => omega
        case rel => exact ⟨i, h, _, _, rfl, rfl, hmi, hhi, by omega, Nat.le_refl _, HG.out nq osq, (⟨HI.out.1, .inr (by rw [HX.out.1, HX.out.2]; exact decide_eq_true hlv)⟩ : _ ∧ _)⟩
      · go_quiet_grown (first | (go_at_fn 30; refine Calls.grown_of (hcg _ _)))
        go_wp2
        go_roundg (j - (h + 1))
        case measure => omega
        case rel => exact ⟨h + 1, j, _, _, by go_num, rfl, by omega, by omega, hjb, Nat.le_refl _, HG.out nq osq, (⟨.inr (by rw [Nat.add_sub_cancel, HX.out.1, HX.out.2]; exact decide_eq_false (by omega)), HI.out.2⟩ : _ ∧ _)⟩
    · obtain rfl : i = j := by omega
      have hltz : ¬ (i : Int) < (i : Int) := by omega
      go_wp2
      go_loopg [17] (m - i) (fun g vk wr => ∃ (k q2 : Nat) (dk : Array CT) (os2 : Array Obj), vk = .int .i64 k ∧ i ≤ k ∧ k ≤ m ∧ k - i ≤ g ∧ dk.size = d.size ∧ wr = sW w blk off q2 dk os2 ∧ Hid (Rot d dk k m (m + 1) ∧ PermIn a (m + 1) d dk))
      case atStart => exact ⟨m, q, d, os, rfl, by omega, Nat.le_refl _, Nat.le_refl _, rfl, rfl, (⟨rot_left d m (m + 1), permIn_refl d a (m + 1)⟩ : Rot d d m m (m + 1) ∧ PermIn a (m + 1) d d)⟩
      case round =>
        obtain ⟨k, q2, dk, os2, rfl, hak, hki, hg2, hsk, rfl, HR⟩ := hrel
        by_cases hlt2 : i < k
        · obtain ⟨kp, rfl⟩ : ∃ kp, k = kp + 1 := ⟨k - 1, by omega⟩
          have hltz2 : (i : Int) < ((kp + 1 : Nat) : Int) := by omega
          have hHk := sW_holds (m := q2) (os := os2) HH.out hblk hsk
          obtain ⟨c0, c1, c2, c3⟩ := holds4 hHk kp (by omega)
          obtain ⟨e0, e1, e2, e3⟩ := holds4 hHk (kp + 1) (by omega)
          obtain ⟨f0, f1, f2, f3⟩ := holds4f hHk kp (by omega)
          obtain ⟨k0, k1, k2, k3⟩ := holds4f hHk (kp + 1) (by omega)
          have hW2 : ((kp + 1 : Nat) : Int) - 1 = (kp : Int) := by omega
          have hW3 : IntKind.i64.wrap (kp : Int) = (kp : Int) := by rw [IntKind.wrap_i64]; omega
          have hW4 : IntKind.i64.wrap (((kp + 1 : Nat) : Int) - 1) = (kp : Int) := by rw [IntKind.wrap_i64]; omega
          have l1 : (kp : Int) < (d.size : Int) := by omega
          have l2 : ((kp + 1 : Nat) : Int) < (d.size : Int) := by omega
          have l3 : (kp : Int) + 1 < (d.size : Int) := by omega
          have p0 : (0 : Int) ≤ (kp : Int) + 1 := by omega
          have p1 : ((kp : Int) + 1).toNat = kp + 1 := by omega
          generalize hwq : sW w blk off q2 dk os2 = wq at *
          have HWQ : Hid (sW w blk off q2 dk os2 = wq) := hwq
          clear hwq hHk
          go_wp2_with fail
          go_big_region
          all_goals go_wp2
          go_roundg (kp - i)
          case measure => omega
          case rel =>
            refine ⟨kp, q2 + 1, swp dk (kp + 1) kp, os2, by first | rfl | go_num | (congr 1; omega), by omega, by omega, by omega, by rw [size_swp]; exact hsk, ?_, (show Hid _ from ?_)⟩
            · rw [← HWQ.out]
              exact sW_swp8 w blk off q2 dk os2 hblk (kp + 1) kp (by omega) (by omega)
            · exact (⟨HR.out.1.down (by omega) (by omega), permIn_trans _ _ _ _ _ HR.out.2 (swp_permIn dk a (m + 1) (kp + 1) kp (by omega) (by omega) (by omega) (by omega) (by omega))⟩ : _ ∧ _)
        · have hltz2 : ¬ (i : Int) < (k : Int) := by omega
          have hk : k = i := by omega
          go_wp2
          refine bodyPost_ret (results_none rfl _ _ _) rfl ?_
          subst hk
          have HM2 := HM.out
          subst HM2
          exact ⟨rfl, ⟨q2, dk, os2, rfl, HR.out.2, ins_right swoC HS.out (by omega) (by omega) HI.out.1 HI.out.2 HR.out.1⟩⟩
end Go.Proofs.YtdbpggncpkocaaaGreatDoor
