/-
  Merging in place, by a contract.
-/
import Derived.Test.YtdbpggncpkocaaaGreatDoorGSy
namespace Go.Proofs.YtdbpggncpkocaaaGreatDoor
open Go.RowKit Go.Shelf Go.Sort
set_option linter.unusedVariables false

theorem half_sorted {lt : CT → CT → Bool} {a st mid : Nat} {d1 : Array CT} (h1 : SortedIn lt a st d1) (h2 : SortedIn lt st mid d1) (hn : ¬ (a < st ∧ st < mid)) (ha : a ≤ st) (hm : st ≤ mid) : SortedIn lt a mid d1 := by
  by_cases h : a < st
  · have e : st = mid := by omega
    rw [← e]; exact h1
  · have e : a = st := by omega
    rw [e]; exact h2
/-- What a call in a world of the sort's leaves: another one, of whose row Q holds. -/
def SPost (w : World) (blk off : Nat) (d : Array CT) (Q : Array CT → Prop) (w' : World) : Prop := ∃ q d' os, w' = sW w blk off q d' os ∧ d'.size = d.size ∧ Q d'
/-- Merging, at any place and in any world, for ranges of at most N. -/
def SymOK (N : Nat) : Prop := ∀ (blk off cap a m b : Nat) (d : Array CT) (w : World), HoldsK cnC 4 w blk off d → blk < w.heap.size → a < m → m < b → b ≤ d.size → d.size < 4611686018427387904 → b - a ≤ N → SortedIn (ltOf cfC) a m d → SortedIn (ltOf cfC) m b d →
    Calls Tryz.prog 54 #[.slice (some ⟨blk, off, none⟩) d.size cap, .int .i64 a, .int .i64 m, .int .i64 b, .func (.func 30) #[] #[]] w fun e w' => e = .returned (.tuple #[]) ∧ SymPost w blk off d a b w'
theorem rot_at {blk off : Nat} (cap : Nat) {d : Array CT} {w : World} (cmp : Value) (hH : HoldsK cnC 4 w blk off d) (hblk : blk < w.heap.size) (hsz : d.size < 4611686018427387904) (q : Nat) (os : Array Obj) (a m b : Nat) (h1 : a < m) (h2 : m < b) (hb : b ≤ d.size) (x y z : Int) (hx : x = (a : Int)) (hy : y = (m : Int)) (hz : z = (b : Int)) :
    Calls Tryz.prog 70 #[.slice (some ⟨blk, off, none⟩) d.size cap, .int .i64 x, .int .i64 y, .int .i64 z, cmp] (sW w blk off q d os) fun e w' => e = .returned (.tuple #[]) ∧ SPost w blk off d (fun d' => Rot d d' a m b ∧ PermIn a b d d') w' := by
  subst hx hy hz
  refine (rotate_c cmp blk off cap a m b d _ (sW_holds hH hblk rfl) (sW_lt hblk _ _ _ _) h1 h2 hb hsz).mono ?_
  rintro e w' ⟨rfl, q2, d', os2, rfl, hr, hp⟩
  exact ⟨rfl, _, d', _, sW_on w blk off q q2 d d' os os2 hblk hp.1, hp.1, hr, hp⟩
theorem sym_at {N blk off : Nat} (cap : Nat) {d : Array CT} {w : World} (hO : SymOK N) (hH : HoldsK cnC 4 w blk off d) (hblk : blk < w.heap.size) (hsz : d.size < 4611686018427387904) (q : Nat) (dk : Array CT) (os : Array Obj) (hs : dk.size = d.size) (a m b : Nat) (h1 : a < m) (h2 : m < b) (hb : b ≤ d.size) (hN : b - a ≤ N) (s1 : SortedIn (ltOf cfC) a m dk) (s2 : SortedIn (ltOf cfC) m b dk) (x y z : Int) (hx : x = (a : Int)) (hy : y = (m : Int)) (hz : z = (b : Int)) :
    Calls Tryz.prog 54 #[.slice (some ⟨blk, off, none⟩) d.size cap, .int .i64 x, .int .i64 y, .int .i64 z, .func (.func 30) #[] #[]] (sW w blk off q dk os) fun e w' => e = .returned (.tuple #[]) ∧ SPost w blk off d (fun d' => PermIn a b dk d' ∧ SortedIn (ltOf cfC) a b d') w' := by
  subst hx hy hz
  have := hO blk off cap a m b dk (sW w blk off q dk os) (sW_holds hH hblk hs) (sW_lt hblk _ _ _ _) h1 h2 (by omega) (by omega) hN s1 s2
  rw [hs] at this
  refine this.mono ?_
  rintro e w' ⟨rfl, q2, d', os2, rfl, hp, hq⟩
  exact ⟨rfl, _, d', _, sW_on w blk off q q2 dk d' os os2 hblk hp.1, hp.1.trans hs, hp, hq⟩

set_option maxRecDepth 100000 in
set_option maxHeartbeats 8000000 in
theorem sym_le (N : Nat) (hO : SymOK N) (blk off cap a m b : Nat) (d : Array CT) (w : World) (hH : HoldsK cnC 4 w blk off d) (hblk : blk < w.heap.size) (h1 : a + 1 < m) (h2 : m + 1 < b) (hb : b ≤ d.size) (hsz : d.size < 4611686018427387904) (hN : b - a ≤ N + 1) (s1 : SortedIn (ltOf cfC) a m d) (s2 : SortedIn (ltOf cfC) m b d) (hmm : m ≤ (a + b) / 2) :
    Calls Tryz.prog 54 #[.slice (some ⟨blk, off, none⟩) d.size cap, .int .i64 a, .int .i64 m, .int .i64 b, .func (.func 30) #[] #[]] w fun e w' => e = .returned (.tuple #[]) ∧ SymPost w blk off d a b w' := by
  have HST : Hid (w = sW w blk off 0 d #[]) := sW_start hH
  have HH : Hid (HoldsK cnC 4 w blk off d) := hH
  have HS : Hid (SortedIn (ltOf cfC) a m d ∧ SortedIn (ltOf cfC) m b d) := ⟨s1, s2⟩
  have hm : Tryz.prog.follows Departure.mixedOrders = true := by kernel_rfl
  have eg : ∀ args w, (callFunc 30 args).run Tryz.prog w = .ok (.enter 30 args) w := enters_of Tryz.func30 (by kernel_rfl) rfl
  have HROT : Hid (∀ (q : Nat) (os : Array Obj) (a m b : Nat), a < m → m < b → b ≤ d.size → ∀ x y z : Int, x = (a : Int) → y = (m : Int) → z = (b : Int) → Calls Tryz.prog 70 #[.slice (some ⟨blk, off, none⟩) d.size cap, .int .i64 x, .int .i64 y, .int .i64 z, .func (.func 30) #[] #[]] (sW w blk off q d os) fun e w' => e = .returned (.tuple #[]) ∧ SPost w blk off d (fun d' => Rot d d' a m b ∧ PermIn a b d d') w') := fun q os a m b h1 h2 h3 x y z hx hy hz => rot_at cap _ hH hblk hsz q os a m b h1 h2 h3 x y z hx hy hz
  have HSYM : Hid (∀ (q : Nat) (dk : Array CT) (os : Array Obj), dk.size = d.size → ∀ a m b : Nat, a < m → m < b → b ≤ d.size → b - a ≤ N → SortedIn (ltOf cfC) a m dk → SortedIn (ltOf cfC) m b dk → ∀ x y z : Int, x = (a : Int) → y = (m : Int) → z = (b : Int) → Calls Tryz.prog 54 #[.slice (some ⟨blk, off, none⟩) d.size cap, .int .i64 x, .int .i64 y, .int .i64 z, .func (.func 30) #[] #[]] (sW w blk off q dk os) fun e w' => e = .returned (.tuple #[]) ∧ SPost w blk off d (fun d' => PermIn a b dk d' ∧ SortedIn (ltOf cfC) a b d') w') := fun q dk os hs a m b h1 h2 h3 h4 h5 h6 x y z hx hy hz => sym_at cap hO hH hblk hsz q dk os hs a m b h1 h2 h3 h4 h5 h6 x y z hx hy hz
  obtain ⟨mid, hmid⟩ : ∃ mid, (a + b) / 2 = mid := ⟨_, rfl⟩
  rw [hmid] at hmm
  have hmi : ((a : Int) + (b : Int)) / 2 = (mid : Int) := by omega
  have HE : Hid (((a : Int) + (b : Int)) / 2 = (mid : Int)) := hmi
  have e9 : ¬ (m : Int) - (a : Int) = 1 := by omega
  have e7 : ¬ (b : Int) - (m : Int) = 1 := by omega
  have e6 : (((m : Int) - (a : Int)) == 1) = false := by simpa using e9
  have e5 : (((b : Int) - (m : Int)) == 1) = false := by simpa using e7
  have b1 : a < mid := by omega
  have b2 : mid < b := by omega
  have b3 : mid + mid ≤ a + b := by omega
  have b4 : a + b ≤ mid + mid + 1 := by omega
  have tst : ¬ ((a : Int) + (b : Int)) / 2 < (m : Int) := by omega
  have HB : Hid (mid + mid ≤ a + b ∧ a + b ≤ mid + mid + 1) := ⟨b3, b4⟩
  clear hH s1 s2 hmid hmi hO b3 b4
  go_enter Tryz.func54, Tryz.ntmps54
  go_wp2
  go_loopg [20, 21] b (fun g vi vj wr => ∃ (i j q : Nat) (os : Array Obj), vi = .int .i64 i ∧ vj = .int .i64 j ∧ a ≤ i ∧ i ≤ j ∧ j ≤ m ∧ j - i ≤ g ∧ wr = sW w blk off q d os ∧ Hid ((i = a ∨ ltOf cfC d[mid + m - 1 - (i - 1)]! d[i - 1]! = false) ∧ (j = m ∨ ltOf cfC d[mid + m - 1 - j]! d[j]! = true)))
  case atStart => exact ⟨a, m, 0, #[], by first | rfl | (congr 1 <;> (have := HE.out; omega)), by first | rfl | (congr 1 <;> (have := HE.out; omega)), Nat.le_refl _, by have := HB.out; omega, Nat.le_refl _, by have := HB.out; omega, HST.out, (⟨.inl rfl, .inl rfl⟩ : _ ∧ _)⟩
  case round =>
    obtain ⟨i, j, q, os, rfl, rfl, hlo, hij, hhi, hg, rfl, HI0⟩ := hrel
    by_cases hlt : i < j
    · have hltz : (i : Int) < (j : Int) := by omega
      obtain ⟨h, hh⟩ : ∃ h, (i + j) / 2 = h := ⟨_, rfl⟩
      have eh : ((i : Int) + (j : Int)) / 2 = (h : Int) := by omega
      have hhi1 : i ≤ h := by omega
      have hhj : h < j := by omega
      obtain ⟨p, hp⟩ : ∃ p, mid + m - 1 - h = p := ⟨_, rfl⟩
      have hps : p < d.size := by have := HB.out; omega
      have HP3 : Hid ((mid : Int) + (m : Int) - 1 = (p : Int) + (h : Int)) := by show _ = _; have := HB.out; omega
      have ep2 : IntKind.i64.wrap (p : Int) = (p : Int) := by rw [IntKind.wrap_i64]; omega
      have HE2 : Hid (((i : Int) + (j : Int)) / 2 = (h : Int)) := eh
      have hhs : h < d.size := by omega
      have hHk := sW_holds (m := q) (os := os) (dk := d) HH.out hblk rfl
      have g1 := holds4g hHk (sW_lt hblk _ _ _ _) p hps
      have g2 := holds4g hHk (sW_lt hblk _ _ _ _) h hhs
      obtain ⟨xp, hxp⟩ : ∃ x, d[p]! = x := ⟨_, rfl⟩
      obtain ⟨xh, hxh⟩ : ∃ x, d[h]! = x := ⟨_, rfl⟩
      have HX : Hid (d[mid + m - 1 - h]! = xp ∧ d[h]! = xh) := ⟨by rw [hp]; exact hxp, hxh⟩
      rw [hxp] at g1
      rw [hxh] at g2
      have c0 := fun n os => (g1 n os).1
      have c1 := fun n os => (g1 n os).2.1
      have c2 := fun n os => (g1 n os).2.2.1
      have c3 := fun n os => (g1 n os).2.2.2
      have k0 := fun n os => (g2 n os).1
      have k1 := fun n os => (g2 n os).2.1
      have k2 := fun n os => (g2 n os).2.2.1
      have k3 := fun n os => (g2 n os).2.2.2
      have HG : Hid (∀ n os', grow ((sW w blk off q d os).drewN n) os' = sW w blk off (q + n) d (os ++ os')) := fun n os' => sW_grown w blk off q d os n os'
      have hz : (h : Int) < (d.size : Int) := by omega
      have hzp : (p : Int) < (d.size : Int) := by omega
      clear g1 g2 hHk hxh hxp eh hh hp
      generalize hwq : sW w blk off q d os = wq at c0 c1 c2 c3 k0 k1 k2 k3 HG ⊢
      clear hwq
      have hcg : ∀ n' os', Calls Tryz.prog 30 #[.agg #[.string xp.1, .int .i64 xp.2.1, .string xp.2.2.1, .int .i64 xp.2.2.2], .agg #[.string xh.1, .int .i64 xh.2.1, .string xh.2.2.1, .int .i64 xh.2.2.2]] (grow (wq.drewN n') os') fun e w' => e = .returned (.int .i64 (cfC xp xh)) ∧ ∃ q os'', w' = grow ((grow (wq.drewN n') os').drewN q) os'' := fun n' os' => cmp_at xp xh _
      go_wp2_with fail
      rw [HE2.out, HE.out, HP3.out]
      by_cases hlv : cfC xp xh < 0
      · go_quiet_grown (first | (go_at_fn 30; refine Calls.grown_of (hcg _ _)))
        go_wp2
        rw [← HP3.out, ← HE.out]
        go_roundg (h - i)
        case measure => omega
        case rel => exact ⟨i, h, _, _, rfl, rfl, hlo, hhi1, by omega, Nat.le_refl _, HG.out nq osq, (⟨HI0.out.1, .inr (by rw [HX.out.1, HX.out.2]; exact decide_eq_true hlv)⟩ : _ ∧ _)⟩
      · go_quiet_grown (first | (go_at_fn 30; refine Calls.grown_of (hcg _ _)))
        go_wp2
        rw [← HP3.out, ← HE.out]
        go_roundg (j - (h + 1))
        case measure => omega
        case rel => exact ⟨h + 1, j, _, _, by go_num, rfl, by omega, by omega, hhi, Nat.le_refl _, HG.out nq osq, (⟨.inr (by rw [Nat.add_sub_cancel, HX.out.1, HX.out.2]; exact decide_eq_false (by omega)), HI0.out.2⟩ : _ ∧ _)⟩
    · obtain rfl : i = j := by omega
      have hltz : ¬ (i : Int) < (i : Int) := by omega
      obtain ⟨en, hen⟩ : ∃ en, mid + m - i = en := ⟨_, rfl⟩
      have hB := HB.out
      have e0 : en + i = mid + m := by omega
      have c1 : a ≤ i := by omega
      have c2 : i ≤ m := by omega
      have c3 : m ≤ en := by omega
      have c4 : en ≤ b := by omega
      have c5 : i ≤ mid := by omega
      have c6 : mid ≤ en := by omega
      have een : (mid : Int) + (m : Int) - (i : Int) = (en : Int) := by omega
      have een2 : ((a : Int) + (b : Int)) / 2 + (m : Int) - (i : Int) = (en : Int) := by have := HE.out; omega
      have HA : Hid ((i < m → m < en → ltOf cfC d[en - 1]! d[i]! = true) ∧ (a < i → en < b → ltOf cfC d[en]! d[i - 1]! = false)) := by
        obtain ⟨x1, x2⟩ := HI0.out
        refine ⟨fun y1 y2 => ?_, fun y1 y2 => ?_⟩
        · rcases x2 with x2 | x2
          · omega
          · rw [show mid + m - 1 - i = en - 1 by omega] at x2; exact x2
        · rcases x1 with x1 | x1
          · omega
          · rw [show mid + m - 1 - (i - 1) = en by omega] at x1; exact x1
      have HF : Hid (∀ d1, PermIn i en d d1 → Rot d d1 i m en → SortedIn (ltOf cfC) a i d1 ∧ SortedIn (ltOf cfC) i mid d1 ∧ SortedIn (ltOf cfC) mid en d1 ∧ SortedIn (ltOf cfC) en b d1 ∧ ∀ d2 d3, PermIn a mid d1 d2 → SortedIn (ltOf cfC) a mid d2 → PermIn mid b d2 d3 → SortedIn (ltOf cfC) mid b d3 → PermIn a b d d3 ∧ SortedIn (ltOf cfC) a b d3) := by
        intro d1 hp hr
        obtain ⟨y1, y2, y3, y4, y5⟩ := rot_halves swoC HS.out.1 HS.out.2 e0 c1 c2 c3 c4 HA.out.1 HA.out.2 hr
        refine ⟨y1, y2, y3, y4, fun d2 d3 p2 t2 p3 t3 => ?_⟩
        have hd1 := hp.1
        obtain ⟨z1, z2⟩ := halves_sorted ⟨by omega, by omega⟩ (by omega) y5 p2 t2 p3 t3
        exact ⟨permIn_trans _ _ _ _ _ (permIn_mono _ _ _ _ a b c1 c4 hb hp) z1, z2⟩
      clear HI0 HA
      by_cases r1 : i < m ∧ m < en
      · have r1a : (i : Int) < (m : Int) := by omega
        have r1b : (m : Int) < (en : Int) := by omega
        go_wp2_with (go_at_call 70; fail)
        refine (HROT.out q os i m en r1.1 r1.2 (by omega) _ _ _ rfl rfl (by first | rfl | omega | (have := HE.out; omega))).mono ?_
        rintro e w1 ⟨rfl, q1, d1, os1, hw1, hz1, hr1, hp1⟩
        have HW1 : Hid (w1 = sW w blk off q1 d1 os1) := hw1
        have HQ : Hid _ := HF.out d1 hp1 hr1
        rw [hw1]
        clear hw1 HW1 hp1 hr1 HF
        by_cases r2 : a < i ∧ i < mid
        · have r2a : (a : Int) < (i : Int) := by omega
          have r2b : (i : Int) < ((a : Int) + (b : Int)) / 2 := by have := HE.out; omega
          go_wp2_with (go_at_call 54; fail)
          refine (HSYM.out q1 d1 os1 hz1 a i mid r2.1 r2.2 (by omega) (by omega) HQ.out.1 HQ.out.2.1 _ _ _ rfl rfl HE.out).mono ?_
          rintro e w2 ⟨rfl, q2, d2, os2, hw2, hz2, hp2, ht2⟩
          have HP2 : Hid (PermIn a mid d1 d2 ∧ SortedIn (ltOf cfC) a mid d2) := ⟨hp2, ht2⟩
          rw [hw2]
          clear hw2 hp2 ht2
          have t1 : SortedIn (ltOf cfC) mid en d2 := SortedIn.other HQ.out.2.2.1 HP2.out.1 (.inr (Nat.le_refl _))
          have t2 : SortedIn (ltOf cfC) en b d2 := SortedIn.other HQ.out.2.2.2.1 HP2.out.1 (.inr c6)
          have HT : Hid (SortedIn (ltOf cfC) mid en d2 ∧ SortedIn (ltOf cfC) en b d2) := ⟨t1, t2⟩
          clear t1 t2
          by_cases r3 : mid < en ∧ en < b
          · have r3a : ((a : Int) + (b : Int)) / 2 < (en : Int) := by have := HE.out; omega
            have r3b : (en : Int) < (b : Int) := by omega
            go_wp2_with (go_at_call 54; fail)
            all_goals (
            refine (HSYM.out q2 d2 os2 hz2 mid en b r3.1 r3.2 hb (by omega) HT.out.1 HT.out.2 _ _ _ HE.out (by first | rfl | omega | (have := HE.out; omega)) rfl).mono ?_
            rintro e w3 ⟨rfl, q3, d3, os3, hw3, hz3, hp3, ht3⟩
            have HP3 : Hid (SymPost w blk off d a b w3) := by
              have := HQ.out.2.2.2.2 d2 d3 HP2.out.1 HP2.out.2 hp3 ht3
              exact ⟨q3, d3, os3, hw3, this.1, this.2⟩
            clear hw3 hp3 ht3
            go_wp2
            go_end0
            exact ⟨rfl, HP3.out⟩)
          · have r3a : (((a : Int) + (b : Int)) / 2 < (en : Int) ∧ ¬ (en : Int) < (b : Int)) ∨ ¬ ((a : Int) + (b : Int)) / 2 < (en : Int) := by have := HE.out; omega
            have HP3 : Hid (SymPost w blk off d a b (sW w blk off q2 d2 os2)) := by
              have := HQ.out.2.2.2.2 d2 d2 HP2.out.1 HP2.out.2 (permIn_refl _ _ _) (half_sorted HT.out.1 HT.out.2 r3 c6 c4)
              exact ⟨q2, d2, os2, rfl, this.1, this.2⟩
            rcases r3a with ⟨r3a, r3b⟩ | r3a
            all_goals (go_wp2 <;> (go_end0; exact ⟨rfl, HP3.out⟩))
        · have r2a : ((a : Int) < (i : Int) ∧ ¬ (i : Int) < ((a : Int) + (b : Int)) / 2) ∨ ¬ (a : Int) < (i : Int) := by have := HE.out; omega
          obtain ⟨q2, d2, os2, hw2, hz2, hp2, ht2⟩ : SPost w blk off d (fun d2 => PermIn a mid d1 d2 ∧ SortedIn (ltOf cfC) a mid d2) (sW w blk off q1 d1 os1) := ⟨q1, d1, os1, rfl, hz1, permIn_refl _ _ _, half_sorted HQ.out.1 HQ.out.2.1 r2 c1 c5⟩
          have HP2 : Hid (PermIn a mid d1 d2 ∧ SortedIn (ltOf cfC) a mid d2) := ⟨hp2, ht2⟩
          rw [hw2]
          clear hw2 hp2 ht2
          rcases r2a with ⟨r2a, r2b⟩ | r2a
          all_goals (
            have t1 : SortedIn (ltOf cfC) mid en d2 := SortedIn.other HQ.out.2.2.1 HP2.out.1 (.inr (Nat.le_refl _))
            have t2 : SortedIn (ltOf cfC) en b d2 := SortedIn.other HQ.out.2.2.2.1 HP2.out.1 (.inr c6)
            have HT : Hid (SortedIn (ltOf cfC) mid en d2 ∧ SortedIn (ltOf cfC) en b d2) := ⟨t1, t2⟩
            clear t1 t2
            by_cases r3 : mid < en ∧ en < b
            · have r3a : ((a : Int) + (b : Int)) / 2 < (en : Int) := by have := HE.out; omega
              have r3b : (en : Int) < (b : Int) := by omega
              go_wp2_with (go_at_call 54; fail)
              all_goals (
              refine (HSYM.out q2 d2 os2 hz2 mid en b r3.1 r3.2 hb (by omega) HT.out.1 HT.out.2 _ _ _ HE.out (by first | rfl | omega | (have := HE.out; omega)) rfl).mono ?_
              rintro e w3 ⟨rfl, q3, d3, os3, hw3, hz3, hp3, ht3⟩
              have HP3 : Hid (SymPost w blk off d a b w3) := by
                have := HQ.out.2.2.2.2 d2 d3 HP2.out.1 HP2.out.2 hp3 ht3
                exact ⟨q3, d3, os3, hw3, this.1, this.2⟩
              clear hw3 hp3 ht3
              go_wp2
              go_end0
              exact ⟨rfl, HP3.out⟩)
            · have r3a : (((a : Int) + (b : Int)) / 2 < (en : Int) ∧ ¬ (en : Int) < (b : Int)) ∨ ¬ ((a : Int) + (b : Int)) / 2 < (en : Int) := by have := HE.out; omega
              have HP3 : Hid (SymPost w blk off d a b (sW w blk off q2 d2 os2)) := by
                have := HQ.out.2.2.2.2 d2 d2 HP2.out.1 HP2.out.2 (permIn_refl _ _ _) (half_sorted HT.out.1 HT.out.2 r3 c6 c4)
                exact ⟨q2, d2, os2, rfl, this.1, this.2⟩
              rcases r3a with ⟨r3a, r3b⟩ | r3a
              all_goals (go_wp2 <;> (go_end0; exact ⟨rfl, HP3.out⟩)))
      · have r1a : ((i : Int) < (m : Int) ∧ ¬ (m : Int) < (en : Int)) ∨ ¬ (i : Int) < (m : Int) := by omega
        have hr0 : Rot d d i m en := by
          rcases (show m = en ∨ i = m by omega) with e | e
          · rw [← e]; exact rot_right d i m
          · rw [e]; exact rot_left d m en
        obtain ⟨q1, d1, os1, hw1, hz1, hr1, hp1⟩ : SPost w blk off d (fun d1 => Rot d d1 i m en ∧ PermIn i en d d1) (sW w blk off q d os) := ⟨q, d, os, rfl, rfl, hr0, permIn_refl _ _ _⟩
        clear hr0
        have HQ : Hid _ := HF.out d1 hp1 hr1
        rw [hw1]
        clear hw1 hp1 hr1 HF
        rcases r1a with ⟨r1a, r1b⟩ | r1a
        all_goals (
          by_cases r2 : a < i ∧ i < mid
          · have r2a : (a : Int) < (i : Int) := by omega
            have r2b : (i : Int) < ((a : Int) + (b : Int)) / 2 := by have := HE.out; omega
            go_wp2_with (go_at_call 54; fail)
            refine (HSYM.out q1 d1 os1 hz1 a i mid r2.1 r2.2 (by omega) (by omega) HQ.out.1 HQ.out.2.1 _ _ _ rfl rfl HE.out).mono ?_
            rintro e w2 ⟨rfl, q2, d2, os2, hw2, hz2, hp2, ht2⟩
            have HP2 : Hid (PermIn a mid d1 d2 ∧ SortedIn (ltOf cfC) a mid d2) := ⟨hp2, ht2⟩
            rw [hw2]
            clear hw2 hp2 ht2
            have t1 : SortedIn (ltOf cfC) mid en d2 := SortedIn.other HQ.out.2.2.1 HP2.out.1 (.inr (Nat.le_refl _))
            have t2 : SortedIn (ltOf cfC) en b d2 := SortedIn.other HQ.out.2.2.2.1 HP2.out.1 (.inr c6)
            have HT : Hid (SortedIn (ltOf cfC) mid en d2 ∧ SortedIn (ltOf cfC) en b d2) := ⟨t1, t2⟩
            clear t1 t2
            by_cases r3 : mid < en ∧ en < b
            · have r3a : ((a : Int) + (b : Int)) / 2 < (en : Int) := by have := HE.out; omega
              have r3b : (en : Int) < (b : Int) := by omega
              go_wp2_with (go_at_call 54; fail)
              all_goals (
              refine (HSYM.out q2 d2 os2 hz2 mid en b r3.1 r3.2 hb (by omega) HT.out.1 HT.out.2 _ _ _ HE.out (by first | rfl | omega | (have := HE.out; omega)) rfl).mono ?_
              rintro e w3 ⟨rfl, q3, d3, os3, hw3, hz3, hp3, ht3⟩
              have HP3 : Hid (SymPost w blk off d a b w3) := by
                have := HQ.out.2.2.2.2 d2 d3 HP2.out.1 HP2.out.2 hp3 ht3
                exact ⟨q3, d3, os3, hw3, this.1, this.2⟩
              clear hw3 hp3 ht3
              go_wp2
              go_end0
              exact ⟨rfl, HP3.out⟩)
            · have r3a : (((a : Int) + (b : Int)) / 2 < (en : Int) ∧ ¬ (en : Int) < (b : Int)) ∨ ¬ ((a : Int) + (b : Int)) / 2 < (en : Int) := by have := HE.out; omega
              have HP3 : Hid (SymPost w blk off d a b (sW w blk off q2 d2 os2)) := by
                have := HQ.out.2.2.2.2 d2 d2 HP2.out.1 HP2.out.2 (permIn_refl _ _ _) (half_sorted HT.out.1 HT.out.2 r3 c6 c4)
                exact ⟨q2, d2, os2, rfl, this.1, this.2⟩
              rcases r3a with ⟨r3a, r3b⟩ | r3a
              all_goals (go_wp2 <;> (go_end0; exact ⟨rfl, HP3.out⟩))
          · have r2a : ((a : Int) < (i : Int) ∧ ¬ (i : Int) < ((a : Int) + (b : Int)) / 2) ∨ ¬ (a : Int) < (i : Int) := by have := HE.out; omega
            obtain ⟨q2, d2, os2, hw2, hz2, hp2, ht2⟩ : SPost w blk off d (fun d2 => PermIn a mid d1 d2 ∧ SortedIn (ltOf cfC) a mid d2) (sW w blk off q1 d1 os1) := ⟨q1, d1, os1, rfl, hz1, permIn_refl _ _ _, half_sorted HQ.out.1 HQ.out.2.1 r2 c1 c5⟩
            have HP2 : Hid (PermIn a mid d1 d2 ∧ SortedIn (ltOf cfC) a mid d2) := ⟨hp2, ht2⟩
            rw [hw2]
            clear hw2 hp2 ht2
            rcases r2a with ⟨r2a, r2b⟩ | r2a
            all_goals (
              have t1 : SortedIn (ltOf cfC) mid en d2 := SortedIn.other HQ.out.2.2.1 HP2.out.1 (.inr (Nat.le_refl _))
              have t2 : SortedIn (ltOf cfC) en b d2 := SortedIn.other HQ.out.2.2.2.1 HP2.out.1 (.inr c6)
              have HT : Hid (SortedIn (ltOf cfC) mid en d2 ∧ SortedIn (ltOf cfC) en b d2) := ⟨t1, t2⟩
              clear t1 t2
              by_cases r3 : mid < en ∧ en < b
              · have r3a : ((a : Int) + (b : Int)) / 2 < (en : Int) := by have := HE.out; omega
                have r3b : (en : Int) < (b : Int) := by omega
                go_wp2_with (go_at_call 54; fail)
                all_goals (
                refine (HSYM.out q2 d2 os2 hz2 mid en b r3.1 r3.2 hb (by omega) HT.out.1 HT.out.2 _ _ _ HE.out (by first | rfl | omega | (have := HE.out; omega)) rfl).mono ?_
                rintro e w3 ⟨rfl, q3, d3, os3, hw3, hz3, hp3, ht3⟩
                have HP3 : Hid (SymPost w blk off d a b w3) := by
                  have := HQ.out.2.2.2.2 d2 d3 HP2.out.1 HP2.out.2 hp3 ht3
                  exact ⟨q3, d3, os3, hw3, this.1, this.2⟩
                clear hw3 hp3 ht3
                go_wp2
                go_end0
                exact ⟨rfl, HP3.out⟩)
              · have r3a : (((a : Int) + (b : Int)) / 2 < (en : Int) ∧ ¬ (en : Int) < (b : Int)) ∨ ¬ ((a : Int) + (b : Int)) / 2 < (en : Int) := by have := HE.out; omega
                have HP3 : Hid (SymPost w blk off d a b (sW w blk off q2 d2 os2)) := by
                  have := HQ.out.2.2.2.2 d2 d2 HP2.out.1 HP2.out.2 (permIn_refl _ _ _) (half_sorted HT.out.1 HT.out.2 r3 c6 c4)
                  exact ⟨q2, d2, os2, rfl, this.1, this.2⟩
                rcases r3a with ⟨r3a, r3b⟩ | r3a
                all_goals (go_wp2 <;> (go_end0; exact ⟨rfl, HP3.out⟩))))

set_option maxRecDepth 100000 in
set_option maxHeartbeats 8000000 in
theorem sym_gt (N : Nat) (hO : SymOK N) (blk off cap a m b : Nat) (d : Array CT) (w : World) (hH : HoldsK cnC 4 w blk off d) (hblk : blk < w.heap.size) (h1 : a + 1 < m) (h2 : m + 1 < b) (hb : b ≤ d.size) (hsz : d.size < 4611686018427387904) (hN : b - a ≤ N + 1) (s1 : SortedIn (ltOf cfC) a m d) (s2 : SortedIn (ltOf cfC) m b d) (hmm : (a + b) / 2 < m) :
    Calls Tryz.prog 54 #[.slice (some ⟨blk, off, none⟩) d.size cap, .int .i64 a, .int .i64 m, .int .i64 b, .func (.func 30) #[] #[]] w fun e w' => e = .returned (.tuple #[]) ∧ SymPost w blk off d a b w' := by
  have HST : Hid (w = sW w blk off 0 d #[]) := sW_start hH
  have HH : Hid (HoldsK cnC 4 w blk off d) := hH
  have HS : Hid (SortedIn (ltOf cfC) a m d ∧ SortedIn (ltOf cfC) m b d) := ⟨s1, s2⟩
  have hm : Tryz.prog.follows Departure.mixedOrders = true := by kernel_rfl
  have eg : ∀ args w, (callFunc 30 args).run Tryz.prog w = .ok (.enter 30 args) w := enters_of Tryz.func30 (by kernel_rfl) rfl
  have HROT : Hid (∀ (q : Nat) (os : Array Obj) (a m b : Nat), a < m → m < b → b ≤ d.size → ∀ x y z : Int, x = (a : Int) → y = (m : Int) → z = (b : Int) → Calls Tryz.prog 70 #[.slice (some ⟨blk, off, none⟩) d.size cap, .int .i64 x, .int .i64 y, .int .i64 z, .func (.func 30) #[] #[]] (sW w blk off q d os) fun e w' => e = .returned (.tuple #[]) ∧ SPost w blk off d (fun d' => Rot d d' a m b ∧ PermIn a b d d') w') := fun q os a m b h1 h2 h3 x y z hx hy hz => rot_at cap _ hH hblk hsz q os a m b h1 h2 h3 x y z hx hy hz
  have HSYM : Hid (∀ (q : Nat) (dk : Array CT) (os : Array Obj), dk.size = d.size → ∀ a m b : Nat, a < m → m < b → b ≤ d.size → b - a ≤ N → SortedIn (ltOf cfC) a m dk → SortedIn (ltOf cfC) m b dk → ∀ x y z : Int, x = (a : Int) → y = (m : Int) → z = (b : Int) → Calls Tryz.prog 54 #[.slice (some ⟨blk, off, none⟩) d.size cap, .int .i64 x, .int .i64 y, .int .i64 z, .func (.func 30) #[] #[]] (sW w blk off q dk os) fun e w' => e = .returned (.tuple #[]) ∧ SPost w blk off d (fun d' => PermIn a b dk d' ∧ SortedIn (ltOf cfC) a b d') w') := fun q dk os hs a m b h1 h2 h3 h4 h5 h6 x y z hx hy hz => sym_at cap hO hH hblk hsz q dk os hs a m b h1 h2 h3 h4 h5 h6 x y z hx hy hz
  obtain ⟨mid, hmid⟩ : ∃ mid, (a + b) / 2 = mid := ⟨_, rfl⟩
  rw [hmid] at hmm
  have hmi : ((a : Int) + (b : Int)) / 2 = (mid : Int) := by omega
  have HE : Hid (((a : Int) + (b : Int)) / 2 = (mid : Int)) := hmi
  have e9 : ¬ (m : Int) - (a : Int) = 1 := by omega
  have e7 : ¬ (b : Int) - (m : Int) = 1 := by omega
  have e6 : (((m : Int) - (a : Int)) == 1) = false := by simpa using e9
  have e5 : (((b : Int) - (m : Int)) == 1) = false := by simpa using e7
  have b1 : a < mid := by omega
  have b2 : mid < b := by omega
  have b3 : mid + mid ≤ a + b := by omega
  have b4 : a + b ≤ mid + mid + 1 := by omega
  have tst : ((a : Int) + (b : Int)) / 2 < (m : Int) := by omega
  have HB : Hid (mid + mid ≤ a + b ∧ a + b ≤ mid + mid + 1) := ⟨b3, b4⟩
  clear hH s1 s2 hmid hmi hO b3 b4
  go_enter Tryz.func54, Tryz.ntmps54
  go_wp2
  go_loopg [20, 21] b (fun g vi vj wr => ∃ (i j q : Nat) (os : Array Obj), vi = .int .i64 i ∧ vj = .int .i64 j ∧ (mid + m - b) ≤ i ∧ i ≤ j ∧ j ≤ mid ∧ j - i ≤ g ∧ wr = sW w blk off q d os ∧ Hid ((i = (mid + m - b) ∨ ltOf cfC d[mid + m - 1 - (i - 1)]! d[i - 1]! = false) ∧ (j = mid ∨ ltOf cfC d[mid + m - 1 - j]! d[j]! = true)))
  case atStart => exact ⟨(mid + m - b), mid, 0, #[], by first | rfl | (congr 1 <;> (have := HE.out; omega)), by first | rfl | (congr 1 <;> (have := HE.out; omega)), Nat.le_refl _, by have := HB.out; omega, Nat.le_refl _, by have := HB.out; omega, HST.out, (⟨.inl rfl, .inl rfl⟩ : _ ∧ _)⟩
  case round =>
    obtain ⟨i, j, q, os, rfl, rfl, hlo, hij, hhi, hg, rfl, HI0⟩ := hrel
    by_cases hlt : i < j
    · have hltz : (i : Int) < (j : Int) := by omega
      obtain ⟨h, hh⟩ : ∃ h, (i + j) / 2 = h := ⟨_, rfl⟩
      have eh : ((i : Int) + (j : Int)) / 2 = (h : Int) := by omega
      have hhi1 : i ≤ h := by omega
      have hhj : h < j := by omega
      obtain ⟨p, hp⟩ : ∃ p, mid + m - 1 - h = p := ⟨_, rfl⟩
      have hps : p < d.size := by have := HB.out; omega
      have HP3 : Hid ((mid : Int) + (m : Int) - 1 = (p : Int) + (h : Int)) := by show _ = _; have := HB.out; omega
      have ep2 : IntKind.i64.wrap (p : Int) = (p : Int) := by rw [IntKind.wrap_i64]; omega
      have HE2 : Hid (((i : Int) + (j : Int)) / 2 = (h : Int)) := eh
      have hhs : h < d.size := by omega
      have hHk := sW_holds (m := q) (os := os) (dk := d) HH.out hblk rfl
      have g1 := holds4g hHk (sW_lt hblk _ _ _ _) p hps
      have g2 := holds4g hHk (sW_lt hblk _ _ _ _) h hhs
      obtain ⟨xp, hxp⟩ : ∃ x, d[p]! = x := ⟨_, rfl⟩
      obtain ⟨xh, hxh⟩ : ∃ x, d[h]! = x := ⟨_, rfl⟩
      have HX : Hid (d[mid + m - 1 - h]! = xp ∧ d[h]! = xh) := ⟨by rw [hp]; exact hxp, hxh⟩
      rw [hxp] at g1
      rw [hxh] at g2
      have c0 := fun n os => (g1 n os).1
      have c1 := fun n os => (g1 n os).2.1
      have c2 := fun n os => (g1 n os).2.2.1
      have c3 := fun n os => (g1 n os).2.2.2
      have k0 := fun n os => (g2 n os).1
      have k1 := fun n os => (g2 n os).2.1
      have k2 := fun n os => (g2 n os).2.2.1
      have k3 := fun n os => (g2 n os).2.2.2
      have HG : Hid (∀ n os', grow ((sW w blk off q d os).drewN n) os' = sW w blk off (q + n) d (os ++ os')) := fun n os' => sW_grown w blk off q d os n os'
      have hz : (h : Int) < (d.size : Int) := by omega
      have hzp : (p : Int) < (d.size : Int) := by omega
      clear g1 g2 hHk hxh hxp eh hh hp
      generalize hwq : sW w blk off q d os = wq at c0 c1 c2 c3 k0 k1 k2 k3 HG ⊢
      clear hwq
      have hcg : ∀ n' os', Calls Tryz.prog 30 #[.agg #[.string xp.1, .int .i64 xp.2.1, .string xp.2.2.1, .int .i64 xp.2.2.2], .agg #[.string xh.1, .int .i64 xh.2.1, .string xh.2.2.1, .int .i64 xh.2.2.2]] (grow (wq.drewN n') os') fun e w' => e = .returned (.int .i64 (cfC xp xh)) ∧ ∃ q os'', w' = grow ((grow (wq.drewN n') os').drewN q) os'' := fun n' os' => cmp_at xp xh _
      go_wp2_with fail
      rw [HE2.out, HE.out, HP3.out]
      by_cases hlv : cfC xp xh < 0
      · go_quiet_grown (first | (go_at_fn 30; refine Calls.grown_of (hcg _ _)))
        go_wp2
        rw [← HP3.out, ← HE.out]
        go_roundg (h - i)
        case measure => omega
        case rel => exact ⟨i, h, _, _, rfl, rfl, hlo, hhi1, by omega, Nat.le_refl _, HG.out nq osq, (⟨HI0.out.1, .inr (by rw [HX.out.1, HX.out.2]; exact decide_eq_true hlv)⟩ : _ ∧ _)⟩
      · go_quiet_grown (first | (go_at_fn 30; refine Calls.grown_of (hcg _ _)))
        go_wp2
        rw [← HP3.out, ← HE.out]
        go_roundg (j - (h + 1))
        case measure => omega
        case rel => exact ⟨h + 1, j, _, _, by go_num, rfl, by omega, by omega, hhi, Nat.le_refl _, HG.out nq osq, (⟨.inr (by rw [Nat.add_sub_cancel, HX.out.1, HX.out.2]; exact decide_eq_false (by omega)), HI0.out.2⟩ : _ ∧ _)⟩
    · obtain rfl : i = j := by omega
      have hltz : ¬ (i : Int) < (i : Int) := by omega
      obtain ⟨en, hen⟩ : ∃ en, mid + m - i = en := ⟨_, rfl⟩
      have hB := HB.out
      have e0 : en + i = mid + m := by omega
      have c1 : a ≤ i := by omega
      have c2 : i ≤ m := by omega
      have c3 : m ≤ en := by omega
      have c4 : en ≤ b := by omega
      have c5 : i ≤ mid := by omega
      have c6 : mid ≤ en := by omega
      have een : (mid : Int) + (m : Int) - (i : Int) = (en : Int) := by omega
      have een2 : ((a : Int) + (b : Int)) / 2 + (m : Int) - (i : Int) = (en : Int) := by have := HE.out; omega
      have HA : Hid ((i < m → m < en → ltOf cfC d[en - 1]! d[i]! = true) ∧ (a < i → en < b → ltOf cfC d[en]! d[i - 1]! = false)) := by
        obtain ⟨x1, x2⟩ := HI0.out
        refine ⟨fun y1 y2 => ?_, fun y1 y2 => ?_⟩
        · rcases x2 with x2 | x2
          · omega
          · rw [show mid + m - 1 - i = en - 1 by omega] at x2; exact x2
        · rcases x1 with x1 | x1
          · omega
          · rw [show mid + m - 1 - (i - 1) = en by omega] at x1; exact x1
      have HF : Hid (∀ d1, PermIn i en d d1 → Rot d d1 i m en → SortedIn (ltOf cfC) a i d1 ∧ SortedIn (ltOf cfC) i mid d1 ∧ SortedIn (ltOf cfC) mid en d1 ∧ SortedIn (ltOf cfC) en b d1 ∧ ∀ d2 d3, PermIn a mid d1 d2 → SortedIn (ltOf cfC) a mid d2 → PermIn mid b d2 d3 → SortedIn (ltOf cfC) mid b d3 → PermIn a b d d3 ∧ SortedIn (ltOf cfC) a b d3) := by
        intro d1 hp hr
        obtain ⟨y1, y2, y3, y4, y5⟩ := rot_halves swoC HS.out.1 HS.out.2 e0 c1 c2 c3 c4 HA.out.1 HA.out.2 hr
        refine ⟨y1, y2, y3, y4, fun d2 d3 p2 t2 p3 t3 => ?_⟩
        have hd1 := hp.1
        obtain ⟨z1, z2⟩ := halves_sorted ⟨by omega, by omega⟩ (by omega) y5 p2 t2 p3 t3
        exact ⟨permIn_trans _ _ _ _ _ (permIn_mono _ _ _ _ a b c1 c4 hb hp) z1, z2⟩
      clear HI0 HA
      by_cases r1 : i < m ∧ m < en
      · have r1a : (i : Int) < (m : Int) := by omega
        have r1b : (m : Int) < (en : Int) := by omega
        go_wp2_with (go_at_call 70; fail)
        refine (HROT.out q os i m en r1.1 r1.2 (by omega) _ _ _ rfl rfl (by first | rfl | omega | (have := HE.out; omega))).mono ?_
        rintro e w1 ⟨rfl, q1, d1, os1, hw1, hz1, hr1, hp1⟩
        have HW1 : Hid (w1 = sW w blk off q1 d1 os1) := hw1
        have HQ : Hid _ := HF.out d1 hp1 hr1
        rw [hw1]
        clear hw1 HW1 hp1 hr1 HF
        by_cases r2 : a < i ∧ i < mid
        · have r2a : (a : Int) < (i : Int) := by omega
          have r2b : (i : Int) < ((a : Int) + (b : Int)) / 2 := by have := HE.out; omega
          go_wp2_with (go_at_call 54; fail)
          refine (HSYM.out q1 d1 os1 hz1 a i mid r2.1 r2.2 (by omega) (by omega) HQ.out.1 HQ.out.2.1 _ _ _ rfl rfl HE.out).mono ?_
          rintro e w2 ⟨rfl, q2, d2, os2, hw2, hz2, hp2, ht2⟩
          have HP2 : Hid (PermIn a mid d1 d2 ∧ SortedIn (ltOf cfC) a mid d2) := ⟨hp2, ht2⟩
          rw [hw2]
          clear hw2 hp2 ht2
          have t1 : SortedIn (ltOf cfC) mid en d2 := SortedIn.other HQ.out.2.2.1 HP2.out.1 (.inr (Nat.le_refl _))
          have t2 : SortedIn (ltOf cfC) en b d2 := SortedIn.other HQ.out.2.2.2.1 HP2.out.1 (.inr c6)
          have HT : Hid (SortedIn (ltOf cfC) mid en d2 ∧ SortedIn (ltOf cfC) en b d2) := ⟨t1, t2⟩
          clear t1 t2
          by_cases r3 : mid < en ∧ en < b
          · have r3a : ((a : Int) + (b : Int)) / 2 < (en : Int) := by have := HE.out; omega
            have r3b : (en : Int) < (b : Int) := by omega
            go_wp2_with (go_at_call 54; fail)
            all_goals (
            refine (HSYM.out q2 d2 os2 hz2 mid en b r3.1 r3.2 hb (by omega) HT.out.1 HT.out.2 _ _ _ HE.out (by first | rfl | omega | (have := HE.out; omega)) rfl).mono ?_
            rintro e w3 ⟨rfl, q3, d3, os3, hw3, hz3, hp3, ht3⟩
            have HP3 : Hid (SymPost w blk off d a b w3) := by
              have := HQ.out.2.2.2.2 d2 d3 HP2.out.1 HP2.out.2 hp3 ht3
              exact ⟨q3, d3, os3, hw3, this.1, this.2⟩
            clear hw3 hp3 ht3
            go_wp2
            go_end0
            exact ⟨rfl, HP3.out⟩)
          · have r3a : (((a : Int) + (b : Int)) / 2 < (en : Int) ∧ ¬ (en : Int) < (b : Int)) ∨ ¬ ((a : Int) + (b : Int)) / 2 < (en : Int) := by have := HE.out; omega
            have HP3 : Hid (SymPost w blk off d a b (sW w blk off q2 d2 os2)) := by
              have := HQ.out.2.2.2.2 d2 d2 HP2.out.1 HP2.out.2 (permIn_refl _ _ _) (half_sorted HT.out.1 HT.out.2 r3 c6 c4)
              exact ⟨q2, d2, os2, rfl, this.1, this.2⟩
            rcases r3a with ⟨r3a, r3b⟩ | r3a
            all_goals (go_wp2 <;> (go_end0; exact ⟨rfl, HP3.out⟩))
        · have r2a : ((a : Int) < (i : Int) ∧ ¬ (i : Int) < ((a : Int) + (b : Int)) / 2) ∨ ¬ (a : Int) < (i : Int) := by have := HE.out; omega
          obtain ⟨q2, d2, os2, hw2, hz2, hp2, ht2⟩ : SPost w blk off d (fun d2 => PermIn a mid d1 d2 ∧ SortedIn (ltOf cfC) a mid d2) (sW w blk off q1 d1 os1) := ⟨q1, d1, os1, rfl, hz1, permIn_refl _ _ _, half_sorted HQ.out.1 HQ.out.2.1 r2 c1 c5⟩
          have HP2 : Hid (PermIn a mid d1 d2 ∧ SortedIn (ltOf cfC) a mid d2) := ⟨hp2, ht2⟩
          rw [hw2]
          clear hw2 hp2 ht2
          rcases r2a with ⟨r2a, r2b⟩ | r2a
          all_goals (
            have t1 : SortedIn (ltOf cfC) mid en d2 := SortedIn.other HQ.out.2.2.1 HP2.out.1 (.inr (Nat.le_refl _))
            have t2 : SortedIn (ltOf cfC) en b d2 := SortedIn.other HQ.out.2.2.2.1 HP2.out.1 (.inr c6)
            have HT : Hid (SortedIn (ltOf cfC) mid en d2 ∧ SortedIn (ltOf cfC) en b d2) := ⟨t1, t2⟩
            clear t1 t2
            by_cases r3 : mid < en ∧ en < b
            · have r3a : ((a : Int) + (b : Int)) / 2 < (en : Int) := by have := HE.out; omega
              have r3b : (en : Int) < (b : Int) := by omega
              go_wp2_with (go_at_call 54; fail)
              all_goals (
              refine (HSYM.out q2 d2 os2 hz2 mid en b r3.1 r3.2 hb (by omega) HT.out.1 HT.out.2 _ _ _ HE.out (by first | rfl | omega | (have := HE.out; omega)) rfl).mono ?_
              rintro e w3 ⟨rfl, q3, d3, os3, hw3, hz3, hp3, ht3⟩
              have HP3 : Hid (SymPost w blk off d a b w3) := by
                have := HQ.out.2.2.2.2 d2 d3 HP2.out.1 HP2.out.2 hp3 ht3
                exact ⟨q3, d3, os3, hw3, this.1, this.2⟩
              clear hw3 hp3 ht3
              go_wp2
              go_end0
              exact ⟨rfl, HP3.out⟩)
            · have r3a : (((a : Int) + (b : Int)) / 2 < (en : Int) ∧ ¬ (en : Int) < (b : Int)) ∨ ¬ ((a : Int) + (b : Int)) / 2 < (en : Int) := by have := HE.out; omega
              have HP3 : Hid (SymPost w blk off d a b (sW w blk off q2 d2 os2)) := by
                have := HQ.out.2.2.2.2 d2 d2 HP2.out.1 HP2.out.2 (permIn_refl _ _ _) (half_sorted HT.out.1 HT.out.2 r3 c6 c4)
                exact ⟨q2, d2, os2, rfl, this.1, this.2⟩
              rcases r3a with ⟨r3a, r3b⟩ | r3a
              all_goals (go_wp2 <;> (go_end0; exact ⟨rfl, HP3.out⟩)))
      · have r1a : ((i : Int) < (m : Int) ∧ ¬ (m : Int) < (en : Int)) ∨ ¬ (i : Int) < (m : Int) := by omega
        have hr0 : Rot d d i m en := by
          rcases (show m = en ∨ i = m by omega) with e | e
          · rw [← e]; exact rot_right d i m
          · rw [e]; exact rot_left d m en
        obtain ⟨q1, d1, os1, hw1, hz1, hr1, hp1⟩ : SPost w blk off d (fun d1 => Rot d d1 i m en ∧ PermIn i en d d1) (sW w blk off q d os) := ⟨q, d, os, rfl, rfl, hr0, permIn_refl _ _ _⟩
        clear hr0
        have HQ : Hid _ := HF.out d1 hp1 hr1
        rw [hw1]
        clear hw1 hp1 hr1 HF
        rcases r1a with ⟨r1a, r1b⟩ | r1a
        all_goals (
          by_cases r2 : a < i ∧ i < mid
          · have r2a : (a : Int) < (i : Int) := by omega
            have r2b : (i : Int) < ((a : Int) + (b : Int)) / 2 := by have := HE.out; omega
            go_wp2_with (go_at_call 54; fail)
            refine (HSYM.out q1 d1 os1 hz1 a i mid r2.1 r2.2 (by omega) (by omega) HQ.out.1 HQ.out.2.1 _ _ _ rfl rfl HE.out).mono ?_
            rintro e w2 ⟨rfl, q2, d2, os2, hw2, hz2, hp2, ht2⟩
            have HP2 : Hid (PermIn a mid d1 d2 ∧ SortedIn (ltOf cfC) a mid d2) := ⟨hp2, ht2⟩
            rw [hw2]
            clear hw2 hp2 ht2
            have t1 : SortedIn (ltOf cfC) mid en d2 := SortedIn.other HQ.out.2.2.1 HP2.out.1 (.inr (Nat.le_refl _))
            have t2 : SortedIn (ltOf cfC) en b d2 := SortedIn.other HQ.out.2.2.2.1 HP2.out.1 (.inr c6)
            have HT : Hid (SortedIn (ltOf cfC) mid en d2 ∧ SortedIn (ltOf cfC) en b d2) := ⟨t1, t2⟩
            clear t1 t2
            by_cases r3 : mid < en ∧ en < b
            · have r3a : ((a : Int) + (b : Int)) / 2 < (en : Int) := by have := HE.out; omega
              have r3b : (en : Int) < (b : Int) := by omega
              go_wp2_with (go_at_call 54; fail)
              all_goals (
              refine (HSYM.out q2 d2 os2 hz2 mid en b r3.1 r3.2 hb (by omega) HT.out.1 HT.out.2 _ _ _ HE.out (by first | rfl | omega | (have := HE.out; omega)) rfl).mono ?_
              rintro e w3 ⟨rfl, q3, d3, os3, hw3, hz3, hp3, ht3⟩
              have HP3 : Hid (SymPost w blk off d a b w3) := by
                have := HQ.out.2.2.2.2 d2 d3 HP2.out.1 HP2.out.2 hp3 ht3
                exact ⟨q3, d3, os3, hw3, this.1, this.2⟩
              clear hw3 hp3 ht3
              go_wp2
              go_end0
              exact ⟨rfl, HP3.out⟩)
            · have r3a : (((a : Int) + (b : Int)) / 2 < (en : Int) ∧ ¬ (en : Int) < (b : Int)) ∨ ¬ ((a : Int) + (b : Int)) / 2 < (en : Int) := by have := HE.out; omega
              have HP3 : Hid (SymPost w blk off d a b (sW w blk off q2 d2 os2)) := by
                have := HQ.out.2.2.2.2 d2 d2 HP2.out.1 HP2.out.2 (permIn_refl _ _ _) (half_sorted HT.out.1 HT.out.2 r3 c6 c4)
                exact ⟨q2, d2, os2, rfl, this.1, this.2⟩
              rcases r3a with ⟨r3a, r3b⟩ | r3a
              all_goals (go_wp2 <;> (go_end0; exact ⟨rfl, HP3.out⟩))
          · have r2a : ((a : Int) < (i : Int) ∧ ¬ (i : Int) < ((a : Int) + (b : Int)) / 2) ∨ ¬ (a : Int) < (i : Int) := by have := HE.out; omega
            obtain ⟨q2, d2, os2, hw2, hz2, hp2, ht2⟩ : SPost w blk off d (fun d2 => PermIn a mid d1 d2 ∧ SortedIn (ltOf cfC) a mid d2) (sW w blk off q1 d1 os1) := ⟨q1, d1, os1, rfl, hz1, permIn_refl _ _ _, half_sorted HQ.out.1 HQ.out.2.1 r2 c1 c5⟩
            have HP2 : Hid (PermIn a mid d1 d2 ∧ SortedIn (ltOf cfC) a mid d2) := ⟨hp2, ht2⟩
            rw [hw2]
            clear hw2 hp2 ht2
            rcases r2a with ⟨r2a, r2b⟩ | r2a
            all_goals (
              have t1 : SortedIn (ltOf cfC) mid en d2 := SortedIn.other HQ.out.2.2.1 HP2.out.1 (.inr (Nat.le_refl _))
              have t2 : SortedIn (ltOf cfC) en b d2 := SortedIn.other HQ.out.2.2.2.1 HP2.out.1 (.inr c6)
              have HT : Hid (SortedIn (ltOf cfC) mid en d2 ∧ SortedIn (ltOf cfC) en b d2) := ⟨t1, t2⟩
              clear t1 t2
              by_cases r3 : mid < en ∧ en < b
              · have r3a : ((a : Int) + (b : Int)) / 2 < (en : Int) := by have := HE.out; omega
                have r3b : (en : Int) < (b : Int) := by omega
                go_wp2_with (go_at_call 54; fail)
                all_goals (
                refine (HSYM.out q2 d2 os2 hz2 mid en b r3.1 r3.2 hb (by omega) HT.out.1 HT.out.2 _ _ _ HE.out (by first | rfl | omega | (have := HE.out; omega)) rfl).mono ?_
                rintro e w3 ⟨rfl, q3, d3, os3, hw3, hz3, hp3, ht3⟩
                have HP3 : Hid (SymPost w blk off d a b w3) := by
                  have := HQ.out.2.2.2.2 d2 d3 HP2.out.1 HP2.out.2 hp3 ht3
                  exact ⟨q3, d3, os3, hw3, this.1, this.2⟩
                clear hw3 hp3 ht3
                go_wp2
                go_end0
                exact ⟨rfl, HP3.out⟩)
              · have r3a : (((a : Int) + (b : Int)) / 2 < (en : Int) ∧ ¬ (en : Int) < (b : Int)) ∨ ¬ ((a : Int) + (b : Int)) / 2 < (en : Int) := by have := HE.out; omega
                have HP3 : Hid (SymPost w blk off d a b (sW w blk off q2 d2 os2)) := by
                  have := HQ.out.2.2.2.2 d2 d2 HP2.out.1 HP2.out.2 (permIn_refl _ _ _) (half_sorted HT.out.1 HT.out.2 r3 c6 c4)
                  exact ⟨q2, d2, os2, rfl, this.1, this.2⟩
                rcases r3a with ⟨r3a, r3b⟩ | r3a
                all_goals (go_wp2 <;> (go_end0; exact ⟨rfl, HP3.out⟩))))

theorem symOK : ∀ N, SymOK N
  | 0 => fun blk off cap a m b d w _ _ h1 h2 _ _ hN _ _ => by omega
  | N + 1 => fun blk off cap a m b d w hH hblk h1 h2 hb hsz hN s1 s2 => by
    by_cases e1 : m = a + 1
    · subst e1
      exact symL_c blk off cap a b d w hH hblk h2 hb hsz s2
    · by_cases e2 : b = m + 1
      · subst e2
        exact symR_c blk off cap a m d w hH hblk (by omega) hb hsz s1
      · by_cases e3 : m ≤ (a + b) / 2
        · exact sym_le N (symOK N) blk off cap a m b d w hH hblk (by omega) (by omega) hb hsz hN s1 s2 e3
        · exact sym_gt N (symOK N) blk off cap a m b d w hH hblk (by omega) (by omega) hb hsz hN s1 s2 (by omega)
end Go.Proofs.YtdbpggncpkocaaaGreatDoor
