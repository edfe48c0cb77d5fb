/-
  slices.SortStableFunc over constructors, by a contract.
  Rows of constructors in memory; their sorting, by a contract.
-/
import Derived.Test.YtdbpggncpkocaaaGreatDoorGSg
import Derived.Sort.OwnSorted
import Derived.Maps.AppendAt
namespace Go.Proofs.YtdbpggncpkocaaaGreatDoor
open Go.RowKit Go.Shelf Go.Sort
set_option linter.unusedVariables false

def Tryz.ins_ren : Go.Shelf.Ren := ⟨fun | 20 => 53 | n => n, fun | 0 => 0 | 3 => 3 | 4 => 4 | 22 => 23 | 24 => 38 | 25 => 53 | n => n, fun n => n⟩
theorem Tryz.ins : Go.Proofs.SlLaysF0.n20 Tryz.prog Tryz.ins_ren := {
  mixed := by kernel_rfl
  f20 := ⟨Tryz.f53.name, by kernel_rfl, Tryz.func53.trans (congrArg some (by kernel_rfl))⟩
  t0 := Tryz.underlying0
  a0 := Tryz.isAgg0
  z0 := Tryz.sizeOf0
  v0 := Tryz.zeroValue0
  t3 := Tryz.underlying3
  a3 := Tryz.isAgg3
  z3 := Tryz.sizeOf3
  v3 := Tryz.zeroValue3
  t4 := Tryz.underlying4
  a4 := Tryz.isAgg4
  z4 := Tryz.sizeOf4
  v4 := Tryz.zeroValue4
  t22 := Tryz.underlying23
  a22 := Tryz.isAgg23
  z22 := Tryz.sizeOf23
  v22 := Tryz.zeroValue23
  t25 := Tryz.underlying53
  a25 := Tryz.isAgg53
  z25 := Tryz.sizeOf53
  v25 := Tryz.zeroValue53 }
theorem ins_c (blk off cap a b : Nat) (d : Array CT) (w : World) (hH : HoldsK cnC 4 w blk off d) (hblk : blk < w.heap.size) (hab : a ≤ b) (hb : b ≤ d.size) (hsz : d.size < 4611686018427387904) :
    Calls Tryz.prog 53 #[.slice (some ⟨blk, off, none⟩) d.size cap, .int .i64 a, .int .i64 b, .func (.func 30) #[] #[]] w fun e w' => e = .returned (.tuple #[]) ∧ SymPost w blk off d a b w' := by
  have h := AnyQ.insertionSortCmpFunc Tryz.ins 4 Tryz.isAgg38 Tryz.sizeOf38 cnC cnC_len cnC_one cfC 30 #[] blk off cap a b d w (enters_of Tryz.func30 (by kernel_rfl) rfl) (fun m os dk _ x y => by rw [Array.append_empty]; exact byTT_c x y _) hH hblk hab hb hsz
  refine h.mono ?_
  rintro e w' ⟨rfl, n, os, rfl⟩
  have := insertionSort_holds (lt := ltOf cfC) swoC d a b hab hb
  exact ⟨rfl, n, _, os, rfl, this.1, this.2⟩
theorem ins_at {blk off : Nat} (cap : Nat) {d : Array CT} {w : World} (hH : HoldsK cnC 4 w blk off d) (hblk : blk < w.heap.size) (hsz : d.size < 4611686018427387904) (q : Nat) (dk : Array CT) (os : Array Obj) (hs : dk.size = d.size) (a b : Nat) (hab : a ≤ b) (hb : b ≤ d.size) (x y : Int) (hx : x = (a : Int)) (hy : y = (b : Int)) :
    Calls Tryz.prog 53 #[.slice (some ⟨blk, off, none⟩) d.size cap, .int .i64 x, .int .i64 y, .func (.func 30) #[] #[]] (sW w blk off q dk os) fun e w' => e = .returned (.tuple #[]) ∧ SPost w blk off d (fun d' => PermIn a b dk d' ∧ SortedIn (ltOf cfC) a b d') w' := by
  subst hx hy
  have hins := ins_c blk off cap a b dk (sW w blk off q dk os) (sW_holds hH hblk hs) (sW_lt hblk _ _ _ _) hab (by omega) (by omega)
  rw [hs] at hins
  refine hins.mono ?_
  rintro e w' ⟨rfl, q2, d', os2, rfl, hp, hq⟩
  exact ⟨rfl, _, d', _, sW_on w blk off q q2 dk d' os os2 hblk hp.1, hp.1.trans hs, hp, hq⟩

section
variable {lt : CT → CT → Bool} {d dk d4 : Array CT} {x p bs : Nat}
theorem runs_mid (hx : x = p * (2 * bs)) (h : Runs lt bs d.size (p * (2 * bs)) dk) (hb : 0 < bs) (hl : x + 2 * bs ≤ d.size) : SortedIn lt x (x + bs) dk ∧ SortedIn lt (x + bs) (x + 2 * bs) dk := by
  have ht := runs_two h
  rw [← hx, Nat.min_eq_left (by omega), Nat.min_eq_left (by omega)] at ht
  exact ht
theorem runs_last (hx : x = p * (2 * bs)) (h : Runs lt bs d.size (p * (2 * bs)) dk) (hl : x + bs ≤ d.size) (hn : d.size ≤ x + 2 * bs) : SortedIn lt x (x + bs) dk ∧ SortedIn lt (x + bs) d.size dk := by
  have ht := runs_two h
  rw [← hx, Nat.min_eq_left (by omega), Nat.min_eq_right (by omega)] at ht
  exact ht
theorem runs_short (hx : x = p * (2 * bs)) (h : Runs lt bs d.size (p * (2 * bs)) dk) (hn : d.size ≤ x + bs) : SortedIn lt x d.size dk := by
  have ht := (runs_two h).1
  rw [← hx, Nat.min_eq_right (by omega)] at ht
  exact ht
theorem runs_on (hs : dk.size = d.size) (hb : 0 < bs) (h : x = p * (2 * bs) ∧ RunsTo lt (2 * bs) (p * (2 * bs)) dk ∧ Runs lt bs d.size (p * (2 * bs)) dk ∧ PermIn 0 d.size d dk) (hl : x + 2 * bs ≤ d.size) (hp : PermIn x (x + 2 * bs) dk d4) (hq : SortedIn lt x (x + 2 * bs) d4) :
    x + 2 * bs = (p + 1) * (2 * bs) ∧ RunsTo lt (2 * bs) ((p + 1) * (2 * bs)) d4 ∧ Runs lt bs d.size ((p + 1) * (2 * bs)) d4 ∧ PermIn 0 d.size d d4 := by
  obtain ⟨hx3, h31, h32, h33⟩ := h
  have e1 : (p + 1) * (2 * bs) = p * (2 * bs) + 2 * bs := by rw [Nat.add_mul, Nat.one_mul]
  rw [e1, ← hx3]
  refine ⟨rfl, ?_, h32.other hp (by omega) (Nat.le_refl _), permIn_trans _ _ _ _ _ h33 (permIn_mono _ _ _ _ 0 d.size (by omega) hl (by omega) hp)⟩
  rw [hx3] at hp hq ⊢
  exact RunsTo.step (n := d.size) (by omega) h31 hp hq
theorem runs_end (hs : dk.size = d.size) (hb : 0 < bs) (h : x = p * (2 * bs) ∧ RunsTo lt (2 * bs) (p * (2 * bs)) dk ∧ Runs lt bs d.size (p * (2 * bs)) dk ∧ PermIn 0 d.size d dk) (hl : d.size < x + 2 * bs) (hp : PermIn x d.size dk d4) (hq : SortedIn lt x d.size d4) : Runs lt (2 * bs) d.size 0 d4 ∧ PermIn 0 d.size d d4 := by
  obtain ⟨hx3, h31, h32, h33⟩ := h
  refine ⟨?_, permIn_trans _ _ _ _ _ h33 (permIn_mono _ _ _ _ 0 d.size (by omega) (Nat.le_refl _) (by omega) hp)⟩
  rw [hx3] at hp hq
  exact runs_of (by omega) h31 (by omega) (by omega) hp hq
end

set_option maxRecDepth 100000 in
set_option maxHeartbeats 8000000 in
theorem stable_c (blk off cap : Nat) (d : Array CT) (w : World) (hH : HoldsK cnC 4 w blk off d) (hblk : blk < w.heap.size) (hsz : d.size < 1152921504606846976) :
    Calls Tryz.prog 41 #[.slice (some ⟨blk, off, none⟩) d.size cap, .int .i64 d.size, .func (.func 30) #[] #[]] w fun e w' => e = .returned (.tuple #[]) ∧ SymPost w blk off d 0 d.size w' := by
  have HST : Hid (w = sW w blk off 0 d #[]) := sW_start hH
  have HINS : Hid (∀ (q : Nat) (dk : Array CT) (os : Array Obj), dk.size = d.size → ∀ a b : Nat, a ≤ b → b ≤ d.size → ∀ x y : Int, x = (a : Int) → y = (b : Int) → Calls Tryz.prog 53 #[.slice (some ⟨blk, off, none⟩) d.size cap, .int .i64 x, .int .i64 y, .func (.func 30) #[] #[]] (sW w blk off q dk os) fun e w' => e = .returned (.tuple #[]) ∧ SPost w blk off d (fun d' => PermIn a b dk d' ∧ SortedIn (ltOf cfC) a b d') w') := fun q dk os hs a b h1 h2 x y hx hy => ins_at cap hH hblk (by omega) q dk os hs a b h1 h2 x y hx hy
  have HSYM : Hid (∀ (q : Nat) (dk : Array CT) (os : Array Obj), dk.size = d.size → ∀ a m b : Nat, a < m → m < b → b ≤ d.size → SortedIn (ltOf cfC) a m dk → SortedIn (ltOf cfC) m b dk → ∀ x y z : Int, x = (a : Int) → y = (m : Int) → z = (b : Int) → Calls Tryz.prog 54 #[.slice (some ⟨blk, off, none⟩) d.size cap, .int .i64 x, .int .i64 y, .int .i64 z, .func (.func 30) #[] #[]] (sW w blk off q dk os) fun e w' => e = .returned (.tuple #[]) ∧ SPost w blk off d (fun d' => PermIn a b dk d' ∧ SortedIn (ltOf cfC) a b d') w') := fun q dk os hs a m b h1 h2 h3 h5 h6 x y z hx hy hz => sym_at cap (symOK (b - a)) hH hblk (by omega) q dk os hs a m b h1 h2 h3 (Nat.le_refl _) h5 h6 x y z hx hy hz
  clear hH
  go_enter Tryz.func41, Tryz.ntmps41
  go_wp2
  go_loopg [7, 8] (d.size + 20) (fun g va vb wr => ∃ (x p q : Nat) (dk : Array CT) (os : Array Obj), va = .int .i64 x ∧ vb = .int .i64 ((x : Int) + 20) ∧ x ≤ d.size ∧ d.size - x ≤ g ∧ dk.size = d.size ∧ wr = sW w blk off q dk os ∧ Hid (x = p * 20 ∧ RunsTo (ltOf cfC) 20 (p * 20) dk ∧ PermIn 0 d.size d dk))
  case atStart => exact ⟨0, 0, 0, d, #[], rfl, rfl, Nat.zero_le _, by omega, rfl, HST.out, (⟨rfl, runsTo_nil (by omega) d, permIn_refl _ _ _⟩ : _ ∧ _ ∧ _)⟩
  case round =>
    obtain ⟨x, p, q, dk, os, rfl, rfl, hxn, hg, hsk, rfl, HR⟩ := hrel
    by_cases hlt : x + 20 ≤ d.size
    · have hltz : (x : Int) + 20 ≤ (d.size : Int) := by omega
      go_wp2_with (go_at_call 53; fail)
      refine (HINS.out q dk os hsk x (x + 20) (by omega) hlt _ _ rfl (by omega)).mono ?_
      rintro e w1 ⟨rfl, q1, d1, os1, hw1, hz1, hp1, hs1⟩
      have HP : Hid (x + 20 = (p + 1) * 20 ∧ RunsTo (ltOf cfC) 20 ((p + 1) * 20) d1 ∧ PermIn 0 d.size d d1) := by
        obtain ⟨hx, h1, h2⟩ := HR.out
        have hx2 : x + 20 = (p + 1) * 20 := by omega
        refine ⟨hx2, ?_, permIn_trans _ _ _ _ _ h2 (permIn_mono _ _ _ _ 0 d.size (by omega) hlt (by omega) hp1)⟩
        rw [hx] at hp1 hs1
        have := RunsTo.step (n := d.size) (by omega) h1 hp1 hs1
        rw [show (p + 1) * 20 = p * 20 + 20 by omega]
        exact this
      rw [hw1]
      clear hw1 hp1 hs1 HR
      go_wp2
      go_roundg (d.size - (x + 20))
      case measure => omega
      case rel => exact ⟨x + 20, p + 1, q1, d1, os1, by go_num, by (congr 1 <;> omega), by omega, Nat.le_refl _, hz1, rfl, HP⟩
    · have hltz : ¬ (x : Int) + 20 ≤ (d.size : Int) := by omega
      go_wp2_with (go_at_call 53; fail)
      refine (HINS.out q dk os hsk x d.size hxn (Nat.le_refl _) _ _ rfl rfl).mono ?_
      rintro e w1 ⟨rfl, q1, d1, os1, hw1, hz1, hp1, hs1⟩
      have HP : Hid (Runs (ltOf cfC) 20 d.size 0 d1 ∧ PermIn 0 d.size d d1) := by
        obtain ⟨hx, h1, h2⟩ := HR.out
        refine ⟨?_, permIn_trans _ _ _ _ _ h2 (permIn_mono _ _ _ _ 0 d.size (by omega) (Nat.le_refl _) (by omega) hp1)⟩
        rw [hx] at hp1 hs1
        exact runs_of (by omega) h1 (by omega) (by omega) hp1 hs1
      rw [hw1]
      clear hw1 hp1 hs1 HR
      go_wp2
      go_loopg [6] (d.size + 20) (fun g vbs wr => ∃ (bs q : Nat) (dk : Array CT) (os : Array Obj), vbs = .int .i64 bs ∧ 20 ≤ bs ∧ bs < 2305843009213693952 ∧ d.size - bs ≤ g ∧ dk.size = d.size ∧ wr = sW w blk off q dk os ∧ Hid (Runs (ltOf cfC) bs d.size 0 dk ∧ PermIn 0 d.size d dk))
      case atStart => exact ⟨20, q1, d1, os1, rfl, Nat.le_refl _, by omega, by omega, hz1, rfl, HP⟩
      case round =>
        clear HP
        obtain ⟨bs, q2, dk2, os2, rfl, hbs, hbs2, hg2, hsk2, rfl, HR2⟩ := hrel
        by_cases hlt2 : bs < d.size
        · have hltz2 : (bs : Int) < (d.size : Int) := by omega
          go_wp2
          go_loopg [7, 8] (d.size + 1) (fun g va vb wr => ∃ (x p q : Nat) (dk : Array CT) (os : Array Obj), va = .int .i64 x ∧ vb = .int .i64 ((x : Int) + 2 * (bs : Int)) ∧ x ≤ d.size ∧ d.size - x ≤ g ∧ dk.size = d.size ∧ wr = sW w blk off q dk os ∧ Hid (x = p * (2 * bs) ∧ RunsTo (ltOf cfC) (2 * bs) (p * (2 * bs)) dk ∧ Runs (ltOf cfC) bs d.size (p * (2 * bs)) dk ∧ PermIn 0 d.size d dk))
          case atStart => exact ⟨0, 0, q2, dk2, os2, rfl, by (congr 1 <;> omega), Nat.zero_le _, by omega, hsk2, rfl, (⟨by omega, by rw [Nat.zero_mul]; exact runsTo_nil (by omega) dk2, by rw [Nat.zero_mul]; exact HR2.out.1, HR2.out.2⟩ : _ ∧ _ ∧ _ ∧ _)⟩
          case round =>
            clear HR2
            obtain ⟨x3, p3, q3, dk3, os3, rfl, rfl, hxn3, hg3, hsk3, rfl, HR3⟩ := hrel
            by_cases hlt3 : x3 + 2 * bs ≤ d.size
            · have hltz3 : (x3 : Int) + 2 * (bs : Int) ≤ (d.size : Int) := by omega
              have HT : Hid (SortedIn (ltOf cfC) x3 (x3 + bs) dk3 ∧ SortedIn (ltOf cfC) (x3 + bs) (x3 + 2 * bs) dk3) := runs_mid HR3.out.1 HR3.out.2.2.1 (by omega) hlt3
              have HP : Hid (∀ d4 : Array CT, PermIn x3 (x3 + 2 * bs) dk3 d4 → SortedIn (ltOf cfC) x3 (x3 + 2 * bs) d4 → (x3 + 2 * bs = (p3 + 1) * (2 * bs) ∧ RunsTo (ltOf cfC) (2 * bs) ((p3 + 1) * (2 * bs)) d4 ∧ Runs (ltOf cfC) bs d.size ((p3 + 1) * (2 * bs)) d4 ∧ PermIn 0 d.size d d4)) := fun d4 hp4 hs4 => runs_on hsk3 (by omega) HR3.out hlt3 hp4 hs4
              clear HR3
              go_wp2_with (go_at_call 54; fail)
              refine (HSYM.out q3 dk3 os3 hsk3 x3 (x3 + bs) (x3 + 2 * bs) (by omega) (by omega) (by omega) HT.out.1 HT.out.2 _ _ _ rfl (by omega) (by omega)).mono ?_
              rintro e w4 ⟨rfl, q4, d4, os4, hw4, hz4, hp4, hs4⟩
              have HP2 : Hid _ := HP.out d4 hp4 hs4
              rw [hw4]
              clear hw4 hp4 hs4 HT HP
              go_wp2
              go_roundg (d.size - (x3 + 2 * bs))
              case measure => omega
              case rel => exact ⟨x3 + 2 * bs, p3 + 1, q4, d4, os4, by (congr 1 <;> omega), by (congr 1 <;> omega), by omega, Nat.le_refl _, hz4, rfl, HP2⟩
            · have hltz3 : ¬ (x3 : Int) + 2 * (bs : Int) ≤ (d.size : Int) := by omega
              by_cases hlt5 : x3 + bs < d.size
              · have hltz5 : (x3 : Int) + (bs : Int) < (d.size : Int) := by omega
                have HT : Hid (SortedIn (ltOf cfC) x3 (x3 + bs) dk3 ∧ SortedIn (ltOf cfC) (x3 + bs) d.size dk3) := runs_last HR3.out.1 HR3.out.2.2.1 (by omega) (by omega)
                have HP : Hid (∀ d4 : Array CT, PermIn x3 d.size dk3 d4 → SortedIn (ltOf cfC) x3 d.size d4 → (Runs (ltOf cfC) (2 * bs) d.size 0 d4 ∧ PermIn 0 d.size d d4)) := fun d4 hp4 hs4 => runs_end hsk3 (by omega) HR3.out (by omega) hp4 hs4
                clear HR3
                go_wp2_with (go_at_call 54; fail)
                refine (HSYM.out q3 dk3 os3 hsk3 x3 (x3 + bs) d.size (by omega) (by omega) (by omega) HT.out.1 HT.out.2 _ _ _ rfl (by omega) rfl).mono ?_
                rintro e w4 ⟨rfl, q4, d4, os4, hw4, hz4, hp4, hs4⟩
                have HP2 : Hid _ := HP.out d4 hp4 hs4
                rw [hw4]
                clear hw4 hp4 hs4 HT HP
                go_wp2
                go_roundg (d.size - 2 * bs)
                case measure => omega
                case rel => exact ⟨2 * bs, q4, d4, os4, by (congr 1 <;> omega), by omega, by omega, Nat.le_refl _, hz4, rfl, HP2⟩
              · have hltz5 : ¬ (x3 : Int) + (bs : Int) < (d.size : Int) := by omega
                have HP2 : Hid (Runs (ltOf cfC) (2 * bs) d.size 0 dk3 ∧ PermIn 0 d.size d dk3) := runs_end hsk3 (by omega) HR3.out (by omega) (permIn_refl _ _ _) (runs_short HR3.out.1 HR3.out.2.2.1 (by omega))
                clear HR3
                go_wp2
                go_roundg (d.size - 2 * bs)
                case measure => omega
                case rel => exact ⟨2 * bs, q3, dk3, os3, by (congr 1 <;> omega), by omega, by omega, Nat.le_refl _, hsk3, rfl, HP2⟩
        · have hltz2 : ¬ (bs : Int) < (d.size : Int) := by omega
          go_wp2
          go_end0
          exact ⟨rfl, ⟨q2, dk2, os2, rfl, HR2.out.2, HR2.out.1.whole (by omega)⟩⟩
end Go.Proofs.YtdbpggncpkocaaaGreatDoor

namespace Go.Proofs.YtdbpggncpkocaaaGreatDoor
open Go.RowKit Go.Shelf Go.Sort
set_option linter.unusedVariables false

def flatC (l : List CT) : List Value := l.flatMap cnC
theorem flatC_len (l : List CT) : (flatC l).length = l.length * 4 := by
  induction l with
  | nil => rfl
  | cons c l ih => simp only [flatC, List.flatMap_cons, List.length_append, cnC_len, List.length_cons] at *; omega
theorem flatC_get : ∀ (l : List CT) (t : Nat), (flatC l)[t]? = l[t / 4]?.bind (fun c => (cnC c)[t % 4]?)
  | [], t => by simp [flatC]
  | c :: l, t => by
    simp only [flatC, List.flatMap_cons]
    by_cases h : t < 4
    · rw [List.getElem?_append_left (by rw [cnC_len]; exact h)]
      rw [Nat.div_eq_of_lt h, Nat.mod_eq_of_lt h]
      simp
    · have ih := flatC_get l (t - 4)
      rw [List.getElem?_append_right (by rw [cnC_len]; omega), cnC_len]
      show (flatC l)[t - 4]? = _
      rw [ih]
      have e1 : t / 4 = (t - 4) / 4 + 1 := by omega
      have e2 : t % 4 = (t - 4) % 4 := by omega
      rw [e1, e2]
      simp
theorem flatK_flat (d : Array CT) : (flatK cnC 4 d).toList = flatC d.toList := by
  apply List.ext_getElem?
  intro t
  rw [flatC_get]
  by_cases h : t < d.size * 4
  · have h1 : t / 4 < d.size := by omega
    have hh : t < (flatK cnC 4 d).size := by simpa using h
    rw [Array.getElem?_toList, Array.getElem?_eq_getElem hh, ← getElem!_pos (flatK cnC 4 d) t hh, get_flatK _ _ _ _ h]
    rw [Array.getElem?_toList, Array.getElem?_eq_getElem h1, ← getElem!_pos d (t / 4) h1]
    have h2 : t % 4 < (cnC d[t / 4]!).length := by rw [cnC_len]; omega
    simp only [Option.bind_some]
    rw [List.getElem?_eq_getElem h2, getElem!_pos (cnC d[t / 4]!) (t % 4) h2]
  · rw [List.getElem?_eq_none (by simpa using h), List.getElem?_eq_none (by simp; omega)]
    rfl

/-- A row of constructors that its slice owns. -/
def ConsRow (W : World) (base : Nat) (v : Value) (l : List CT) : Prop := W.ownsRow base 38 4 v l.length (flatC l)
/-- A row of constructors that can be read: its cells at block g. -/
def ConsAt (W : World) (g : Nat) (l : List CT) : Prop := ∀ k (hk : k < l.length), W.cell? ⟨g, k * 4, none⟩ = some (.string l[k].1) ∧ W.cell? ⟨g, k * 4 + 1, none⟩ = some (.int .i64 l[k].2.1) ∧ W.cell? ⟨g, k * 4 + 2, none⟩ = some (.string l[k].2.2.1) ∧ W.cell? ⟨g, k * 4 + 3, none⟩ = some (.int .i64 l[k].2.2.2)
theorem holdsC_of {w : World} {g : Nat} {cur : Array Value} {e : TypeId} {l : List CT} (hb : w.heap[g]? = some (.cells cur e (0, 0))) (ht : cur.toList.take (l.length * 4) = flatC l) : HoldsK cnC 4 w g 0 l.toArray := by
  intro j hj
  have hj' : j < l.length * 4 := by simpa using hj
  refine ⟨?_, by simp [World.frozen?, hb]⟩
  have h1 : (cur.toList.take (l.length * 4))[j]? = (flatK cnC 4 l.toArray).toList[j]? := by rw [ht, flatK_flat]
  rw [List.getElem?_take_of_lt hj', Array.getElem?_toList] at h1
  simp only [World.cell?, hb, Nat.zero_add]
  simp only [Option.isSome_none, Bool.false_eq_true, if_false]
  rw [h1, Array.getElem?_toList, Array.getElem?_eq_getElem hj, getElem!_pos (flatK cnC 4 l.toArray) j hj]
  rfl
theorem ConsRow.shape {W : World} {base : Nat} {v : Value} {l : List CT} (h : ConsRow W base v l) (hl : l ≠ []) : ∃ g cap cur, v = .slice (some ⟨g, 0, none⟩) l.length cap ∧ base ≤ g ∧ g < W.heap.size ∧ W.heap[g]? = some (.cells cur 38 (0, 0)) ∧ l.length ≤ cap ∧ cap ≤ maxLen ∧ cur.size = cap * 4 ∧ cur.toList.take (l.length * 4) = flatC l := by
  rcases h.2 with ⟨_, h0⟩ | ⟨g, cap, cur, h1, h2, h3, h4, h5, h6, h7⟩
  · exact absurd (List.eq_nil_of_length_eq_zero h0) hl
  · exact ⟨g, cap, cur, h1, h2, (Array.getElem?_eq_some_iff.1 h3).1, h3, h4, h5, h6, h7⟩
theorem ConsRow.at {W : World} {base : Nat} {v : Value} {l : List CT} (h : ConsRow W base v l) (hl : l ≠ []) : ∃ g cap, v = .slice (some ⟨g, 0, none⟩) l.length cap ∧ base ≤ g ∧ g < W.heap.size ∧ ConsAt W g l := by
  obtain ⟨g, cap, cur, h1, h2, h3, h4, h5, h6, h7, h8⟩ := h.shape hl
  refine ⟨g, cap, h1, h2, h3, fun k hk => ?_⟩
  have := holds4 (holdsC_of h4 h8) k (by simpa using hk)
  have e : l.toArray[k]! = l[k] := by rw [getElem!_pos l.toArray k (by simpa using hk)]; simp
  rw [e] at this
  simpa using this
theorem ConsAt.below {W W' : World} {g n : Nat} {l : List CT} (h : ConsAt W g l) (hg : g < n) (hb : Below n W W') : ConsAt W' g l := fun k hk => by
  obtain ⟨h0, h1, h2, h3⟩ := h k hk
  exact ⟨(hb.cell (p := ⟨g, k * 4, none⟩) hg).trans h0, (hb.cell (p := ⟨g, k * 4 + 1, none⟩) hg).trans h1, (hb.cell (p := ⟨g, k * 4 + 2, none⟩) hg).trans h2, (hb.cell (p := ⟨g, k * 4 + 3, none⟩) hg).trans h3⟩

theorem heap_sW {w : World} {g m : Nat} {os : Array Obj} {cur : Array Value} {e : TypeId} {fr : Nat × Nat} (d : Array CT) (hb : w.heap[g]? = some (.cells cur e fr)) :
    (sW w g 0 m d os).heap[g]? = some (.cells (putCells id 0 (flatK cnC 4 d) cur) e fr) := by
  have hg : g < w.heap.size := (Array.getElem?_eq_some_iff.1 hb).1
  unfold sW sortWorldK putRowK
  rw [heap_grow_old _ _ (by simpa using hg)]
  simp [putRow, mapBlock, Sort.ahead, Array.getElem?_modify, hb, onCells]
theorem grownBy_sW {w : World} {g m : Nat} {os : Array Obj} (d : Array CT) : w.grownBy (sW w g 0 m d os) (some g) := by
  unfold sW sortWorldK putRowK
  refine ⟨rfl, rfl, rfl, by simp, fun k hk hne => ?_⟩
  rw [heap_grow_old _ _ (by simpa using hk)]
  have : g ≠ k := fun e => hne (by rw [e])
  simp [putRow, mapBlock, Sort.ahead, Array.getElem?_modify, this]
theorem take_putK (cur : Array Value) (F : Array Value) (h : F.size ≤ cur.size) : (putCells id 0 F cur).toList.take F.size = F.toList := by
  apply List.ext_getElem?
  intro j
  by_cases hj : j < F.size
  · rw [List.getElem?_take_of_lt hj, Array.getElem?_toList, Array.getElem?_toList]
    simp [putCells, hj, show j < cur.size by omega]
  · rw [List.getElem?_take_eq_none (by omega), List.getElem?_eq_none (by simp; omega)]
/-- No later one stands ahead of an earlier one. -/
def Srt (l : List CT) : Prop := l.Pairwise (fun x y => ltC y x = false)
theorem srt_of {d : Array CT} (h : SortedIn (ltOf cfC) 0 d.size d) : Srt d.toList := by
  unfold Srt
  rw [List.pairwise_iff_getElem]
  intro i j hi hj hij
  have hi' : i < d.size := by simpa using hi
  have hj' : j < d.size := by simpa using hj
  have := h i j (Nat.zero_le _) hij hj'
  rw [getElem!_pos d i hi', getElem!_pos d j hj', ltC_of] at this
  simpa using this
theorem perm_of {d d' : Array CT} (h : PermIn 0 d.size d d') : d'.toList.Perm d.toList := by
  have h1 := h.2.2
  have e1 : (d.extract 0 d.size) = d := by simp
  have e2 : (d'.extract 0 d.size) = d' := by rw [← h.1]; simp
  rw [e1, e2] at h1
  exact h1

set_option maxRecDepth 100000 in
set_option maxHeartbeats 2000000 in
theorem sortRow_c (w : World) (base : Nat) (v : Value) (l : List CT) (h : ConsRow w base v l) (hl : l ≠ []) (hn : l.length < 1152921504606846976) :
    Calls Tryz.prog 29 #[v, .func (.func 30) #[] #[]] w fun e w' => e = .returned (.tuple #[]) ∧ ∃ l', l'.Perm l ∧ Srt l' ∧ ConsRow w' base v l' ∧ w.grownBy w' v.ownBlock := by
  obtain ⟨g, cap, cur, rfl, h2, h3, h4, h5, h6, h7, h8⟩ := h.shape hl
  have HP : Hid (∀ w' : World, SymPost w g 0 l.toArray 0 l.toArray.size w' → ∃ l', l'.Perm l ∧ Srt l' ∧ ConsRow w' base (.slice (some ⟨g, 0, none⟩) l.length cap) l' ∧ w.grownBy w' (some g)) := by
    rintro w' ⟨q, d', os, rfl, hp, hs⟩
    have hsz : d'.size = l.length := by rw [hp.1]; simp
    rw [← hp.1] at hs
    have hpl := perm_of hp
    refine ⟨d'.toList, by simpa using hpl, srt_of hs, ?_, grownBy_sW d'⟩
    have hlen : d'.toList.length = l.length := by simpa using hsz
    refine ⟨flatC_len _, .inr ⟨g, cap, _, by rw [hlen], h2, heap_sW d' h4, by rw [hlen]; exact h5, h6, by simp [putCells, h7], ?_⟩⟩
    rw [← flatK_flat]
    have hF : (flatK cnC 4 d').size = d'.toList.length * 4 := by simp
    rw [← hF]
    refine take_putK cur _ ?_
    rw [hF, hlen, h7]
    exact Nat.mul_le_mul_right 4 h5
  have HC : Hid (Calls Tryz.prog 41 #[.slice (some ⟨g, 0, none⟩) l.length cap, .int .i64 l.length, .func (.func 30) #[] #[]] w fun e w' => e = .returned (.tuple #[]) ∧ SymPost w g 0 l.toArray 0 l.toArray.size w') := by
    have := stable_c g 0 cap l.toArray w (holdsC_of h4 h8) h3 (by simpa using hn)
    simp only [List.size_toArray] at this ⊢
    exact this
  clear h h2 h3 h4 h5 h6 h7 h8
  show Calls Tryz.prog 29 #[.slice (some ⟨g, 0, none⟩) l.length cap, .func (.func 30) #[] #[]] w fun e w' => e = .returned (.tuple #[]) ∧ ∃ l', l'.Perm l ∧ Srt l' ∧ ConsRow w' base (.slice (some ⟨g, 0, none⟩) l.length cap) l' ∧ w.grownBy w' (some g)
  generalize hQ : (fun w' : World => ∃ l' : List CT, l'.Perm l ∧ Srt l' ∧ ConsRow w' base (.slice (some ⟨g, 0, none⟩) l.length cap) l' ∧ w.grownBy w' (some g)) = Q
  have HQ : Hid (∀ w' : World, SymPost w g 0 l.toArray 0 l.toArray.size w' → Q w') := fun w' hw => by rw [← hQ]; exact HP.out w' hw
  refine (show Calls Tryz.prog 29 #[.slice (some ⟨g, 0, none⟩) l.length cap, .func (.func 30) #[] #[]] w fun e w' => e = .returned (.tuple #[]) ∧ Q w' from ?_).mono (fun e w' h => by subst hQ; exact h)
  clear hQ HP
  go_enter Tryz.func29, Tryz.ntmps29
  go_wp2_with (go_at_call 41; fail)
  refine HC.out.mono ?_
  rintro e w1 ⟨rfl, hp⟩
  have HF : Hid (Q w1) := HQ.out w1 hp
  clear hp
  go_wp2
  go_end0
  exact ⟨rfl, HF.out⟩
end Go.Proofs.YtdbpggncpkocaaaGreatDoor
