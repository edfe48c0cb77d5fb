/-
  The slices of functions, the longest answer, and what is passed over, by contracts.
-/
import Derived.Test.YtndpebkiiemfpaaGreatDoorChars3
namespace Go.Proofs.YtndpebkiiemfpaaGreatDoor
open Go.RowKit Go.Shelf
set_option linter.unusedVariables false

/-- A row of functions in memory. -/
def FnsAt (W : World) (g : Nat) (Fs : List Nat) : Prop := ∀ (j : Nat) (F : Nat), Fs[j]? = some F → W.cell? ⟨g, j, none⟩ = some (.func (.func F) #[] #[])

theorem fns_below {A B : World} {g : Nat} {Fs : List Nat} (h : FnsAt A g Fs) (hg : g < A.heap.size) (hb : Below A.heap.size A B) : FnsAt B g Fs :=
  fun j F hj => (hb.cell (p := ⟨g, j, none⟩) hg).trans (h j F hj)

def passF : List Nat := [50, 51, 52]
def takeF : List Nat := [53, 54, 55, 56, 57, 58, 59, 60]
def passT : List (List UInt8 → Nat) := [M.cnt M.blankB, M.passDashes, M.passNested]
def takeT : List (List UInt8 → Nat) := [M.headed M.begName M.inName, M.headed M.capB M.inName, M.headed M.begOp M.sym, M.headed M.colonB M.sym, fun l => (M.number l).1, M.takeChar, fun l => (M.chars l).1, M.takeMark]

set_option maxRecDepth 100000 in
theorem passers_c (w : World) : Calls Tryz.prog 27 #[] w fun e W' => ∃ g, e = .returned (.slice (some ⟨g, 0, none⟩) 3 3) ∧ g < W'.heap.size ∧ Hid (FnsAt W' g passF) ∧ Below w.heap.size w W' := by
  go_enter Tryz.func27, Tryz.ntmps27
  go_wp2
  go_ret
  refine ⟨w.heap.size, rfl, by simp, ?_, (Below.refl _ w).alloc (Nat.le_refl _) _⟩
  intro j F hj
  match j with
  | 0 => simp [passF] at hj; subst hj; simp
  | 1 => simp [passF] at hj; subst hj; simp
  | 2 => simp [passF] at hj; subst hj; simp
  | j + 3 => simp [passF] at hj

set_option maxRecDepth 100000 in
theorem takers_c (w : World) : Calls Tryz.prog 28 #[] w fun e W' => ∃ g, e = .returned (.slice (some ⟨g, 0, none⟩) 8 8) ∧ g < W'.heap.size ∧ Hid (FnsAt W' g takeF) ∧ Below w.heap.size w W' := by
  go_enter Tryz.func28, Tryz.ntmps28
  go_wp2
  go_ret
  refine ⟨w.heap.size, rfl, by simp, ?_, (Below.refl _ w).alloc (Nat.le_refl _) _⟩
  intro j F hj
  match j with
  | 0 => simp [takeF] at hj; subst hj; simp
  | 1 => simp [takeF] at hj; subst hj; simp
  | 2 => simp [takeF] at hj; subst hj; simp
  | 3 => simp [takeF] at hj; subst hj; simp
  | 4 => simp [takeF] at hj; subst hj; simp
  | 5 => simp [takeF] at hj; subst hj; simp
  | 6 => simp [takeF] at hj; subst hj; simp
  | 7 => simp [takeF] at hj; subst hj; simp
  | j + 8 => simp [takeF] at hj

/-- Each function of the row answers its number. -/
def AllTake (Fs : List Nat) (ts : List (List UInt8 → Nat)) : Prop := Fs.length = ts.length ∧ ∀ (j : Nat) (F : Nat) (t : List UInt8 → Nat), Fs[j]? = some F → ts[j]? = some t → TakeFn F t

theorem pass_all : AllTake passF passT := by
  refine ⟨rfl, fun j F t hF ht => ?_⟩
  match j with
  | 0 => simp [passF, passT] at hF ht; subst hF; subst ht; exact passBlanks_f
  | 1 => simp [passF, passT] at hF ht; subst hF; subst ht; exact passDashes_f
  | 2 => simp [passF, passT] at hF ht; subst hF; subst ht; exact passNested_f
  | j + 3 => simp [passF] at hF
theorem take_all : AllTake takeF takeT := by
  refine ⟨rfl, fun j F t hF ht => ?_⟩
  match j with
  | 0 => simp [takeF, takeT] at hF ht; subst hF; subst ht; exact takeName_f
  | 1 => simp [takeF, takeT] at hF ht; subst hF; subst ht; exact takeCon_f
  | 2 => simp [takeF, takeT] at hF ht; subst hF; subst ht; exact takeOp_f
  | 3 => simp [takeF, takeT] at hF ht; subst hF; subst ht; exact takeConOp_f
  | 4 => simp [takeF, takeT] at hF ht; subst hF; subst ht; exact takeInt_f
  | 5 => simp [takeF, takeT] at hF ht; subst hF; subst ht; exact takeChar_f
  | 6 => simp [takeF, takeT] at hF ht; subst hF; subst ht; exact takeString_f
  | 7 => simp [takeF, takeT] at hF ht; subst hF; subst ht; exact takeMark_f
  | j + 8 => simp [takeF] at hF

set_option maxHeartbeats 4000000 in
set_option maxRecDepth 100000 in
theorem longest_c (Fs : List Nat) (ts : List (List UInt8 → Nat)) (hA' : AllTake Fs ts) (n : Nat) (hn : Fs.length = n) (hn2 : n ≤ 100) (g : Nat) (s : ByteArray) (hs : s.size ≤ 70000) (w : World) (hg : g < w.heap.size) (hF' : FnsAt w g Fs) (hG' : GOK w) :
    Calls Tryz.prog 33 #[.slice (some ⟨g, 0, none⟩) n n, .string s] w fun e w' => e = .returned (.tuple #[.int .i64 ((M.lg 0 0 0 (ts.map (· s.data.toList))).1 : Int), .int .i64 ((M.lg 0 0 0 (ts.map (· s.data.toList))).2 : Int)]) ∧ Below w.heap.size w w' := by
  have hG : Hid (GOK w) := hG'
  have hA : Hid (AllTake Fs ts) := hA'
  have hF : Hid (FnsAt w g Fs) := hF'
  have hN : Hid (Fs.length = n) := hn
  clear hG' hA' hF' hn
  have hni : (n : Int) ≤ 100 := by omega
  go_enter Tryz.func33, Tryz.ntmps33
  go_wp2
  go_loopw [4, 5, 11] (fun wh mo i wr => ∃ (k a m : Nat), k ≤ n ∧ i = .int .i64 k ∧ wh = .int .i64 (a : Int) ∧ mo = .int .i64 (m : Int) ∧ Hid (M.lg 0 0 0 (ts.map (· s.data.toList)) = M.lg k a m ((ts.map (· s.data.toList)).drop k)) ∧ Below w.heap.size w wr) (fun _ _ i _ => n - (intOf i).toNat)
  case atStart => exact ⟨0, 0, 0, Nat.zero_le _, rfl, rfl, rfl, (by rw [List.drop_zero] : M.lg 0 0 0 (ts.map (· s.data.toList)) = M.lg 0 0 0 ((ts.map (· s.data.toList)).drop 0)), Below.refl _ _⟩
  case round =>
    obtain ⟨k, a, m, hk, rfl, rfl, rfl, hl, hB⟩ := hrel
    by_cases hlt : k < n
    · have hk1 : k < Fs.length := by rw [hN.out]; exact hlt
      have hk2 : k < ts.length := by rw [← hA.out.1]; exact hk1
      obtain ⟨F, hFk⟩ : ∃ F, Fs[k]? = some F := ⟨_, List.getElem?_eq_getElem hk1⟩
      have hfn := hA.out.2 k F (ts[k]) hFk (List.getElem?_eq_getElem hk2)
      have hc : wr.cell? ⟨g, k, none⟩ = some (.func (.func F) #[] #[]) := (hB.cell (p := ⟨g, k, none⟩) hg).trans (hF.out k F hFk)
      have eF : ∀ (args : Array Value) (w : World), (callFunc F args).run Tryz.prog w = .ok (.enter F args) w := hfn.2
      have hT := hfn.1 s hs
      have hlg : M.lg k a m ((ts.map (· s.data.toList)).drop k) = if m < ts[k] s.data.toList then M.lg (k + 1) k (ts[k] s.data.toList) ((ts.map (· s.data.toList)).drop (k + 1)) else M.lg (k + 1) a m ((ts.map (· s.data.toList)).drop (k + 1)) := by
        rw [List.drop_eq_getElem_cons (by rw [List.length_map]; exact hk2), List.getElem_map]; rfl
      obtain ⟨x, hx⟩ : ∃ x, ts[k] s.data.toList = x := ⟨_, rfl⟩
      rw [hx] at hT hlg
      have hT' : Hid _ := hT
      have hGr : Hid (GOK wr) := hG.out.below hB
      clear hfn hFk hx hT hk1 hk2
      by_cases hmx : m < x
      · rw [if_pos hmx] at hlg
        have hl' : Hid (M.lg 0 0 0 (ts.map (· s.data.toList)) = M.lg (k + 1) k x ((ts.map (· s.data.toList)).drop (k + 1))) := by show _ = _; rw [hl.out, hlg]
        have hmxi : (m : Int) < x := by omega
        clear hlg hl
        go_wp2_with (go_at_fn F; refine (hT'.out _ hGr.out).mono ?_; rintro e w2 ⟨rfl, hb2⟩)
        go_roundw
        case rel => exact ⟨k + 1, k, x, by omega, by go_num, rfl, rfl, hl', hB.trans (hb2.mono hB.size)⟩
        case measure => simp [intOf]; omega
      · rw [if_neg hmx] at hlg
        have hl' : Hid (M.lg 0 0 0 (ts.map (· s.data.toList)) = M.lg (k + 1) a m ((ts.map (· s.data.toList)).drop (k + 1))) := by show _ = _; rw [hl.out, hlg]
        have hmxi : (x : Int) ≤ m := by omega
        clear hlg hl
        go_wp2_with (go_at_fn F; refine (hT'.out _ hGr.out).mono ?_; rintro e w2 ⟨rfl, hb2⟩)
        go_roundw
        case rel => exact ⟨k + 1, a, m, by omega, by go_num, rfl, rfl, hl', hB.trans (hb2.mono hB.size)⟩
        case measure => simp [intOf]; omega
    · have hl' : Hid (M.lg 0 0 0 (ts.map (· s.data.toList)) = (a, m)) := by
        show _ = _
        rw [hl.out, List.drop_eq_nil_of_le (by rw [List.length_map, ← hA.out.1, hN.out]; omega)]; rfl
      clear hl
      go_wp2
      go_ret2
      exact ⟨by rw [hl'.out]; rfl, hB⟩

theorem longest_pass (g : Nat) (s : ByteArray) (hs : s.size ≤ 70000) (w : World) (hg : g < w.heap.size) (hF : FnsAt w g passF) (hG : GOK w) :
    Calls Tryz.prog 33 #[.slice (some ⟨g, 0, none⟩) 3 3, .string s] w fun e w' => ∃ a, e = .returned (.tuple #[.int .i64 a, .int .i64 (M.pass1 s.data.toList : Int)]) ∧ Below w.heap.size w w' :=
  (longest_c passF passT pass_all 3 rfl (by omega) g s hs w hg hF hG).mono fun e w' h => ⟨_, h.1, h.2⟩
theorem longest_take (g : Nat) (s : ByteArray) (hs : s.size ≤ 70000) (w : World) (hg : g < w.heap.size) (hF : FnsAt w g takeF) (hG : GOK w) :
    Calls Tryz.prog 33 #[.slice (some ⟨g, 0, none⟩) 8 8, .string s] w fun e w' => e = .returned (.tuple #[.int .i64 ((M.lex1 s.data.toList).1 : Int), .int .i64 ((M.lex1 s.data.toList).2 : Int)]) ∧ Below w.heap.size w w' :=
  longest_c takeF takeT take_all 8 rfl (by omega) g s hs w hg hF hG

set_option maxHeartbeats 4000000 in
set_option maxRecDepth 100000 in
theorem idle_c (g : Nat) (s : ByteArray) (hs : s.size ≤ 70000) (w : World) (hg : g < w.heap.size) (hF' : FnsAt w g passF) (hG' : GOK w) :
    Calls Tryz.prog 32 #[.slice (some ⟨g, 0, none⟩) 3 3, .string s] w fun e w' => e = .returned (.int .i64 (M.idleAll s.data.toList : Int)) ∧ Below w.heap.size w w' := by
  have hG : Hid (GOK w) := hG'
  have hF : Hid (FnsAt w g passF) := hF'
  have hlen : s.data.toList.length = s.size := (Lib.size_eq s).symm
  clear hG' hF'
  go_enter Tryz.func32, Tryz.ntmps32
  go_wp2
  go_loopw [5] (fun i wr => ∃ k : Nat, k ≤ s.size ∧ i = .int .i64 k ∧ Hid (M.idleAll s.data.toList = k + M.idleAll (s.data.toList.drop k)) ∧ Below w.heap.size w wr) (fun i _ => s.size - (intOf i).toNat)
  case atStart => exact ⟨0, Nat.zero_le _, rfl, (by simp : M.idleAll s.data.toList = 0 + M.idleAll (s.data.toList.drop 0)), Below.refl _ _⟩
  case round =>
    obtain ⟨k, hk, rfl, hl, hB⟩ := hrel
    have hki : (k : Int) ≤ s.size := by omega
    have hGr : Hid (GOK wr) := hG.out.below hB
    have hFr : Hid (FnsAt wr g passF) := fns_below hF.out hg hB
    have hgr : g < wr.heap.size := Nat.lt_of_lt_of_le hg hB.size
    have hxe : (s.extract k s.size).data.toList = s.data.toList.drop k := ext_end s k
    have hst := M.idleAll_step (s.data.toList.drop k)
    have hple := M.pass1_le (s.data.toList.drop k)
    rw [List.length_drop, hlen] at hple
    have hT := longest_pass g (s.extract k s.size) (by rw [size_drop]; omega) wr hgr hFr.out
    rw [hxe] at hT
    obtain ⟨n, hnn⟩ : ∃ n, M.pass1 (s.data.toList.drop k) = n := ⟨_, rfl⟩
    rw [hnn] at hT hst hple
    have hT' : Hid _ := hT
    clear hT hnn hxe
    by_cases hn : n = 0
    · subst hn
      rw [if_pos rfl] at hst
      have hl' : Hid (M.idleAll s.data.toList = k) := by show _ = _; rw [hl.out, hst]; rfl
      clear hl hst
      go_wp2_with (go_at_call 33; refine (hT'.out hGr.out).mono ?_; rintro e w2 ⟨a, rfl, hb2⟩)
      go_ret
      exact ⟨by rw [hl'.out]; rfl, hB.trans (hb2.mono hB.size)⟩
    · rw [if_neg hn, List.drop_drop] at hst
      have hl' : Hid (M.idleAll s.data.toList = (k + n) + M.idleAll (s.data.toList.drop (k + n))) := by show _ = _; rw [hl.out, hst]; omega
      have hnz : ((n : Int) == 0) = false := beq_eq_false_iff_ne.2 (by omega)
      clear hl hst
      go_wp2_with (go_at_call 33; refine (hT'.out hGr.out).mono ?_; rintro e w2 ⟨a, rfl, hb2⟩)
      go_roundw
      case rel => exact ⟨k + n, by omega, by go_num, hl', hB.trans (hb2.mono hB.size)⟩
      case measure => simp [intOf]; omega

end Go.Proofs.YtndpebkiiemfpaaGreatDoor
