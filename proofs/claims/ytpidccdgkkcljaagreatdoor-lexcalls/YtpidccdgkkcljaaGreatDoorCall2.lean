/-
  Tokens of whatever numbers held against one another, by a contract.
-/
import Derived.Test.YtpidccdgkkcljaaGreatDoorCall0
import Derived.BigQuiet
namespace Go.Proofs.YtpidccdgkkcljaaGreatDoor
open Go.RowKit Go.Shelf Go.Maps
set_option linter.unusedVariables false

set_option maxRecDepth 100000 in
set_option maxHeartbeats 4000000 in
theorem sameTokG_c (ts : List Tg) (o o' : Option Addr) (c c' : Nat) (hn : ts.length ≤ 5000) (w : World) (h : TgIn w o ts) (h' : TgIn w o' ts) :
    Calls Tryz.prog 15 #[.slice o ts.length c, .slice o' ts.length c'] w fun r W' => r = .returned (.bool true) ∧ Below w.heap.size w W' := by
  have hdep : Tryz.prog.follows Departure.mixedOrders = true := by kernel_rfl
  obtain ⟨m, hm⟩ : ∃ m, ts.length = m := ⟨_, rfl⟩
  have HN : Hid (m ≤ 5000) := by rw [← hm]; exact hn
  have H : Hid (TgIn w o ts) := h
  have H' : Hid (TgIn w o' ts) := h'
  have HM : Hid (ts.length = m) := hm
  rw [hm]
  clear h h' hn hm
  go_enter Tryz.func15, Tryz.ntmps15
  go_wp2
  go_loopw [5] (fun i wr => ∃ k : Nat, k ≤ m ∧ i = .int .i64 k ∧ Hid (Below w.heap.size w wr)) (fun i _ => m - (intOf i).toNat)
  case atStart => exact ⟨0, Nat.zero_le _, rfl, Below.refl _ _⟩
  case round =>
    obtain ⟨k, hk, rfl, hB⟩ := hrel
    by_cases hlt : k < m
    · have hkL : k < ts.length := by rw [HM.out]; exact hlt
      have hki : (k : Int) < (m : Int) := by omega
      have hk5 : (k : Int) ≤ 5000 := by have := HN.out; omega
      obtain ⟨g, off, rfl, hg, hT⟩ := H.out.at k hkL
      obtain ⟨g', off', rfl, hg', hT'⟩ := H'.out.at k hkL
      have hcell := fun q u hu => (hB.out.cell (p := ⟨g, off + k * 7 + q, none⟩) hg).trans (hT k hkL q u hu)
      have hcell' := fun q u hu => (hB.out.cell (p := ⟨g', off' + k * 7 + q, none⟩) hg').trans (hT' k hkL q u hu)
      have c0 := hcell 0 _ rfl
      have d0 := hcell' 0 _ rfl
      rw [Nat.add_zero] at c0 d0
      have c1 := hcell 1 _ rfl
      have c2 := hcell 2 _ rfl
      have c3 := hcell 3 _ rfl
      have c4 := hcell 4 _ rfl
      have c5 := hcell 5 _ rfl
      have c6 := hcell 6 _ rfl
      have d1 := hcell' 1 _ rfl
      have d2 := hcell' 2 _ rfl
      have d3 := hcell' 3 _ rfl
      have d4 := hcell' 4 _ rfl
      have d5 := hcell' 5 _ rfl
      have d6 := hcell' 6 _ rfl
      generalize ts[k] = t at c0 c1 c2 c3 c4 c5 c6 d0 d1 d2 d3 d4 d5 d6
      obtain ⟨tk, tt, tn, pos, line, col, first⟩ := t
      simp only at c0 c1 c2 c3 c4 c5 c6 d0 d1 d2 d3 d4 d5 d6
      clear hcell hcell' hkL hT hT' H H' HM HN
      have jf : (first != first) = false := by cases first <;> rfl
      go_wp2_with fail
      go_big_quiet (fail)
      go_wp2
      go_roundw
      case rel =>
        refine ⟨k + 1, by omega, by go_num, ?_⟩
        show Below _ _ _
        refine Below.trans hB.out ⟨rfl, rfl, rfl, Nat.le_refl _, fun _ _ => rfl⟩
      case measure => simp [intOf]; omega
    · obtain rfl : k = m := by omega
      go_wp2
      go_ret
      exact ⟨rfl, hB.out⟩

end Go.Proofs.YtpidccdgkkcljaaGreatDoor
