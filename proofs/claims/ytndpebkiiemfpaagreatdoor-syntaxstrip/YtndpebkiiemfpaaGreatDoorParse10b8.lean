/-
  The library reading digits, by a contract.
-/
import Derived.Test.YtndpebkiiemfpaaGreatDoorParseH
namespace Go.Proofs.YtndpebkiiemfpaaGreatDoor
open Go.RowKit Go.Shelf
set_option linter.unusedVariables false

set_option maxHeartbeats 32000000 in
set_option maxRecDepth 100000 in
theorem inner_10_8 (t : ByteArray) (hne : t.size ≠ 0) (hmax : t.size ≤ 9223372036854775806) (hall' : ∀ c ∈ t.data.toList, M.dig 10 c = true) (w : World) :
    Calls Tryz.prog 179 #[.string t, .int .i64 10, .int .i64 8] w fun e w' => e = .returned (parsed 255 (parse 10 255 0 t.data.toList)) ∧ Below w.heap.size w w' := by
  have hemp : t.toList.isEmpty = false := ne_empty (by omega)
  have hcv := Lib.run_convert_string_bytes (P := Tryz.prog) w 9 59 5 t (u := .string) Tryz.underlying9 Tryz.underlying59 Tryz.underlying5
  have hBw : Hid (Below w.heap.size w (Lib.bytesWorld w 5 t)) := bytes_below w t
  have hB : ∀ j, j < t.size → (Lib.bytesWorld w 5 t).cell? ⟨w.heap.size, j, none⟩ = some (.int .u8 (t.data.toList.getD j 0).toNat) := fun j hj => Lib.bytesWorld_cell w 5 t j hj
  obtain ⟨W1, hW1⟩ : ∃ W1, W1 = Lib.bytesWorld w 5 t := ⟨_, rfl⟩
  rw [← hW1] at hcv hB hBw
  clear hW1
  obtain ⟨bs, hL⟩ : ∃ bs, bs = t.data.toList := ⟨_, rfl⟩
  have hLn : bs.length = t.size := by rw [hL, Lib.size_eq]
  rw [← hL] at hB hall' ⊢
  have hall : Hid (∀ c ∈ bs, M.dig 10 c = true) := hall'
  clear hL hall'
  have hmv : IntKind.u64.wrap (IntKind.u64.wrap 256 - 1) = 255 := by
    rw [IntKind.wrap_u64, IntKind.wrap_u64]
    decide
  go_enter Tryz.func179, Tryz.ntmps179
  go_wp2
  go_loop [12, 13, 101] (fun vu vn vi => ∃ (k acc : Nat) (a : Int), vu = .bool false ∧ vn = .int .u64 a ∧ vi = .int .i64 k ∧ k ≤ t.size ∧ Hid (a = (acc : Int) ∧ acc ≤ 255 ∧ parse 10 255 0 bs = parse 10 255 acc (bs.drop k)))
    (fun _ _ vi => t.size - (intOf vi).toNat)
  case atStart => exact ⟨0, 0, 0, rfl, rfl, rfl, by omega, rfl, by omega, rfl⟩
  case round =>
    obtain ⟨k, acc, a, rfl, rfl, rfl, hk, hh⟩ := hrel
    obtain ⟨ha, hacc, hdec⟩ := hh.out
    clear hh
    have a0 : 0 ≤ a := by omega
    have a1 : a ≤ 255 := by omega
    by_cases hkn : k < t.size
    · have hc := hB k hkn
      have hdrop : bs.drop k = bs[k]'(by omega) :: bs.drop (k + 1) := List.drop_eq_getElem_cons (by omega)
      have hget : bs.getD k 0 = bs[k]'(by omega) := by simp [List.getD, List.getElem?_eq_getElem (show k < bs.length by omega)]
      have hdg : M.dig 10 (bs[k]'(by omega)) = true := hall.out _ (List.getElem_mem _)
      rw [hdrop] at hdec
      rw [hget] at hc
      generalize bs[k]'(by omega) = c at hc hdec hdg
      have hc256 : c.toNat < 256 := c.toNat_lt
      clear hB hdrop hget
      by_cases hlow57 : c.toNat ≤ 57
      · obtain ⟨hv, h48⟩ := dig_low 10 c hdg hlow57
        have hF : parse 10 255 acc (c :: bs.drop (k + 1)) = if 255 < acc * 10 + M.hexv c then none else parse 10 255 (acc * 10 + M.hexv c) (bs.drop (k + 1)) := rfl
        obtain ⟨d, hd⟩ : ∃ d, M.hexv c = d := ⟨_, rfl⟩
        rw [hd] at hF hv
        by_cases hov : 255 < acc * 10 + d
        · rw [if_pos hov] at hF
          rw [hF] at hdec
          have hdec2 : Hid (parse 10 255 0 bs = none) := hdec
          clear hdec hd hF hdg
          · have hcut2 : a < 1844674407370955162 := by omega
            have iov : 255 < a * 10 + ((c.toNat : Int) - 48) := by omega
            clear hacc hov ha
            go_wp2
            go_ret2
            exact ⟨by rw [hdec2.out]; rfl, hBw.out⟩
        · rw [if_neg hov] at hF
          have iov : a * 10 + ((c.toNat : Int) - 48) ≤ 255 := by omega
          have HN : Hid (a * 10 + ((c.toNat : Int) - 48) = ((acc * 10 + d : Nat) : Int) ∧ acc * 10 + d ≤ 255 ∧ parse 10 255 0 bs = parse 10 255 (acc * 10 + d) (bs.drop (k + 1))) := Lib.hid ⟨by omega, by omega, hdec.trans hF⟩
          have hcut : a < 1844674407370955162 := by omega
          clear hacc hF hov hdec ha hdg hd
          go_wp2
          refine ⟨⟨k + 1, acc * 10 + d, a * 10 + ((c.toNat : Int) - 48), rfl, (by first | rfl | (congr 1; omega)), (by first | rfl | (congr 1; omega)), by omega, HN⟩, by simp [intOf]; omega⟩
      · exact absurd (dig10_low c hdg) hlow57
    · have hkk : k = t.size := by omega
      subst hkk
      have hF : parse 10 255 acc (bs.drop t.size) = some acc := by rw [List.drop_eq_nil_of_le (by omega)]; rfl
      rw [hF] at hdec
      have hdec2 : Hid (parse 10 255 0 bs = some acc) := hdec
      subst ha
      clear hacc hF a0 a1 hdec
      go_wp2
      go_ret2
      exact ⟨by rw [hdec2.out]; rfl, hBw.out⟩

end Go.Proofs.YtndpebkiiemfpaaGreatDoor
