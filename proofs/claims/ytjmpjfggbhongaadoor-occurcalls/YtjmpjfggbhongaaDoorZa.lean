/-
  The document's answer for occurrences (thunkmillref16): small functions, by contracts.
-/
import Derived.Test.YtjmpjfggbhongaaDoorUk
import Derived.Test.YtjmpjfggbhongaaDoorUg
namespace Go.Proofs.YtjmpjfggbhongaaDoor
open Go.RowKit Go.Shelf Go.Maps
set_option linter.unusedVariables false

set_option maxHeartbeats 4000000 in
set_option maxRecDepth 100000 in
theorem rboth_c (a b : Nat) (w : World) : Calls Tryd.prog 65 #[.int .i64 (a : Int), .int .i64 (b : Int)] w fun e w' => e = .returned (.int .i64 (bothM a b : Nat)) ∧ w' = w := by
  by_cases ha : a = 1
  · subst ha
    have e : bothM 1 b = b := by simp [bothM]
    rw [e]
    clear e
    go_enter Tryd.func65, Tryd.ntmps65
    go_wp2
    go_ret
    exact ⟨rfl, rfl⟩
  · have haI : ¬ (a : Int) = 1 := by omega
    by_cases hb : b = 1
    · subst hb
      have e : bothM a 1 = a := by simp [bothM, ha]
      rw [e]
      clear e
      go_enter Tryd.func65, Tryd.ntmps65
      go_wp2
      go_ret
      exact ⟨rfl, rfl⟩
    · have hbI : ¬ (b : Int) = 1 := by omega
      have e : bothM a b = 5 := by simp [bothM, ha, hb]
      rw [e]
      clear e
      go_enter Tryd.func65, Tryd.ntmps65
      go_wp2
      go_ret
      exact ⟨rfl, rfl⟩
set_option maxHeartbeats 4000000 in
set_option maxRecDepth 100000 in
theorem rwithin_c (a : Nat) (h1 : 1 ≤ a) (h2 : a ≤ 5) (w : World) : Calls Tryd.prog 45 #[.int .i64 (a : Int)] w fun e w' => e = .returned (.int .i64 (withinM a : Nat)) ∧ w' = w := by
  rcases five h1 h2 with rfl | rfl | rfl | rfl | rfl
  all_goals (
    clear h1 h2
    go_enter Tryd.func45, Tryd.ntmps45
    go_wp2
    go_ret
    exact ⟨rfl, rfl⟩)
set_option maxHeartbeats 4000000 in
set_option maxRecDepth 100000 in
theorem reither_c (a b : Nat) (h1 : 1 ≤ a) (h2 : a ≤ 5) (h3 : 1 ≤ b) (h4 : b ≤ 5) (w : World) : Calls Tryd.prog 66 #[.int .i64 (a : Int), .int .i64 (b : Int)] w fun e w' => e = .returned (.int .i64 (eitherM a b : Nat)) ∧ w' = w := by
  by_cases hd : a = 1 ∨ b = 1
  · have e : eitherM a b = bothM a b := by simp [eitherM, hd]
    have HB : Hid (Calls Tryd.prog 65 #[.int .i64 (a : Int), .int .i64 (b : Int)] w fun e w' => e = .returned (.int .i64 (bothM a b : Nat)) ∧ w' = w) := rboth_c a b w
    rw [e]
    generalize bothM a b = r at HB ⊢
    clear e h1 h2 h3 h4
    rcases hd with rfl | hb
    · go_enter Tryd.func66, Tryd.ntmps66
      go_wp2_with (go_at_call 65; fail)
      refine HB.out.mono ?_
      rintro e w1 ⟨rfl, rfl⟩
      go_wp2
      go_ret
      exact ⟨rfl, rfl⟩
    · subst hb
      by_cases ha : a = 1
      · subst ha
        go_enter Tryd.func66, Tryd.ntmps66
        go_wp2_with (go_at_call 65; fail)
        refine HB.out.mono ?_
        rintro e w1 ⟨rfl, rfl⟩
        go_wp2
        go_ret
        exact ⟨rfl, rfl⟩
      · have haI : ¬ (a : Int) = 1 := by omega
        go_enter Tryd.func66, Tryd.ntmps66
        go_wp2_with (go_at_call 65; fail)
        refine HB.out.mono ?_
        rintro e w1 ⟨rfl, rfl⟩
        go_wp2
        go_ret
        exact ⟨rfl, rfl⟩
  · have ha : a ≠ 1 := fun h => hd (.inl h)
    have hb : b ≠ 1 := fun h => hd (.inr h)
    clear hd
    rcases five h1 h2 with rfl | rfl | rfl | rfl | rfl <;> (try exact absurd rfl ha) <;> rcases five h3 h4 with rfl | rfl | rfl | rfl | rfl <;> (try exact absurd rfl hb)
    all_goals (
      clear h1 h2 h3 h4 ha hb
      go_enter Tryd.func66, Tryd.ntmps66
      go_wp2
      go_ret
      exact ⟨rfl, rfl⟩)
theorem dl_snoc {l : List ByteArray} {k : Nat} (h : k < l.length) {y : ByteArray} (hy : l[k] = y) : dl (l.take (k + 1)) = dl (l.take k) ++ [y.data.toList] := by
  unfold dl; rw [List.take_succ_eq_append_getElem h, List.map_append, hy]; rfl
set_option maxHeartbeats 4000000 in
set_option maxRecDepth 100000 in
theorem rhas_c (l : List ByteArray) (o : Option Addr) (cap B : Nat) (x : ByteArray) (w : World) (hl : TxIn w B o l) (hB : B ≤ w.heap.size) (hn : l.length ≤ 3000000) :
    Calls Tryd.prog 42 #[.slice o l.length cap, .string x] w fun e w' => e = .returned (.bool ((dl l).contains x.data.toList)) ∧ w' = w := by
  have HA : Hid (∀ k (hk : k < l.length), ∃ g off, o = some ⟨g, off, none⟩ ∧ g < w.heap.size ∧ w.cell? ⟨g, off + k, none⟩ = some (.string l[k])) := by
    intro k hk
    obtain ⟨g, off, e, hg, hc⟩ := hl.at16 hk
    exact ⟨g, off, e, by omega, hc⟩
  obtain ⟨n, hnn⟩ : ∃ n, l.length = n := ⟨_, rfl⟩
  have HN : Hid (l.length = n) := hnn
  rw [hnn]
  have hnI : (n : Int) ≤ 3000000 := by omega
  have HI : Hid (¬ x.data.toList ∈ dl (l.take 0)) := by
    have : ¬ x.data.toList ∈ dl (l.take 0) := by simp [dl]
    exact this
  clear hl hB hn hnn
  go_enter Tryd.func42, Tryd.ntmps42
  go_wp2
  go_loopw [5] (fun i wr => ∃ k : Nat, k ≤ n ∧ i = .int .i64 k ∧ wr = w ∧ Hid (¬ x.data.toList ∈ dl (l.take k))) (fun i _ => n - (intOf i).toNat)
  case atStart => exact ⟨0, Nat.zero_le _, rfl, rfl, HI⟩
  case round =>
    obtain ⟨k, hk, rfl, rfl, hS⟩ := hrel
    clear HI
    by_cases hkn : k < n
    · have hkl : k < l.length := by rw [HN.out]; exact hkn
      obtain ⟨g, off, rfl, hg, hc⟩ := HA.out k hkl
      obtain ⟨y, hy⟩ : ∃ y, l[k] = y := ⟨_, rfl⟩
      rw [hy] at hc
      have HY : Hid (∃ h : k < l.length, l[k] = y) := ⟨hkl, hy⟩
      clear hy hkl
      by_cases hxy : y = x
      · subst hxy
        have HF : Hid ((dl l).contains y.data.toList = true) := by
          obtain ⟨h, e⟩ := HY.out
          have : (dl l).contains y.data.toList = true := by rw [List.contains_iff_mem, mem_dl]; exact ⟨y, by rw [← e]; exact List.getElem_mem h, rfl⟩
          exact this
        go_wp2
        go_ret
        exact ⟨by rw [HF.out]; rfl, rfl⟩
      · have HXY : Hid (¬ y.data.toList = x.data.toList) := fun e => hxy (ba_ext e)
        have HNx : Hid (¬ x.data.toList ∈ dl (l.take (k + 1))) := by
          obtain ⟨h, e⟩ := HY.out
          have : ¬ x.data.toList ∈ dl (l.take (k + 1)) := by
            rw [dl_snoc h e, List.mem_append]
            rintro (h9 | h9)
            · exact hS.out h9
            · exact HXY.out (List.mem_singleton.1 h9).symm
          exact this
        have hd1 : (y.toList == x.toList) = false := beq_eq_false_iff_ne.2 (fun e => HXY.out (by rw [ByteArray.toList_eq, ByteArray.toList_eq] at e; exact e))
        go_wp2
        refine ⟨⟨k + 1, hkn, by congr 1, trivial, HNx⟩, ?_⟩
        show n - ((k : Int) + 1).toNat < n - ((k : Int)).toNat
        omega
    · have HF : Hid ((dl l).contains x.data.toList = false) := by
        have e : l.take k = l := List.take_of_length_le (by rw [HN.out]; omega)
        have h3 := hS.out
        rw [e] at h3
        have : (dl l).contains x.data.toList = false := by
          cases h : (dl l).contains x.data.toList with
          | false => rfl
          | true => exact absurd (List.contains_iff_mem.1 h) h3
        exact this
      clear hS HA
      go_wp2
      go_ret
      exact ⟨by rw [HF.out]; rfl, rfl⟩
end Go.Proofs.YtjmpjfggbhongaaDoor
