/-
  The library's Repeat of one number, by a contract.
-/
import Derived.Test.YtkkpkcigflikkaaHb
import Derived.Test.YtkkpkcigflikkaaShelfG3
import Derived.Laws.CopyOwn
import Derived.Deep.OwnRows
namespace Go.Proofs.Ytkkpkcigflikkaa
open Go.RowKit Go.Shelf Go.Maps G
set_option linter.unusedVariables false

def neg1 : Value := .int .i64 (-1)
theorem szInt : (Try.prog.info? 3).map (·.size) = some 1 := by kernel_rfl
/-- What lies in the row: so many are written. -/
def RpI (n k : Nat) (cur : List Value) : Prop := cur.length = n ∧ ∀ i, i < k → cur[i]? = some neg1
theorem rpI_step {n k c : Nat} {cur : List Value} (h : RpI n k cur) (hc : k + c ≤ n) : RpI n (k + c) (splice cur k (List.replicate c neg1)) := by
  obtain ⟨h1, h2⟩ := h
  refine ⟨by rw [length_splice _ _ _ (by simp; omega)]; exact h1, fun i hi => ?_⟩
  unfold splice
  by_cases e : i < k
  · rw [List.getElem?_append_left (by simp; omega), List.getElem?_take_of_lt e]; exact h2 i e
  · rw [List.getElem?_append_right (by simp; omega), List.length_take, Nat.min_eq_left (by omega), List.getElem?_append_left (by simp; omega), List.getElem?_replicate, if_pos (by omega)]
theorem fb_of_list {W : World} {g n : Nat} {cur : List Value} (h : W.heap[g]? = some (.cells cur.toArray 3 (0, 0))) (hr : RpI n n cur) : FB W g n (fun _ => neg1) 3 := ⟨cur.toArray, h, by simpa using hr.1, fun i hi => by simpa using hr.2 i hi⟩
theorem copy_neg (W : World) (g n off dl dc : Nat) (b o2 sl sc c : Nat) (cur : List Value) (hg : W.heap[g]? = some (.cells cur.toArray 3 (0, 0))) (hR : RpI n off cur) (hc : c = Nat.min sl dl) (hcn : off + c ≤ n) (hsrc : ∀ j, j < c → W.cell? ⟨b, o2 + j, none⟩ = some neg1) :
    ∃ W2 cur2, (Builtin.copy_ #[30, 30] 3 #[.slice (some ⟨g, off, none⟩) dl dc, .slice (some ⟨b, o2, none⟩) sl sc]).run Try.prog W = .ok (.int .i64 (c : Int)) W2 ∧ W2.heap[g]? = some (.cells cur2.toArray 3 (0, 0)) ∧ RpI n (off + c) cur2 ∧ ∀ B w0, Below B w0 W → B ≤ g → Below B w0 W2 := by
  have hrun := run_copy_row Try.prog W 30 30 3 3 g off dl dc ⟨b, o2, none⟩ sl sc cur.toArray 3 (List.replicate c neg1) Try.underlying30 szInt hg (by rw [List.length_replicate]; exact hc) (fun j v hv => by
    rw [List.getElem?_replicate] at hv
    split at hv
    · rename_i hj; cases hv; rw [Addr.add_lit]; exact hsrc j hj
    · cases hv) (by rw [List.length_replicate]; simpa [hR.1] using hcn) (fun v hv => by rw [List.eq_of_mem_replicate hv]; rfl)
  rw [List.length_replicate] at hrun
  refine ⟨_, splice cur off (List.replicate c neg1), hrun, ?_, rpI_step hR hcn, fun B w0 hb hB => below_setRow hb hB _⟩
  rw [setRow_heap W g _ _ 3 _ hg]
  simp [splice]
set_option maxHeartbeats 8000000 in
set_option maxRecDepth 100000 in
theorem repeat_c (n xb : Nat) (hn : n ≤ 20000) (w : World) (hx : w.cell? ⟨xb, 0, none⟩ = some neg1) (hxl : xb < w.heap.size) :
    Calls Try.prog 35 #[.slice (some ⟨xb, 0, none⟩) 1 1, .int .i64 (n : Int)] w fun r W' => ∃ g, r = .returned (.slice (some ⟨g, 0, none⟩) n n) ∧ w.heap.size ≤ g ∧ FB W' g n (fun _ => neg1) 3 ∧ Below w.heap.size w W' := by
  have hdep : Try.prog.follows Departure.mixedOrders = true := by kernel_rfl
  have hni : (n : Int) ≤ 20000 := by omega
  have hmk : ∀ W : World, (Instr.makeSlice 30 (.int .i64 (n : Int)) (.int .i64 (n : Int))).run Try.prog W = .ok (.slice (some ⟨W.heap.size, 0, none⟩) n n) (W.alloc (.cells (madeCells #[.int .i64 0] n) 3)) := fun W => run_make_row' 30 3 (.int .i64 0) 8 Try.underlying30 infoInt rfl .i64 .i64 n (by omega) (by omega) W
  have HM : Hid (∀ W : World, Calls Try.prog 42 #[.int .u64 1, .int .u64 (n : Int)] W fun e w' => e = .returned (.tuple #[.int .u64 0, .int .u64 (n : Int)]) ∧ w' = W) := fun W => by
    have h := Try.bits_Mul 1 n (by decide) (by omega) W
    rw [Nat.one_mul, Nat.div_eq_of_lt (by omega), Nat.mod_eq_of_lt (by omega)] at h
    exact h
  have HN : Hid (n ≤ 20000 ∧ xb < w.heap.size ∧ w.cell? ⟨xb, 0, none⟩ = some neg1) := ⟨hn, hxl, hx⟩
  have cu1 : IntKind.u64.wrap (n : Int) = (n : Int) := by rw [IntKind.wrap_u64]; omega
  have cu2 : IntKind.i64.wrap (n : Int) = (n : Int) := by rw [IntKind.wrap_i64]; omega
  clear hn hx hxl
  go_enter Try.func35, Try.ntmps35
  obtain ⟨c0, hc0⟩ : ∃ c0 : Nat, c0 = Nat.min 1 n := ⟨_, rfl⟩
  have hc1 : c0 ≤ 1 ∧ c0 ≤ n ∧ (0 < n → 0 < c0) := by rw [hc0]; exact ⟨Nat.min_le_left _ _, Nat.min_le_right _ _, fun h => by show 0 < min 1 n; omega⟩
  have hz0 : (madeCells #[.int .i64 0] n : Array Value) = (madeCells #[.int .i64 0] n).toList.toArray := by simp
  obtain ⟨W2, cur2, hr2, hg2, hR2, hB2⟩ := copy_neg (w.alloc (.cells (madeCells #[.int .i64 0] n) 3)) w.heap.size n 0 n n xb 0 1 1 c0 (madeCells #[.int .i64 0] n).toList (by rw [← hz0]; exact Blk.new w _ _) ⟨by rw [Array.length_toList, size_madeCells], fun i hi => by omega⟩ hc0 (by omega) (fun j hj => by
    have h0 : j = 0 := by omega
    subst h0
    rw [World.cell?_of_block (a := ⟨xb, 0 + 0, none⟩) (Below.heap_alloc w _ xb HN.out.2.1)]; exact HN.out.2.2)
  have H2 : Hid (W2.heap[w.heap.size]? = some (.cells cur2.toArray 3 (0, 0)) ∧ RpI n c0 cur2 ∧ Below w.heap.size w W2) := ⟨hg2, by simpa using hR2, hB2 _ _ ((Below.refl _ w).alloc (Nat.le_refl _) _) (Nat.le_refl _)⟩
  have HC : Hid (c0 ≤ 1 ∧ c0 ≤ n ∧ (0 < n → 0 < c0)) := hc1
  clear hc0 hc1 hz0 hg2 hR2 hB2
  go_wp2_with (go_at_call 42; refine (HM.out _).mono ?_; rintro e w' ⟨rfl, hw1⟩; have hw2 := hw1.symm; subst hw2)
  clear hr2
  go_loopw [8] (fun v wr => ∃ (k : Nat) (cur : List Value), v = .int .i64 (k : Int) ∧ Hid (k ≤ n ∧ (0 < n → 0 < k) ∧ wr.heap[w.heap.size]? = some (.cells cur.toArray 3 (0, 0)) ∧ RpI n k cur ∧ Below w.heap.size w wr)) (fun v _ => n - (intOf v).toNat)
  case atStart => exact ⟨c0, cur2, rfl, ⟨HC.out.2.1, HC.out.2.2, H2.out.1, H2.out.2.1, H2.out.2.2⟩⟩
  case round =>
    obtain ⟨k, cur, rfl, HI⟩ := hrel
    clear H2
    by_cases hk : k < n
    · obtain ⟨c, hc⟩ : ∃ c : Nat, c = Nat.min k (n - k) := ⟨_, rfl⟩
      have hc1 : c ≤ k ∧ c ≤ n - k ∧ 0 < c := by
        rw [hc]
        refine ⟨Nat.min_le_left _ _, Nat.min_le_right _ _, ?_⟩
        have := HI.out.2.1 (by omega)
        show 0 < min k (n - k)
        omega
      have hcell : ∀ j, j < c → wr.drew.cell? ⟨w.heap.size, 0 + j, none⟩ = some neg1 := fun j hj => by
        have := Blk.cell (vs := cur.toArray) HI.out.2.2.1 j neg1 (by simpa using HI.out.2.2.2.1.2 j (by omega))
        rw [Nat.zero_add]; exact this
      obtain ⟨W3, cur3, hr3, hg3, hR3, hB3⟩ := copy_neg wr.drew w.heap.size n k (n - k) (n - k) w.heap.size 0 k n c cur HI.out.2.2.1 HI.out.2.2.2.1 hc (by omega) hcell
      have H3 : Hid (W3.heap[w.heap.size]? = some (.cells cur3.toArray 3 (0, 0)) ∧ RpI n (k + c) cur3 ∧ Below w.heap.size w W3 ∧ c ≤ n - k ∧ 0 < c ∧ k < n) := ⟨hg3, hR3, hB3 _ _ HI.out.2.2.2.2.drew (Nat.le_refl _), hc1.2.1, hc1.2.2, hk⟩
      have hki : (k : Int) < (n : Int) := by omega
      have hci : (k : Int) + (c : Int) ≤ (n : Int) := by omega
      clear hc hc1 hcell hg3 hR3 hB3 hk
      go_wp2
      go_region
      all_goals (
        go_wp2
        refine ⟨⟨k + c, cur3, by congr 1, ?_⟩, ?_⟩
        · have h3 := H3.out
          exact ⟨by omega, fun h => by omega, h3.1, h3.2.1, h3.2.2.1⟩
        · have h3 := H3.out
          show n - ((k : Int) + (c : Int)).toNat < n - ((k : Int)).toNat
          omega)
    · have hke : ¬ (k : Int) < (n : Int) := by omega
      have HKN : Hid (k = n) := by show _ = _; have := HI.out.1; omega
      clear hk
      go_wp2
      go_ret
      have h1 := HI.out
      rw [HKN.out] at h1
      exact ⟨w.heap.size, rfl, Nat.le_refl _, fb_of_list h1.2.2.1 h1.2.2.2.1, h1.2.2.2.2⟩
end Go.Proofs.Ytkkpkcigflikkaa
