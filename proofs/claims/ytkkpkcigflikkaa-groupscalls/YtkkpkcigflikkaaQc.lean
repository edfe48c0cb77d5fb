/-
  The document's ready, by a contract.
-/
import Derived.Test.YtkkpkcigflikkaaQb
namespace Go.Proofs.Ytkkpkcigflikkaa
open Go.RowKit Go.Shelf Go.Maps G
set_option linter.unusedVariables false

/-- Who leans on whom, in memory: the first m rows. -/
structure LnAt (W : World) (B n m : Nat) (R : Nat → Nat) (lv : Nat → Nat → Bool) : Prop where
  fb : ∃ u : Nat → Value, FB W B n u 49 ∧ ∀ i, i < m → u i = .slice (some ⟨R i, 0, none⟩) n n
  rw : ∀ i, i < m → FB W (R i) n (fun k => .bool (lv i k)) 4 ∧ R i ≠ B
theorem LnAt.same {W W' : World} {B n m : Nat} {R : Nat → Nat} {lv : Nat → Nat → Bool} (h : LnAt W B n m R lv) (hB : W'.heap[B]? = W.heap[B]?) (hR : ∀ i, i < m → W'.heap[R i]? = W.heap[R i]?) : LnAt W' B n m R lv := by
  obtain ⟨⟨u, h1, h2⟩, h3⟩ := h
  exact ⟨⟨u, h1.same hB, h2⟩, fun i hi => ⟨(h3 i hi).1.same (hR i hi), (h3 i hi).2⟩⟩
theorem LnAt.row {W : World} {B n m : Nat} {R : Nat → Nat} {lv : Nat → Nat → Bool} (h : LnAt W B n m R lv) {i : Nat} (hi : i < m) (hm : m ≤ n) : W.cell? ⟨B, i, none⟩ = some (.slice (some ⟨R i, 0, none⟩) n n) ∧ B < W.heap.size ∧ R i < W.heap.size ∧ ∀ k, k < n → W.cell? ⟨R i, k, none⟩ = some (.bool (lv i k)) := by
  obtain ⟨⟨u, h1, h2⟩, h3⟩ := h
  exact ⟨by rw [h1.cell (show i < n by omega), h2 i hi], h1.lt, (h3 i hi).1.lt, fun k hk => (h3 i hi).1.cell hk⟩
/-- Does one keep another waiting? -/
def keepB (lv : Nat → Nat → Bool) (st : Nat → Bool) (i k : Nat) : Bool := lv i k && !(st k) && !(k == i) && !(lv k i)
def rdB (n : Nat) (lv : Nat → Nat → Bool) (st : Nat → Bool) (i : Nat) : Bool := (List.range n).all (fun k => !(keepB lv st i k))
theorem rdB_true {n : Nat} {lv : Nat → Nat → Bool} {st : Nat → Bool} {i : Nat} (h : ∀ k, k < n → keepB lv st i k = false) : rdB n lv st i = true := by
  unfold rdB
  rw [List.all_eq_true]
  intro k hk
  rw [h k (List.mem_range.1 hk)]; rfl
theorem rdB_false {n : Nat} {lv : Nat → Nat → Bool} {st : Nat → Bool} {i k : Nat} (hk : k < n) (h : keepB lv st i k = true) : rdB n lv st i = false := by
  cases e : rdB n lv st i with
  | false => rfl
  | true =>
    unfold rdB at e
    have := List.all_eq_true.1 e k (List.mem_range.2 hk)
    rw [h] at this; cases this
set_option maxHeartbeats 8000000 in
set_option maxRecDepth 100000 in
theorem ready_c (B Sb n i : Nat) (R : Nat → Nat) (lv : Nat → Nat → Bool) (st : Nat → Bool) (hn : n ≤ 20000) (hi : i < n) (w : World) (h : LnAt w B n n R lv) (hs : FB w Sb n (fun k => .bool (st k)) 4) : Calls Try.prog 27 #[.slice (some ⟨B, 0, none⟩) n n, .slice (some ⟨Sb, 0, none⟩) n n, .int .i64 (i : Int)] w fun r W' => r = .returned (.bool (rdB n lv st i)) ∧ W' = w := by
  have HH : Hid (LnAt w B n n R lv ∧ FB w Sb n (fun k => .bool (st k)) 4 ∧ i < n) := ⟨h, hs, hi⟩
  obtain ⟨c1, hB, hRi, c2⟩ := h.row hi (Nat.le_refl _)
  have hSb := hs.lt
  have hni : (n : Int) ≤ 20000 := by omega
  have hii : (i : Int) < (n : Int) := by omega
  have HC : Hid (∀ k, k < n → w.cell? ⟨R i, k, none⟩ = some (.bool (lv i k))) := c2
  clear h hs hi c2 hn
  go_enter Try.func27, Try.ntmps27
  go_wp2
  go_loopw [7] (fun v7 wr => ∃ k : Nat, v7 = .int .i64 (k : Int) ∧ wr = w ∧ Hid (k ≤ n ∧ ∀ j, j < k → keepB lv st i j = false)) (fun v _ => n - (intOf v).toNat)
  case atStart => exact ⟨0, rfl, rfl, ⟨Nat.zero_le _, fun j hj => by omega⟩⟩
  case round =>
    obtain ⟨k, rfl, hwr, HI⟩ := hrel
    have hwr := hwr.symm
    subst hwr
    by_cases hk : k < n
    · have hki : (k : Int) < (n : Int) := by omega
      have c3 := HC.out k hk
      have c4 : w.cell? ⟨Sb, k, none⟩ = some (.bool (st k)) := HH.out.2.1.cell hk
      obtain ⟨c5, -, hRk, c6⟩ := HH.out.1.row hk (Nat.le_refl _)
      have c7 := c6 i HH.out.2.2
      have HK : Hid (k < n) := hk
      have HN : ∀ (hz : keepB lv st i k = false), (∃ q : Nat, Value.int .i64 ((k : Int) + 1) = .int .i64 (q : Int) ∧ True ∧ Hid (q ≤ n ∧ ∀ j, j < q → keepB lv st i j = false)) ∧ n - (intOf (Value.int .i64 ((k : Int) + 1))).toNat < n - (intOf (Value.int .i64 (k : Int))).toNat := fun hz => by
        refine ⟨⟨k + 1, by congr 1, trivial, ⟨HK.out, fun j hj => ?_⟩⟩, ?_⟩
        · by_cases e : j = k
          · subst e; exact hz
          · exact HI.out.2 j (by omega)
        · show n - ((k : Int) + 1).toNat < n - ((k : Int)).toNat
          have := HK.out; omega
      have HN2 : Hid (∀ (hz : keepB lv st i k = false), (∃ q : Nat, Value.int .i64 ((k : Int) + 1) = .int .i64 (q : Int) ∧ True ∧ Hid (q ≤ n ∧ ∀ j, j < q → keepB lv st i j = false)) ∧ n - (intOf (Value.int .i64 ((k : Int) + 1))).toNat < n - (intOf (Value.int .i64 (k : Int))).toNat) := HN
      obtain ⟨b1, hb1⟩ : ∃ b1, lv i k = b1 := ⟨_, rfl⟩
      obtain ⟨b2, hb2⟩ : ∃ b2, st k = b2 := ⟨_, rfl⟩
      obtain ⟨b3, hb3⟩ : ∃ b3, lv k i = b3 := ⟨_, rfl⟩
      have HB : Hid (lv i k = b1 ∧ st k = b2 ∧ lv k i = b3) := ⟨hb1, hb2, hb3⟩
      rw [hb1] at c3
      rw [hb2] at c4
      rw [hb3] at c7
      clear hk c6 HN hb1 hb2 hb3
      cases b1 with
      | false =>
        go_wp2
        exact HN2.out (by unfold keepB; rw [HB.out.1]; rfl)
      | true =>
        cases b2 with
        | true =>
          go_wp2
          exact HN2.out (by unfold keepB; rw [HB.out.1, HB.out.2.1]; rfl)
        | false =>
          by_cases e : k = i
          · subst e
            clear c7
            go_wp2
            all_goals exact HN2.out (by unfold keepB; rw [HB.out.1, HB.out.2.1]; simp)
          · have e1 : ((k : Int) != (i : Int)) = true := by simp; omega
            have e2 : ¬ (k : Int) = (i : Int) := by omega
            have HE : Hid (¬ k = i) := e
            clear e
            cases b3 with
            | true =>
              go_wp2
              exact HN2.out (by unfold keepB; rw [HB.out.1, HB.out.2.1, HB.out.2.2]; simp)
            | false =>
              go_wp2
              go_ret
              rw [rdB_false HK.out (by unfold keepB; rw [HB.out.1, HB.out.2.1, HB.out.2.2]; simp [HE.out])]
              exact ⟨rfl, rfl⟩
    · have hki : ¬ (k : Int) < (n : Int) := by omega
      have HX : Hid (rdB n lv st i = true) := rdB_true (fun j hj => HI.out.2 j (by have := HI.out.1; omega))
      clear hk
      go_wp2
      go_ret
      rw [HX.out]
      exact ⟨rfl, rfl⟩
end Go.Proofs.Ytkkpkcigflikkaa
