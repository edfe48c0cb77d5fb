/-
  WorldScript, walked.
-/
import Derived.Test.YtkjbdjobglnphaaXl
namespace Go.Proofs.Ytkjbdjobglnphaa
open Go.RowKit Go.Shelf Go.Maps Go.Conc
set_option linter.unusedVariables false
/-- A call that was handed in. -/
structure AT where
  k : Int
  o : Option Addr
  cap : Nat
  l : List Int
  c : Int
  n : Int
def AsAt (W : World) (o : Option Addr) (aL : List AT) : Prop := aL = [] ∨ ∃ g off, o = some ⟨g, off, none⟩ ∧ g < W.heap.size ∧ ∀ j a, aL[j]? = some a → W.cell? ⟨g, off + j * 4, none⟩ = some (.int .i64 a.k) ∧ W.cell? ⟨g, off + j * 4 + 1, none⟩ = some (.slice a.o a.l.length a.cap) ∧ W.cell? ⟨g, off + j * 4 + 2, none⟩ = some (.int .u8 a.c) ∧ W.cell? ⟨g, off + j * 4 + 3, none⟩ = some (.int .i64 a.n) ∧ (a.o = none → a.l = [] ∧ a.cap = 0) ∧ BytAt W a.o a.l
theorem AsAt.at {W W' : World} {o : Option Addr} {aL : List AT} (h : AsAt W o aL) (hb : Below W.heap.size W W') {j : Nat} {a : AT} (hj : aL[j]? = some a) : ∃ g off, o = some ⟨g, off, none⟩ ∧ g < W'.heap.size ∧ W'.cell? ⟨g, off + j * 4, none⟩ = some (.int .i64 a.k) ∧ W'.cell? ⟨g, off + j * 4 + 1, none⟩ = some (.slice a.o a.l.length a.cap) ∧ W'.cell? ⟨g, off + j * 4 + 2, none⟩ = some (.int .u8 a.c) ∧ W'.cell? ⟨g, off + j * 4 + 3, none⟩ = some (.int .i64 a.n) ∧ (a.o = none → a.l = [] ∧ a.cap = 0) ∧ BytAt W a.o a.l := by
  rcases h with rfl | ⟨g, off, e, hg, h⟩
  · simp at hj
  · obtain ⟨h0, h1, h2, h3, h4, h5⟩ := h j a hj
    exact ⟨g, off, e, Nat.lt_of_lt_of_le hg hb.size, (hb.cell (p := ⟨g, off + j * 4, none⟩) hg).trans h0, (hb.cell (p := ⟨g, off + j * 4 + 1, none⟩) hg).trans h1, (hb.cell (p := ⟨g, off + j * 4 + 2, none⟩) hg).trans h2, (hb.cell (p := ⟨g, off + j * 4 + 3, none⟩) hg).trans h3, h4, h5⟩
theorem act_c {w W : World} {P R : Nat} (h : Goes2 w W P R) (k : Int) (oB : Option Addr) (nB cB : Nat) (l : List Int) (hl : l.length = nB) (hln : nB ≤ 4000) (hob : oB = none → l = [] ∧ cB = 0) (hB : BytAt w oB l) (c N : Int) (hN : N ≤ 1048586) : Calls Try.prog 17 #[.pointer (some ⟨P, 0, none⟩), .pointer (some ⟨R, 0, none⟩), .agg #[.int .i64 k, .slice oB nB cB, .int .u8 c, .int .i64 N]] W fun r W' => r = .returned (.bool true) ∧ Goes2 w W' P R := by
  obtain ⟨F, G, s, h⟩ := h
  obtain ⟨h0, h6⟩ := pick_range k
  rcases (by omega : pickM k = 0 ∨ pickM k = 1 ∨ pickM k = 2 ∨ pickM k = 3 ∨ pickM k = 4 ∨ pickM k = 5) with e | e | e | e | e | e
  · exact act0_c h k e oB nB cB l hl hln hob hB c N
  · exact act1_c h k e oB nB cB c N
  · exact act2_c h k e oB nB cB c N
  · exact act3_c h k e oB nB cB c N
  · exact act4_c h k e oB nB cB c N
  · exact act5_c h k e oB nB cB c N hN
theorem same2_c {w W : World} {P R : Nat} (h : Goes2 w W P R) : Calls Try.prog 18 #[.pointer (some ⟨P, 0, none⟩), .pointer (some ⟨R, 0, none⟩)] W fun r W' => r = .returned (.bool true) ∧ Goes2 w W' P R := by
  obtain ⟨F, G, s, h⟩ := h
  refine (same_c h).mono ?_
  rintro r W' ⟨rfl, hb⟩
  exact ⟨rfl, F, G, s, h.on hb⟩
theorem Goes2.below {w W : World} {P R : Nat} (h : Goes2 w W P R) : Below w.heap.size w W := by obtain ⟨F, G, s, h⟩ := h; exact h.below
theorem goes_new {w w1 w2 : World} {P C : Nat} (h : Fresh w w1 P C 64 [] 0 false none 0 0) (hr : RSt w.heap.size w2 (fun k => k = w1.heap.size) w1.heap.size St.new) (hb : Below w1.heap.size w1 w2) : Goes2 w w2 P w1.heap.size := by
  have h2 := h.on hb
  refine ⟨fun k => k = P ∨ k = C, fun k => k = w1.heap.size, St.new, ⟨C, 64, none, 0, h2.at_, World.ownsRow_nil _ _ _ _, .inl rfl, .inr rfl, fun k e => (by cases e)⟩, hr, ?_, ?_, ?_, h2.below, ⟨Nat.le_refl _, Nat.zero_le _, Nat.zero_le _⟩⟩
  · rintro k (rfl | rfl) e
    · have := h.at_.blk.lt; omega
    · have := h.at_.ch.lt; omega
  · rintro k (rfl | rfl)
    · exact ⟨h.hP, h2.at_.blk.lt⟩
    · exact ⟨h.hC, h2.at_.ch.lt⟩
  · rintro k rfl
    obtain ⟨oi, ci, ow, cw, h1, -⟩ := hr
    exact ⟨h.below.size, h1.lt⟩
set_option maxRecDepth 100000 in
set_option maxHeartbeats 8000000 in
theorem lawScript_c (ov : Option Addr) (n cv : Nat) (aL : List AT) (hn : aL.length = n) (hni : (n : Int) ≤ 9223372036854775807) (w : World) (has : AsAt w ov aL) : Calls Try.prog 4 #[.slice ov n cv] w fun e W' => e = .returned (.bool true) ∧ Below w.heap.size w W' := by
  have HL : Hid (AsAt w ov aL ∧ aL.length = n) := ⟨has, hn⟩
  clear has hn
  go_enter Try.func4, Try.ntmps4
  go_wp2_with (go_at_call 7; fail)
  refine (lives_c w).mono ?_
  rintro r w0 ⟨rfl, h0⟩
  have H0 : Hid (Below w.heap.size w w0) := h0
  clear h0
  go_wp2
  go_loopw [4, 3] (fun v4 v3 wr => ∃ k gr : Nat, v4 = .int .i64 (k : Int) ∧ v3 = .int .i64 (gr : Int) ∧ Hid (k ≤ n ∧ gr ≤ k ∧ gr ≤ 201 ∧ Below w.heap.size w wr ∧ ∀ j a, j < k → aL[j]? = some a → a.l.length ≤ 4000 ∧ a.n ≤ 1048586)) (fun v _ _ => n - (intOf v).toNat)
  case atStart => exact ⟨0, 0, rfl, rfl, Nat.zero_le _, Nat.le_refl _, Nat.zero_le _, H0.out, fun j a hj => absurd hj (Nat.not_lt_zero _)⟩
  case round =>
    obtain ⟨k, gr, rfl, rfl, HI⟩ := hrel
    by_cases hk : k < n
    · obtain ⟨a, ha⟩ : ∃ a, aL[k]? = some a := ⟨aL[k]'(by have := HL.out.2; omega), List.getElem?_eq_getElem _⟩
      obtain ⟨g, off, rfl, hg, c0, c1, c2, c3, ho, hb⟩ := HL.out.1.at HI.out.2.2.2.1 ha
      obtain ⟨ak, ao, acap, al, ac, an⟩ := a
      simp only at c0 c1 c2 c3
      obtain ⟨t, ht⟩ : ∃ t, al.length = t := ⟨_, rfl⟩
      rw [ht] at c1
      have hki : (k : Int) < (n : Int) := by omega
      have HA : Hid (aL[k]? = some ⟨ak, ao, acap, al, ac, an⟩ ∧ al.length = t ∧ k < n) := ⟨ha, ht, hk⟩
      have HPk : Hid (∀ X, Calls Try.prog 15 #[.int .i64 ak, .int .i64 6] X fun r W' => r = .returned (.int .i64 (pickM ak)) ∧ W' = X) := fun X => pick_c ak X
      clear ha ht hk ho hb
      by_cases h4 : t ≤ 4000
      · by_cases h5 : an ≤ 1048586
        · by_cases h6 : k ≤ 200
          · have d4 : ¬ (4000 : Int) < (t : Int) := by omega
            have d5 : ¬ (1048586 : Int) < an := by omega
            have d6 : ¬ (200 : Int) < (k : Int) := by omega
            have HOk : Hid (t ≤ 4000 ∧ an ≤ 1048586 ∧ k ≤ 200) := ⟨h4, h5, h6⟩
            clear h4 h5 h6
            go_wp2_with (go_at_call 15; fail)
            refine (HPk.out _).mono ?_
            rintro r w1 ⟨rfl, rfl⟩
            have HNx : Hid (∀ j a, j < k + 1 → aL[j]? = some a → a.l.length ≤ 4000 ∧ a.n ≤ 1048586) := fun j a hj ha => by
              rcases (by omega : j < k ∨ j = k) with h9 | h9
              · exact HI.out.2.2.2.2 j a h9 ha
              · subst h9
                rw [HA.out.1] at ha
                cases ha
                exact ⟨by simp only [HA.out.2.1]; exact HOk.out.1, HOk.out.2.1⟩
            generalize pickM ak = pk at *
            have hgr : (gr : Int) ≤ 201 := by have := HI.out.2.2.1; omega
            by_cases hp : pk = 5
            · subst hp
              by_cases hg4 : (4000 : Int) < an
              · go_wp2
                refine ⟨⟨k + 1, gr + 1, by congr 1, by congr 1, HA.out.2.2, by have := HI.out.2.1; omega, by have := HI.out.2.1; have := HOk.out.2.2; omega, HI.out.2.2.2.1, HNx.out⟩, ?_⟩
                show n - ((k : Int) + 1).toNat < n - (k : Int).toNat
                have := HA.out.2.2
                omega
              · go_wp2
                refine ⟨⟨k + 1, gr, by congr 1, rfl, HA.out.2.2, by have := HI.out.2.1; omega, HI.out.2.2.1, HI.out.2.2.2.1, HNx.out⟩, ?_⟩
                show n - ((k : Int) + 1).toNat < n - (k : Int).toNat
                have := HA.out.2.2
                omega
            · have hp2 : (pk == 5) = false := by simpa using hp
              go_wp2
              refine ⟨⟨k + 1, gr, by congr 1, rfl, HA.out.2.2, by have := HI.out.2.1; omega, HI.out.2.2.1, HI.out.2.2.2.1, HNx.out⟩, ?_⟩
              show n - ((k : Int) + 1).toNat < n - (k : Int).toNat
              have := HA.out.2.2
              omega
          · have d4 : ¬ (4000 : Int) < (t : Int) := by omega
            have d5 : ¬ (1048586 : Int) < an := by omega
            have d6 : (200 : Int) < (k : Int) := by omega
            clear h4 h5 h6
            go_wp2
            go_ret
            exact ⟨rfl, HI.out.2.2.2.1⟩
        · have d4 : ¬ (4000 : Int) < (t : Int) := by omega
          have d5 : (1048586 : Int) < an := by omega
          clear h4 h5
          go_wp2
          go_ret
          exact ⟨rfl, HI.out.2.2.2.1⟩
      · have d4 : (4000 : Int) < (t : Int) := by omega
        clear h4
        go_wp2
        go_ret
        exact ⟨rfl, HI.out.2.2.2.1⟩
    · have hki : ¬ (k : Int) < (n : Int) := by omega
      have HOk : Hid (∀ (j : Nat) (a : AT), aL[j]? = some a → a.l.length ≤ 4000 ∧ a.n ≤ 1048586) := fun j a ha => HI.out.2.2.2.2 j a (by have := (List.getElem?_eq_some_iff.1 ha).1; have := HL.out.2; omega) ha
      clear hk
      by_cases h200 : n ≤ 200
      case neg =>
        have d1 : (200 : Int) < (n : Int) := by omega
        clear h200
        go_wp2
        go_ret
        exact ⟨rfl, HI.out.2.2.2.1⟩
      have d1 : ¬ (200 : Int) < (n : Int) := by omega
      by_cases h2 : gr ≤ 2
      case neg =>
        have d2 : (2 : Int) < (gr : Int) := by omega
        clear h200 h2
        go_wp2
        go_ret
        exact ⟨rfl, HI.out.2.2.2.1⟩
      have d2 : ¬ (2 : Int) < (gr : Int) := by omega
      clear h200 h2
      go_wp2_with (go_at_call 8; fail)
      refine (new_f w _ HI.out.2.2.2.1).mono ?_
      rintro r w1 ⟨P, C, rfl, h1⟩
      have H1 : Hid (Fresh w w1 P C 64 [] 0 false none 0 0) := h1
      clear h1
      go_wp2_with (go_at_call 16; fail)
      refine (rNew_c w1 w.heap.size).mono ?_
      rintro r w2 ⟨rfl, h2, h3, -⟩
      have H2 : Hid (Goes2 w w2 P w1.heap.size) := goes_new H1.out h2 h3
      clear h2 h3
      generalize w1.heap.size = R at *
      go_wp2
      go_loopw [7] (fun v7 wr => ∃ j : Nat, v7 = .int .i64 (j : Int) ∧ Hid (j ≤ n ∧ Goes2 w wr P R)) (fun v _ => n - (intOf v).toNat)
      case atStart => exact ⟨0, rfl, Nat.zero_le _, H2.out⟩
      case round =>
        obtain ⟨j, rfl, HJ⟩ := hrel
        by_cases hj : j < n
        · obtain ⟨a, ha⟩ : ∃ a, aL[j]? = some a := ⟨aL[j]'(by have := HL.out.2; omega), List.getElem?_eq_getElem _⟩
          obtain ⟨g, off, rfl, hg, c0, c1, c2, c3, ho, hb⟩ := HL.out.1.at HJ.out.2.below ha
          have hbd := HOk.out j a ha
          obtain ⟨ak, ao, acap, al, ac, an⟩ := a
          simp only at c0 c1 c2 c3 ho hb hbd
          obtain ⟨t, ht⟩ : ∃ t, al.length = t := ⟨_, rfl⟩
          rw [ht] at c1 hbd
          have hji : (j : Int) < (n : Int) := by omega
          have HA : Hid (Calls Try.prog 17 #[.pointer (some ⟨P, 0, none⟩), .pointer (some ⟨R, 0, none⟩), .agg #[.int .i64 ak, .slice ao t acap, .int .u8 ac, .int .i64 an]] wr fun r W' => r = .returned (.bool true) ∧ Goes2 w W' P R) := act_c HJ.out.2 ak ao t acap al ht hbd.1 ho hb ac an hbd.2
          have HK : Hid (j < n) := hj
          clear ha ht hj ho hb hbd
          go_wp2_with (go_at_call 17; fail)
          refine HA.out.mono ?_
          rintro r w3 ⟨rfl, h3⟩
          have H3 : Hid (Goes2 w w3 P R) := h3
          clear h3
          go_wp2_with (go_at_call 18; fail)
          refine (same2_c H3.out).mono ?_
          rintro r w4 ⟨rfl, h4⟩
          have H4 : Hid (Goes2 w w4 P R) := h4
          clear h4
          go_wp2
          refine ⟨⟨j + 1, by congr 1, HK.out, H4.out⟩, ?_⟩
          show n - ((j : Int) + 1).toNat < n - (j : Int).toNat
          have := HK.out
          omega
        · have hji : ¬ (j : Int) < (n : Int) := by omega
          clear hj
          go_wp2
          go_ret
          exact ⟨rfl, HJ.out.2.below⟩
end Go.Proofs.Ytkjbdjobglnphaa
