/-
  The law WorldChunks, walked: its loops.
-/
import Derived.Test.YtkjbdjobglnphaaWk
namespace Go.Proofs.Ytkjbdjobglnphaa
open Go.RowKit Go.Shelf Go.Maps Go.Conc
set_option linter.unusedVariables false
theorem drop_lt {A : List Int} {d : Nat} (h : d < A.length) : ∃ x, A[d]? = some x ∧ A.drop d = x :: A.drop (d + 1) := ⟨A[d], List.getElem?_eq_getElem h, List.drop_eq_getElem_cons h⟩
set_option maxRecDepth 100000 in
set_option maxHeartbeats 8000000 in
theorem lawChunks_c (ov : Option Addr) (n cv : Nat) (ll : List (List Int)) (hn : ll.length = n) (hni : (n : Int) ≤ 9223372036854775807) (w : World) (hll : BssAt w ov ll) : Calls Try.prog 6 #[.slice ov n cv] w fun e W' => e = .returned (.bool true) ∧ Below w.heap.size w W' := by
  have HL : Hid (BssAt w ov ll ∧ ll.length = n) := ⟨hll, hn⟩
  clear hll hn
  go_enter Try.func6, Try.ntmps6
  go_wp2_with (go_at_call 7; fail)
  refine (lives_c w).mono ?_
  rintro r w0 ⟨rfl, h0⟩
  have H0 : Hid (Below w.heap.size w w0) := h0
  clear h0
  by_cases h200 : n ≤ 200
  case neg =>
    have h1 : (200 : Int) < (n : Int) := by omega
    have h2 : decide (200 < n) = true := by simp; omega
    clear h200
    go_wp2
    go_ret
    exact ⟨rfl, H0.out⟩
  have h1 : ¬ (200 : Int) < (n : Int) := by omega
  have h2 : decide (200 < n) = false := by simp; omega
  go_wp2_with (go_at_call 8; fail)
  refine (new_f w _ H0.out).mono ?_
  rintro r w1 ⟨P, C, rfl, h3⟩
  have H1 : Hid (Ck w w1 P [] 0 false [] none 0 0) := ⟨⟨C, 64, h3⟩, rfl, World.ownsRow_nil _ _ _ _⟩
  clear h3 h1 h2
  go_wp2
  go_loopw [5, 4] (fun v5 v4 wr => ∃ (k m c : Nat) (o : Option Addr), v5 = .int .i64 (k : Int) ∧ v4 = .slice o m c ∧ Hid (k ≤ n ∧ m ≤ k * 4000 ∧ ∃ A d, d ≤ m ∧ Ck w wr P (A.drop d) m false A o m c)) (fun v _ _ => n - (intOf v).toNat)
  case atStart => exact ⟨0, 0, 0, none, rfl, rfl, Nat.zero_le _, Nat.le_refl _, [], 0, Nat.le_refl _, H1.out⟩
  case round =>
    obtain ⟨k, m, c, o, rfl, rfl, HI⟩ := hrel
    by_cases hk : k < n
    · obtain ⟨l, hl⟩ : ∃ l, ll[k]? = some l := ⟨ll[k]'(by have := HL.out.2; omega), List.getElem?_eq_getElem _⟩
      obtain ⟨hkn, hmk, A, d, hd, hck⟩ := HI.out
      obtain ⟨g, off, ob, cb, rfl, hg, hc, hob, hb0, hb1⟩ := HL.out.1.at hck.below hl
      obtain ⟨t, ht⟩ : ∃ t, l.length = t := ⟨_, rfl⟩
      rw [ht] at hc
      have hgr : g < wr.heap.size := Nat.lt_of_lt_of_le hg hck.below.size
      have hki : (k : Int) < (n : Int) := by omega
      have HC : Hid (Ck w wr P (A.drop d) m false A o m c) := hck
      have HB : Hid (BytAt w ob l ∧ BytAt wr ob l ∧ (ob = none → l = [] ∧ cb = 0) ∧ l.length = t ∧ g < w.heap.size ∧ (g < w.heap.size → w.cell? ⟨g, off + k, none⟩ = some (.slice ob t cb))) := ⟨hb0, hb1, hob, ht, hg, fun h => ((hck.below.cell (p := ⟨g, off + k, none⟩) h).symm.trans hc)⟩
      have HD : Hid (k < n ∧ n ≤ 200 ∧ m ≤ k * 4000 ∧ d ≤ m ∧ A.length = m) := ⟨hk, h200, hmk, hd, hck.len⟩
      clear hkn hmk hd hck hg hob hb0 hb1 ht hl hk h200 HI
      by_cases h4 : t ≤ 4000
      case neg =>
        have h5 : (4000 : Int) < (t : Int) := by omega
        have h6 : decide (4000 < t) = true := by simp; omega
        clear h4
        go_wp2
        go_ret
        exact ⟨rfl, HC.out.below⟩
      have h5 : ¬ (4000 : Int) < (t : Int) := by omega
      have h6 : decide (4000 < t) = false := by simp; omega
      have HT : Hid (t ≤ 4000) := h4
      clear h4
      go_wp2_with (go_at_call 9; fail)
      refine (HC.out.feed ob l t cb HB.out.2.2.2.1 HB.out.1 HB.out.2.1 (by have := HD.out; have := HT.out; have := HB.out.2.2.2.1; omega)).mono ?_
      rintro r w2 ⟨rfl, h2⟩
      have H2 : Hid (Ck w w2 P (A.drop d ++ l) (m + l.length) false A o m c) := h2
      have hc2 : w2.cell? ⟨g, off + k, none⟩ = some (.slice ob t cb) := (h2.below.cell (p := ⟨g, off + k, none⟩) HB.out.2.2.2.2.1).trans (HB.out.2.2.2.2.2 HB.out.2.2.2.2.1)
      have hg2 : g < w2.heap.size := Nat.lt_of_lt_of_le HB.out.2.2.2.2.1 h2.below.size
      have HB2 : Hid (BytAt w2 ob l) := HB.out.1.oth (Oth.of_below (S := fun _ => False) h2.below) (fun _ _ _ e => e)
      clear h2 hc hgr h5 h6
      go_upto_region 15 with (at_builtin; refine app_bytes rfl _ _ rfl w.heap.size (.slice o m c) m A HD.out.2.2.2.2 rfl H2.out.row ob t cb l rfl HB.out.2.2.2.1 HB.out.2.2.1 HB2.out (by have := HD.out; have := HT.out; have := HB.out.2.2.2.1; omega) H2.out.below.size ?_; intro o' c' w3 h31 h32 h33; have H3 : Hid (Ck w w3 P (A.drop d ++ l) (m + l.length) false (A ++ l) o' (m + t) c') := H2.out.app' HB.out.2.2.2.1 h31 h32; clear h31 h32 h33)
      obtain ⟨M, hM⟩ : ∃ M, m + t = M := ⟨_, rfl⟩
      have H4 : Hid (∃ A, A.length = M ∧ Ck w w3 P (A.drop d) M false A o' M c') := by
        refine ⟨A ++ l, by rw [List.length_append]; have := HD.out; have := HB.out.2.2.2.1; omega, ?_⟩
        rw [List.drop_append_of_le_length (by have := HD.out; omega), ← hM]
        have h9 := H3.out
        rw [HB.out.2.2.2.1] at h9
        exact h9
      have HM : Hid (M ≤ (k + 1) * 4000 ∧ d ≤ M) := by have := HD.out; have := HT.out; show _ ∧ _; omega
      rw [hM]
      obtain ⟨B, hB, h4⟩ := H4.out
      have H5 : Hid (Ck w w3 P (B.drop d) M false B o' M c' ∧ B.length = M) := ⟨h4, hB⟩
      have HN : Hid (k < n ∧ n ≤ 200) := ⟨HD.out.1, HD.out.2.1⟩
      clear h4 hB H4 H3 hM HD HT HB2 hc2 hg2 HB H2 HC
      have hmi : (M : Int) ≤ 804000 := by have := HM.out; have := HN.out; omega
      have hdi : (d : Int) ≤ M := by have := HM.out; omega
      rcases Nat.mod_two_eq_zero_or_one k with hpar | hpar
      · go_wp2
        refine ⟨⟨k + 1, M, c', o', by congr 1, rfl, HN.out.1, HM.out.1, B, d, HM.out.2, H5.out.1⟩, ?_⟩
        show n - ((k : Int) + 1).toNat < n - (k : Int).toNat
        have := HN.out.1
        omega
      · have hp1 : (k : Int) % 2 = 1 := by omega
        clear hpar
        go_wp2_with (go_at_call 12; fail)
        refine (H5.out.1.used d (by rw [List.length_drop]; have := H5.out.2; have := HM.out; omega)).mono ?_
        rintro r w4 ⟨rfl, h4⟩
        have H6 : Hid (Ck w w4 P (B.drop d) M false B o' M c') := h4
        clear h4
        by_cases hdM : d < M
        · obtain ⟨x, hx, hdr⟩ := drop_lt (A := B) (d := d) (by rw [H5.out.2]; exact hdM)
          have H7 : Hid (Ck w w4 P (x :: B.drop (d + 1)) M false B o' M c') := by rw [← hdr]; exact H6.out
          have hd1 : (d : Int) < (M : Int) := by omega
          have HX : Hid (B[d]? = some x ∧ d < M) := ⟨hx, hdM⟩
          clear hx hdr H6 hdM
          go_wp2_with (go_at_call 10; fail)
          refine H7.out.get.mono ?_
          rintro r w5 ⟨rfl, h5⟩
          have H8 : Hid (Ck w w5 P (B.drop (d + 1)) M false B o' M c') := h5
          clear h5 H7
          go_wp2_with (go_at_call 12; fail)
          refine (H8.out.used (d + 1) (by rw [List.length_drop]; have := H5.out.2; have := HX.out; omega)).mono ?_
          rintro r w6 ⟨rfl, h6⟩
          have H9 : Hid (Ck w w6 P (B.drop (d + 1)) M false B o' M c') := h6
          obtain ⟨g2, rfl, hg2, hc6⟩ := h6.cellAt HX.out.1
          clear h6 H8
          go_wp2
          refine ⟨⟨k + 1, M, c', some ⟨g2, 0, none⟩, by congr 1, rfl, HN.out.1, HM.out.1, B, d + 1, HX.out.2, H9.out⟩, ?_⟩
          show n - ((k : Int) + 1).toNat < n - (k : Int).toNat
          have := HN.out.1
          omega
        · have hd1 : ¬ (d : Int) < (M : Int) := by omega
          clear hdM
          go_wp2
          refine ⟨⟨k + 1, M, c', o', by congr 1, rfl, HN.out.1, HM.out.1, B, d, HM.out.2, H6.out⟩, ?_⟩
          show n - ((k : Int) + 1).toNat < n - (k : Int).toNat
          have := HN.out.1
          omega
    · have hki : ¬ (k : Int) < (n : Int) := by omega
      obtain ⟨hkn, hmk, A, d, hd, hck⟩ := HI.out
      have HC : Hid (Ck w wr P (A.drop d) m false A o m c ∧ A.length = m ∧ d ≤ m) := ⟨hck, hck.len, hd⟩
      have hmi : (m : Int) ≤ 800000 := by omega
      clear hkn hmk hd hck hk HI
      go_wp2_with (go_at_call 11; fail)
      refine HC.out.1.ends.mono ?_
      rintro r w2 ⟨rfl, h2⟩
      have H2 : Hid (Ck w w2 P (A.drop d) m true A o m c) := h2
      clear h2
      go_wp2_with (go_at_call 12; fail)
      refine (H2.out.used d (by rw [List.length_drop]; have := HC.out.2; omega)).mono ?_
      rintro r w3 ⟨rfl, h3⟩
      have H3 : Hid (Ck w w3 P (A.drop d) m true A o m c) := h3
      clear h3 H2
      go_wp2
      go_loopw [9] (fun v9 wr2 => ∃ e : Nat, v9 = .int .i64 (e : Int) ∧ Hid (e ≤ m ∧ Ck w wr2 P (A.drop e) m true A o m c)) (fun v _ => m - (intOf v).toNat)
      case atStart => exact ⟨d, rfl, HC.out.2.2, H3.out⟩
      case round =>
        obtain ⟨e, rfl, HI⟩ := hrel
        by_cases he : e < m
        · have hei : (e : Int) < (m : Int) := by omega
          obtain ⟨x, hx, hdr⟩ := drop_lt (A := A) (d := e) (by rw [HC.out.2.1]; exact he)
          have H7 : Hid (Ck w wr P (x :: A.drop (e + 1)) m true A o m c) := by rw [← hdr]; exact HI.out.2
          have HX : Hid (A[e]? = some x ∧ e < m) := ⟨hx, he⟩
          clear hx hdr he HI
          go_wp2_with (go_at_call 10; fail)
          refine H7.out.get.mono ?_
          rintro r w5 ⟨rfl, h5⟩
          have H8 : Hid (Ck w w5 P (A.drop (e + 1)) m true A o m c) := h5
          obtain ⟨g2, rfl, hg2, hc6⟩ := h5.cellAt HX.out.1
          clear h5 H7
          go_wp2
          refine ⟨⟨e + 1, by congr 1, HX.out.2, H8.out⟩, ?_⟩
          show m - ((e : Int) + 1).toNat < m - (e : Int).toNat
          have := HX.out.2
          omega
        · have hei : ¬ (e : Int) < (m : Int) := by omega
          have H9 : Hid (Ck w wr P [] m true A o m c) := by
            have h9 := HI.out.2
            rwa [List.drop_eq_nil_of_le (by have := HC.out; omega)] at h9
          clear he HI
          go_wp2
          go_loopw [13] (fun v13 wr => ∃ j : Nat, v13 = .int .i64 (j : Int) ∧ Hid (j ≤ 3 ∧ Ck w wr P [] m true A o m c)) (fun v _ => 3 - (intOf v).toNat)
          case atStart => exact ⟨0, rfl, by decide, H9.out⟩
          case round =>
            obtain ⟨j, rfl, HI⟩ := hrel
            by_cases hj : j < 3
            · have hji : (j : Int) < 3 := by omega
              have HJ : Hid (j < 3) := hj
              clear hj
              go_wp2_with (go_at_call 10; fail)
              refine HI.out.2.getNone.mono ?_
              rintro r w5 ⟨rfl, h5⟩
              have H8 : Hid (Ck w w5 P [] m true A o m c) := h5
              clear h5
              simp only [whatN, if_true]
              go_wp2
              refine ⟨⟨j + 1, by congr 1, HJ.out, H8.out⟩, ?_⟩
              show 3 - ((j : Int) + 1).toNat < 3 - (j : Int).toNat
              have := HJ.out
              omega
            · have hji : ¬ (j : Int) < 3 := by omega
              clear hj
              go_wp2_with (go_at_call 12; fail)
              refine (HI.out.2.used m (by simp)).mono ?_
              rintro r w5 ⟨rfl, h5⟩
              have H8 : Hid (Ck w w5 P [] m true A o m c) := h5
              clear h5
              go_wp2_with (go_at_call 13; fail)
              refine (H8.out.left 0 rfl).mono ?_
              rintro r w6 ⟨rfl, h6⟩
              have H9 : Hid (Below w.heap.size w w6) := h6.below
              clear h6
              simp only [Int.cast_ofNat_Int]
              go_wp2
              go_ret
              exact ⟨rfl, H9.out⟩
end Go.Proofs.Ytkjbdjobglnphaa
