/-
  The law's merged: two rising lists of texts as one, in memory of its own; texts as slices.
  The kit's SameTexts, of two slices of the same texts.
  For CoreFree: free names as a slice of texts, their sizes, what the law's calls answer.
-/
import Derived.Test.YtegdloenakachaaGreatDoorCF04
import Derived.Deep.AppendLies
import Derived.BigQuiet
import Derived.Sort.Walk0
import Derived.Test.YtegdloenakachaaGreatDoorCN31
namespace Go.Proofs.YtegdloenakachaaGreatDoor
open Go.RowKit Go.Shelf Go.Maps Go.Sort
set_option linter.unusedVariables false

/-- Texts, as a slice. -/
def TxV (W : World) (v : Value) (l : List (List UInt8)) : Prop := ∃ o c, v = .slice o l.length c ∧ (l = [] ∨ ∃ g off, o = some ⟨g, off, none⟩ ∧ g < W.heap.size ∧ ∀ k (h : k < l.length), W.cell? ⟨g, off + k, none⟩ = some (encStr l[k]))
theorem TxV.below {W W' : World} {v : Value} {l : List (List UInt8)} (h : TxV W v l) (hb : Below W.heap.size W W') : TxV W' v l := by
  obtain ⟨o, c, e, h⟩ := h
  refine ⟨o, c, e, ?_⟩
  rcases h with h | ⟨g, off, e2, hg, h⟩
  · exact .inl h
  · exact .inr ⟨g, off, e2, Nat.lt_of_lt_of_le hg hb.size, fun k hk => (hb.cell (p := ⟨g, off + k, none⟩) hg).trans (h k hk)⟩
theorem TxV.ofRow {W : World} {B : Nat} {v : Value} {l : List (List UInt8)} (h : W.ownsRow B 9 1 v l.length (l.map encStr)) : TxV W v l := by
  have h2 := h
  rcases h2.2 with ⟨rfl, hz⟩ | ⟨g, cap, cur, rfl, hb, hg, -⟩
  · have : l = [] := List.length_eq_zero_iff.1 hz
    subst this
    exact ⟨none, 0, rfl, .inl rfl⟩
  · refine ⟨_, _, rfl, .inr ⟨g, 0, rfl, (Array.getElem?_eq_some_iff.1 hg).1, fun k hk => ?_⟩⟩
    rw [Nat.zero_add, h.cellAt k (by omega), List.getElem?_map, List.getElem?_eq_getElem hk]
    rfl
theorem mergeM_nil (a : List (List UInt8)) : mergeM a [] = a := by
  cases a with
  | nil => unfold mergeM; rfl
  | cons x a => unfold mergeM; rfl
theorem mergeM_nil' (b : List (List UInt8)) : mergeM [] b = b := by unfold mergeM; rfl
theorem mergeM_len : ∀ (a b : List (List UInt8)), (mergeM a b).length ≤ a.length + b.length
  | [], b => by rw [mergeM_nil']; simp
  | x :: a, [] => by rw [mergeM_nil]; simp
  | x :: a, y :: b => by
    unfold mergeM
    split
    · have := mergeM_len a (y :: b); simp only [List.length_cons] at this ⊢; omega
    · split
      · have := mergeM_len (x :: a) b; simp only [List.length_cons] at this ⊢; omega
      · have := mergeM_len a b; simp only [List.length_cons] at this ⊢; omega
termination_by a b => a.length + b.length
theorem lss_c (x y : List UInt8) (r : Bool) (h : decide (x < y) = r) : ∀ W : World, (binOp .lss 9 (.string ⟨x.toArray⟩) (.string ⟨y.toArray⟩)).run Tryz.prog W = .ok (.bool r) W := fun W => by
  show (Op.stringOp .lss ⟨x.toArray⟩ ⟨y.toArray⟩).run Tryz.prog W = _
  unfold Op.stringOp
  have e : Op.bytesLess (ByteArray.mk x.toArray).toList (ByteArray.mk y.toArray).toList = r := by
    rw [bytesLess_eq, ByteArray.toList_eq, ByteArray.toList_eq]
    exact h
  simp only [e]
  rfl
theorem less_c (x y : List UInt8) (r : Bool) (h : decide (x < y) = r) : Op.bytesLess x y = r := by rw [bytesLess_eq]; exact h
theorem cell_one9 (W : World) (x : Value) (t : TypeId) : ∀ j u, [x][j]? = some u → (W.alloc (.cells #[x] t)).cell? ((⟨W.heap.size, 0, none⟩ : Addr).add j) = some u := by
  intro j u hj
  have hj1 := (List.getElem?_eq_some_iff.1 hj).1
  have hj0 : j = 0 := by simpa using hj1
  subst hj0
  have : x = u := by simpa using hj
  subst this
  rw [Addr.add_lit]
  exact (Blk.new W #[x] t).cell 0 _ rfl
def MgP (A B : List (List UInt8)) (w : World) (r : Ending) (w' : World) : Prop := ∃ v, r = .returned v ∧ w'.ownsRow w.heap.size 9 1 v (mergeM A B).length ((mergeM A B).map encStr) ∧ Below w.heap.size w w'
/-- Where the merging stands. -/
def MgI (A B D : List (List UInt8)) (i k : Nat) : Prop := D ++ mergeM (A.drop i) (B.drop k) = mergeM A B
theorem MgI.len {A B D : List (List UInt8)} {i k : Nat} (h : MgI A B D i k) : D.length ≤ A.length + B.length := by
  have h1 := congrArg List.length h
  rw [List.length_append] at h1
  have := mergeM_len A B
  omega
theorem MgI.a {A B D : List (List UInt8)} {i k : Nat} (h : MgI A B D i k) (hi : i < A.length) (hc : k = B.length ∨ ∃ hk : k < B.length, A[i] < B[k]) (hk : k ≤ B.length) : MgI A B (D ++ [A[i]]) (i + 1) k := by
  unfold MgI at h ⊢
  rw [← h, List.append_assoc]
  congr 1
  rw [List.drop_eq_getElem_cons hi]
  rcases hc with rfl | ⟨hk, hlt⟩
  · rw [List.drop_length, mergeM_nil, mergeM_nil]; rfl
  · rw [List.drop_eq_getElem_cons hk]
    conv => rhs; unfold mergeM
    rw [if_pos hlt]; rfl
theorem MgI.b {A B D : List (List UInt8)} {i k : Nat} (h : MgI A B D i k) (hk : k < B.length) (hc : i = A.length ∨ ∃ hi : i < A.length, ¬ A[i] < B[k] ∧ B[k] < A[i]) : MgI A B (D ++ [B[k]]) i (k + 1) := by
  unfold MgI at h ⊢
  rw [← h, List.append_assoc]
  congr 1
  rw [List.drop_eq_getElem_cons hk]
  rcases hc with rfl | ⟨hi, hn, hlt⟩
  · rw [List.drop_length, mergeM_nil', mergeM_nil']; rfl
  · rw [List.drop_eq_getElem_cons hi]
    conv => rhs; unfold mergeM
    rw [if_neg hn, if_pos hlt]; rfl
theorem MgI.ab {A B D : List (List UInt8)} {i k : Nat} (h : MgI A B D i k) (hi : i < A.length) (hk : k < B.length) (hn : ¬ A[i] < B[k]) (hn2 : ¬ B[k] < A[i]) : MgI A B (D ++ [A[i]]) (i + 1) (k + 1) := by
  unfold MgI at h ⊢
  rw [← h, List.append_assoc]
  congr 1
  rw [List.drop_eq_getElem_cons hi, List.drop_eq_getElem_cons hk]
  conv => rhs; unfold mergeM
  rw [if_neg hn, if_neg hn2]; rfl
set_option maxRecDepth 100000 in
set_option maxHeartbeats 8000000 in
theorem merged_c (A B : List (List UInt8)) (va vb : Value) (w : World) (hA : TxV w va A) (hB : TxV w vb B) (hl : A.length ≤ 1000000) (hl2 : B.length ≤ 1000000) : Calls Tryz.prog 28 #[va, vb] w fun r w' => MgP A B w r w' := by
  obtain ⟨oa, ca, rfl, hA⟩ := hA
  obtain ⟨ob, cb, rfl, hB⟩ := hB
  obtain ⟨na, hna⟩ : ∃ n, A.length = n := ⟨_, rfl⟩
  obtain ⟨nb, hnb⟩ : ∃ n, B.length = n := ⟨_, rfl⟩
  have HN : Hid (A.length = na ∧ B.length = nb) := ⟨hna, hnb⟩
  have HA : Hid (A = [] ∨ ∃ g off, oa = some ⟨g, off, none⟩ ∧ g < w.heap.size ∧ ∀ k (h : k < A.length), w.cell? ⟨g, off + k, none⟩ = some (encStr A[k])) := hA
  have HB : Hid (B = [] ∨ ∃ g off, ob = some ⟨g, off, none⟩ ∧ g < w.heap.size ∧ ∀ k (h : k < B.length), w.cell? ⟨g, off + k, none⟩ = some (encStr B[k])) := hB
  obtain ⟨i0, hi0, hz0, hz1, hz2⟩ := info_parts infoStr7
  have HI0 : Hid (Tryz.prog.info? 9 = some i0 ∧ i0.zero = some (.string ⟨#[]⟩) ∧ i0.size = 1 ∧ i0.bytes = 16) := ⟨hi0, hz0, hz1, hz2⟩
  have h0 : Hid (w.ownsRow w.heap.size 9 1 (.slice none 0 0) ([] : List (List UInt8)).length (([] : List (List UInt8)).map encStr) ∧ Below w.heap.size w w) := ⟨World.ownsRow_nil _ _ _ _, Below.refl _ _⟩
  rw [hna] at hl ⊢
  rw [hnb] at hl2 ⊢
  have hlz : (na : Int) ≤ 1000000 := by omega
  have hlz2 : (nb : Int) ≤ 1000000 := by omega
  clear hA hB hna hnb hi0 hz0 hz1 hz2
  go_enter Tryz.func28, Tryz.ntmps28
  go_wp2
  go_loopg [5, 6, 7] (na + nb) (fun g s5 s6 s7 wr => ∃ (D : List (List UInt8)) (i k : Nat), s6 = .int .i64 i ∧ s7 = .int .i64 k ∧ i ≤ na ∧ k ≤ nb ∧ (na - i) + (nb - k) ≤ g ∧ Hid (MgI A B D i k) ∧ Hid (wr.ownsRow w.heap.size 9 1 s5 D.length (D.map encStr) ∧ Below w.heap.size w wr))
  case atStart => exact ⟨[], 0, 0, rfl, rfl, Nat.zero_le _, Nat.zero_le _, by omega, (show MgI A B [] 0 0 from rfl), h0⟩
  case round =>
    clear h0
    obtain ⟨D, i, k, rfl, rfl, hi, hk, hg, HM, HO⟩ := hrel
    have hD : (D.length : Int) ≤ 2000000 := by have := HM.out.len; have := HN.out.1; have := HN.out.2; omega
    have hDn : D.length ≤ 2000000 := by omega
    by_cases hin : i < na
    · have hiz : (i : Int) < (na : Int) := by omega
      by_cases hkn : k < nb
      · have hkz : (k : Int) < (nb : Int) := by omega
        obtain ⟨x, hxp, hxe, gx, ox, rfl, hgx, hcx⟩ : ∃ (x : List UInt8) (hp : i < A.length), A[i] = x ∧ ∃ g off, oa = some ⟨g, off, none⟩ ∧ g < w.heap.size ∧ w.cell? ⟨g, off + i, none⟩ = some (.string ⟨x.toArray⟩) := by
          have hp : i < A.length := by rw [HN.out.1]; assumption
          rcases HA.out with h | ⟨g, off, e, hg, h⟩
          · rw [h] at hp; cases hp
          · exact ⟨A[i], hp, rfl, g, off, e, hg, h i hp⟩
        have hwx : wr.cell? ⟨gx, ox + i, none⟩ = some (.string ⟨x.toArray⟩) := (HO.out.2.cell (p := ⟨gx, ox + i, none⟩) hgx).trans hcx
        have hzx : gx < wr.heap.size := Nat.lt_of_lt_of_le hgx HO.out.2.size
        have HPx : Hid (∃ hp : i < A.length, A[i] = x) := ⟨hxp, hxe⟩
        clear hgx hcx hxp hxe
        obtain ⟨y, hyp, hye, gy, oy, rfl, hgy, hcy⟩ : ∃ (y : List UInt8) (hp : k < B.length), B[k] = y ∧ ∃ g off, ob = some ⟨g, off, none⟩ ∧ g < w.heap.size ∧ w.cell? ⟨g, off + k, none⟩ = some (.string ⟨y.toArray⟩) := by
          have hp : k < B.length := by rw [HN.out.2]; assumption
          rcases HB.out with h | ⟨g, off, e, hg, h⟩
          · rw [h] at hp; cases hp
          · exact ⟨B[k], hp, rfl, g, off, e, hg, h k hp⟩
        have hwy : wr.cell? ⟨gy, oy + k, none⟩ = some (.string ⟨y.toArray⟩) := (HO.out.2.cell (p := ⟨gy, oy + k, none⟩) hgy).trans hcy
        have hzy : gy < wr.heap.size := Nat.lt_of_lt_of_le hgy HO.out.2.size
        have HPy : Hid (∃ hp : k < B.length, B[k] = y) := ⟨hyp, hye⟩
        clear hgy hcy hyp hye
        have hkd : decide ((k : Int) = (nb : Int)) = false := decide_eq_false (by omega)
        have hkd2 : ((k : Int) == (nb : Int)) = false := beq_eq_false_iff_ne.2 (by omega)
        have hkd3 : decide (k = nb) = false := decide_eq_false (by omega)
        have hid : decide ((i : Int) = (na : Int)) = false := decide_eq_false (by omega)
        have hid2 : ((i : Int) == (na : Int)) = false := beq_eq_false_iff_ne.2 (by omega)
        have hid3 : decide (i = na) = false := decide_eq_false (by omega)
        have hil : decide ((i : Int) < (na : Int)) = true := decide_eq_true (by omega)
        have hil2 : decide (i < na) = true := decide_eq_true (by omega)
        by_cases hlt : x < y
        · have hcmp := less_c x y true (decide_eq_true hlt)
          have HLT : Hid (x < y) := hlt
          clear hlt
          go_wp2
          go_big_quiet (fail)
          have hwxq : (wr.drewN nq).cell? ⟨gx, ox + i, none⟩ = some (.string ⟨x.toArray⟩) := hwx
          have hzxq : gx < (wr.drewN nq).heap.size := hzx
          have hwyq : (wr.drewN nq).cell? ⟨gy, oy + k, none⟩ = some (.string ⟨y.toArray⟩) := hwy
          have hzyq : gy < (wr.drewN nq).heap.size := hzy
          have HOq : Hid ((wr.drewN nq).ownsRow w.heap.size 9 1 u5 D.length (D.map encStr) ∧ Below w.heap.size w (wr.drewN nq)) := ⟨HO.out.1, ⟨HO.out.2.os, HO.out.2.tape, HO.out.2.output, HO.out.2.size, HO.out.2.block⟩⟩
          generalize wr.drewN nq = wq at hwxq hzxq hwyq hzyq HOq ⊢
          clear hwx hzx hwy hzy HO nq
          have hwx := hwxq
          have hzx := hzxq
          have hwy := hwyq
          have hzy := hzyq
          have HO := HOq
          clear hwxq hzxq hwyq hzyq HOq
          go_wp2_with (at_builtin; refine wpList_append_lies _ rfl _ _ 26 rfl w.heap.size 9 i0 (.string ⟨#[]⟩) 1 16 Tryz.underlying26 HI0.out.1 HI0.out.2.1 HI0.out.2.2.1 HI0.out.2.2.2 rfl (by decide) _ _ _ rfl (HO.out.1.alloc _) ⟨wq.heap.size, 0, none⟩ 1 1 [.string ⟨x.toArray⟩] rfl rfl (cell_one9 _ _ _) (by simp [Value.oneCell']) (by decide) (by unfold maxLen; omega) (by omega) (by show _ ≤ (Array.push _ _).size; rw [Array.size_push]; have := HO.out.2.size; omega) _ rfl ?_; intro o8 c8 w8 hown8 hgrow8 hat8 hlt8; have H8 : Hid ((wq.alloc (.cells #[.string ⟨x.toArray⟩] 9)).grownBy w8 u5.ownBlock ∧ w8.ownsRow w.heap.size 9 1 (.slice (some ⟨o8, 0, none⟩) (D.length + 1) c8) (D.length + 1) (D.map encStr ++ [.string ⟨x.toArray⟩])) := ⟨hgrow8, hown8⟩; clear hown8 hgrow8 hat8 hlt8)
          clear hcmp
          have HF : Hid (w8.ownsRow w.heap.size 9 1 (.slice (some ⟨o8, 0, none⟩) (D.length + 1) c8) (D ++ [x]).length ((D ++ [x]).map encStr) ∧ Below w.heap.size w w8) := by
            obtain ⟨g8, o8'⟩ := H8.out
            have b3 := HO.out.2.trans ((below1 wq (.cells #[.string ⟨x.toArray⟩] 9)).mono HO.out.2.size)
            refine ⟨?_, b3.grown g8 b3.size (fun j hj => ?_)⟩
            · rw [List.length_append, List.map_append]; exact o8'
            · rcases HO.out.1.2 with ⟨e, -⟩ | ⟨g, cap, cur, e, hb, -⟩
              · rw [e] at hj; cases hj
              · rw [e] at hj; cases hj; exact hb
          go_roundg ((na - (i + 1)) + (nb - k))
          case measure => omega
          case rel => exact ⟨D ++ [x], i + 1, k, by go_num, by go_num, by omega, by omega, by omega, (by obtain ⟨p, e⟩ := HPx.out; obtain ⟨p2, e2⟩ := HPy.out; have := HM.out.a p (.inr ⟨p2, by rw [e, e2]; exact HLT.out⟩) (by omega); rw [e] at this; exact this), HF⟩
        · have HLT : Hid (¬ x < y) := hlt
          have hcmp := less_c x y false (decide_eq_false hlt)
          clear hlt
          go_wp2
          go_big_quiet (fail)
          have hwxq : (wr.drewN nq).cell? ⟨gx, ox + i, none⟩ = some (.string ⟨x.toArray⟩) := hwx
          have hzxq : gx < (wr.drewN nq).heap.size := hzx
          have hwyq : (wr.drewN nq).cell? ⟨gy, oy + k, none⟩ = some (.string ⟨y.toArray⟩) := hwy
          have hzyq : gy < (wr.drewN nq).heap.size := hzy
          have HOq : Hid ((wr.drewN nq).ownsRow w.heap.size 9 1 u5 D.length (D.map encStr) ∧ Below w.heap.size w (wr.drewN nq)) := ⟨HO.out.1, ⟨HO.out.2.os, HO.out.2.tape, HO.out.2.output, HO.out.2.size, HO.out.2.block⟩⟩
          generalize wr.drewN nq = wq at hwxq hzxq hwyq hzyq HOq ⊢
          clear hwx hzx hwy hzy HO nq
          have hwx := hwxq
          have hzx := hzxq
          have hwy := hwyq
          have hzy := hzyq
          have HO := HOq
          clear hwxq hzxq hwyq hzyq HOq
          by_cases hgt : y < x
          · have hcm2 := less_c y x true (decide_eq_true hgt)
            have HGT : Hid (y < x) := hgt
            clear hgt
            go_wp2
            go_big_quiet (fail)
            have hwxq : (wq.drewN nq).cell? ⟨gx, ox + i, none⟩ = some (.string ⟨x.toArray⟩) := hwx
            have hzxq : gx < (wq.drewN nq).heap.size := hzx
            have hwyq : (wq.drewN nq).cell? ⟨gy, oy + k, none⟩ = some (.string ⟨y.toArray⟩) := hwy
            have hzyq : gy < (wq.drewN nq).heap.size := hzy
            have HOq : Hid ((wq.drewN nq).ownsRow w.heap.size 9 1 u5 D.length (D.map encStr) ∧ Below w.heap.size w (wq.drewN nq)) := ⟨HO.out.1, ⟨HO.out.2.os, HO.out.2.tape, HO.out.2.output, HO.out.2.size, HO.out.2.block⟩⟩
            generalize wq.drewN nq = wz at hwxq hzxq hwyq hzyq HOq ⊢
            clear hwx hzx hwy hzy HO nq
            have hwx := hwxq
            have hzx := hzxq
            have hwy := hwyq
            have hzy := hzyq
            have HO := HOq
            clear hwxq hzxq hwyq hzyq HOq
            go_wp2_with (at_builtin; refine wpList_append_lies _ rfl _ _ 26 rfl w.heap.size 9 i0 (.string ⟨#[]⟩) 1 16 Tryz.underlying26 HI0.out.1 HI0.out.2.1 HI0.out.2.2.1 HI0.out.2.2.2 rfl (by decide) _ _ _ rfl (HO.out.1.alloc _) ⟨wz.heap.size, 0, none⟩ 1 1 [.string ⟨y.toArray⟩] rfl rfl (cell_one9 _ _ _) (by simp [Value.oneCell']) (by decide) (by unfold maxLen; omega) (by omega) (by show _ ≤ (Array.push _ _).size; rw [Array.size_push]; have := HO.out.2.size; omega) _ rfl ?_; intro o8 c8 w8 hown8 hgrow8 hat8 hlt8; have H8 : Hid ((wz.alloc (.cells #[.string ⟨y.toArray⟩] 9)).grownBy w8 u5.ownBlock ∧ w8.ownsRow w.heap.size 9 1 (.slice (some ⟨o8, 0, none⟩) (D.length + 1) c8) (D.length + 1) (D.map encStr ++ [.string ⟨y.toArray⟩])) := ⟨hgrow8, hown8⟩; clear hown8 hgrow8 hat8 hlt8)
            clear hcmp hcm2
            have HF : Hid (w8.ownsRow w.heap.size 9 1 (.slice (some ⟨o8, 0, none⟩) (D.length + 1) c8) (D ++ [y]).length ((D ++ [y]).map encStr) ∧ Below w.heap.size w w8) := by
              obtain ⟨g8, o8'⟩ := H8.out
              have b3 := HO.out.2.trans ((below1 wz (.cells #[.string ⟨y.toArray⟩] 9)).mono HO.out.2.size)
              refine ⟨?_, b3.grown g8 b3.size (fun j hj => ?_)⟩
              · rw [List.length_append, List.map_append]; exact o8'
              · rcases HO.out.1.2 with ⟨e, -⟩ | ⟨g, cap, cur, e, hb, -⟩
                · rw [e] at hj; cases hj
                · rw [e] at hj; cases hj; exact hb
            go_roundg ((na - i) + (nb - (k + 1)))
            case measure => omega
            case rel => exact ⟨D ++ [y], i, k + 1, by go_num, by go_num, by omega, by omega, by omega, (by obtain ⟨p, e⟩ := HPx.out; obtain ⟨p2, e2⟩ := HPy.out; have := HM.out.b p2 (.inr ⟨p, by rw [e, e2]; exact HLT.out, by rw [e, e2]; exact HGT.out⟩); rw [e2] at this; exact this), HF⟩
          · have hcm2 := less_c y x false (decide_eq_false hgt)
            have HGT : Hid (¬ y < x) := hgt
            clear hgt
            go_wp2
            go_big_quiet (fail)
            have hwxq : (wq.drewN nq).cell? ⟨gx, ox + i, none⟩ = some (.string ⟨x.toArray⟩) := hwx
            have hzxq : gx < (wq.drewN nq).heap.size := hzx
            have hwyq : (wq.drewN nq).cell? ⟨gy, oy + k, none⟩ = some (.string ⟨y.toArray⟩) := hwy
            have hzyq : gy < (wq.drewN nq).heap.size := hzy
            have HOq : Hid ((wq.drewN nq).ownsRow w.heap.size 9 1 u5 D.length (D.map encStr) ∧ Below w.heap.size w (wq.drewN nq)) := ⟨HO.out.1, ⟨HO.out.2.os, HO.out.2.tape, HO.out.2.output, HO.out.2.size, HO.out.2.block⟩⟩
            generalize wq.drewN nq = wz at hwxq hzxq hwyq hzyq HOq ⊢
            clear hwx hzx hwy hzy HO nq
            have hwx := hwxq
            have hzx := hzxq
            have hwy := hwyq
            have hzy := hzyq
            have HO := HOq
            clear hwxq hzxq hwyq hzyq HOq
            go_wp2_with (at_builtin; refine wpList_append_lies _ rfl _ _ 26 rfl w.heap.size 9 i0 (.string ⟨#[]⟩) 1 16 Tryz.underlying26 HI0.out.1 HI0.out.2.1 HI0.out.2.2.1 HI0.out.2.2.2 rfl (by decide) _ _ _ rfl (HO.out.1.alloc _) ⟨wz.heap.size, 0, none⟩ 1 1 [.string ⟨x.toArray⟩] rfl rfl (cell_one9 _ _ _) (by simp [Value.oneCell']) (by decide) (by unfold maxLen; omega) (by omega) (by show _ ≤ (Array.push _ _).size; rw [Array.size_push]; have := HO.out.2.size; omega) _ rfl ?_; intro o8 c8 w8 hown8 hgrow8 hat8 hlt8; have H8 : Hid ((wz.alloc (.cells #[.string ⟨x.toArray⟩] 9)).grownBy w8 u5.ownBlock ∧ w8.ownsRow w.heap.size 9 1 (.slice (some ⟨o8, 0, none⟩) (D.length + 1) c8) (D.length + 1) (D.map encStr ++ [.string ⟨x.toArray⟩])) := ⟨hgrow8, hown8⟩; clear hown8 hgrow8 hat8 hlt8)
            clear hcmp hcm2
            have HF : Hid (w8.ownsRow w.heap.size 9 1 (.slice (some ⟨o8, 0, none⟩) (D.length + 1) c8) (D ++ [x]).length ((D ++ [x]).map encStr) ∧ Below w.heap.size w w8) := by
              obtain ⟨g8, o8'⟩ := H8.out
              have b3 := HO.out.2.trans ((below1 wz (.cells #[.string ⟨x.toArray⟩] 9)).mono HO.out.2.size)
              refine ⟨?_, b3.grown g8 b3.size (fun j hj => ?_)⟩
              · rw [List.length_append, List.map_append]; exact o8'
              · rcases HO.out.1.2 with ⟨e, -⟩ | ⟨g, cap, cur, e, hb, -⟩
                · rw [e] at hj; cases hj
                · rw [e] at hj; cases hj; exact hb
            go_roundg ((na - (i + 1)) + (nb - (k + 1)))
            case measure => omega
            case rel => exact ⟨D ++ [x], i + 1, k + 1, by go_num, by go_num, by omega, by omega, by omega, (by obtain ⟨p, e⟩ := HPx.out; obtain ⟨p2, e2⟩ := HPy.out; have := HM.out.ab p p2 (by rw [e, e2]; exact HLT.out) (by rw [e, e2]; exact HGT.out); rw [e] at this; exact this), HF⟩
      · have hkz : ¬ (k : Int) < (nb : Int) := by omega
        obtain ⟨x, hxp, hxe, gx, ox, rfl, hgx, hcx⟩ : ∃ (x : List UInt8) (hp : i < A.length), A[i] = x ∧ ∃ g off, oa = some ⟨g, off, none⟩ ∧ g < w.heap.size ∧ w.cell? ⟨g, off + i, none⟩ = some (.string ⟨x.toArray⟩) := by
          have hp : i < A.length := by rw [HN.out.1]; assumption
          rcases HA.out with h | ⟨g, off, e, hg, h⟩
          · rw [h] at hp; cases hp
          · exact ⟨A[i], hp, rfl, g, off, e, hg, h i hp⟩
        have hwx : wr.cell? ⟨gx, ox + i, none⟩ = some (.string ⟨x.toArray⟩) := (HO.out.2.cell (p := ⟨gx, ox + i, none⟩) hgx).trans hcx
        have hzx : gx < wr.heap.size := Nat.lt_of_lt_of_le hgx HO.out.2.size
        have HPx : Hid (∃ hp : i < A.length, A[i] = x) := ⟨hxp, hxe⟩
        clear hgx hcx hxp hxe
        have hkd : decide ((k : Int) = (nb : Int)) = true := decide_eq_true (by omega)
        have hkd2 : ((k : Int) == (nb : Int)) = true := beq_iff_eq.2 (by omega)
        have hkd3 : decide (k = nb) = true := decide_eq_true (by omega)
        have hid : decide ((i : Int) = (na : Int)) = false := decide_eq_false (by omega)
        have hid2 : ((i : Int) == (na : Int)) = false := beq_eq_false_iff_ne.2 (by omega)
        have hid3 : decide (i = na) = false := decide_eq_false (by omega)
        have hil : decide ((i : Int) < (na : Int)) = true := decide_eq_true (by omega)
        have hil2 : decide (i < na) = true := decide_eq_true (by omega)
        go_wp2
        go_big_quiet (fail)
        have hwxq : (wr.drewN nq).cell? ⟨gx, ox + i, none⟩ = some (.string ⟨x.toArray⟩) := hwx
        have hzxq : gx < (wr.drewN nq).heap.size := hzx
        have HOq : Hid ((wr.drewN nq).ownsRow w.heap.size 9 1 u5 D.length (D.map encStr) ∧ Below w.heap.size w (wr.drewN nq)) := ⟨HO.out.1, ⟨HO.out.2.os, HO.out.2.tape, HO.out.2.output, HO.out.2.size, HO.out.2.block⟩⟩
        generalize wr.drewN nq = wq at hwxq hzxq HOq ⊢
        clear hwx hzx HO nq
        have hwx := hwxq
        have hzx := hzxq
        have HO := HOq
        clear hwxq hzxq HOq
        go_wp2_with (at_builtin; refine wpList_append_lies _ rfl _ _ 26 rfl w.heap.size 9 i0 (.string ⟨#[]⟩) 1 16 Tryz.underlying26 HI0.out.1 HI0.out.2.1 HI0.out.2.2.1 HI0.out.2.2.2 rfl (by decide) _ _ _ rfl (HO.out.1.alloc _) ⟨wq.heap.size, 0, none⟩ 1 1 [.string ⟨x.toArray⟩] rfl rfl (cell_one9 _ _ _) (by simp [Value.oneCell']) (by decide) (by unfold maxLen; omega) (by omega) (by show _ ≤ (Array.push _ _).size; rw [Array.size_push]; have := HO.out.2.size; omega) _ rfl ?_; intro o8 c8 w8 hown8 hgrow8 hat8 hlt8; have H8 : Hid ((wq.alloc (.cells #[.string ⟨x.toArray⟩] 9)).grownBy w8 u5.ownBlock ∧ w8.ownsRow w.heap.size 9 1 (.slice (some ⟨o8, 0, none⟩) (D.length + 1) c8) (D.length + 1) (D.map encStr ++ [.string ⟨x.toArray⟩])) := ⟨hgrow8, hown8⟩; clear hown8 hgrow8 hat8 hlt8)
        have HF : Hid (w8.ownsRow w.heap.size 9 1 (.slice (some ⟨o8, 0, none⟩) (D.length + 1) c8) (D ++ [x]).length ((D ++ [x]).map encStr) ∧ Below w.heap.size w w8) := by
          obtain ⟨g8, o8'⟩ := H8.out
          have b3 := HO.out.2.trans ((below1 wq (.cells #[.string ⟨x.toArray⟩] 9)).mono HO.out.2.size)
          refine ⟨?_, b3.grown g8 b3.size (fun j hj => ?_)⟩
          · rw [List.length_append, List.map_append]; exact o8'
          · rcases HO.out.1.2 with ⟨e, -⟩ | ⟨g, cap, cur, e, hb, -⟩
            · rw [e] at hj; cases hj
            · rw [e] at hj; cases hj; exact hb
        go_roundg ((na - (i + 1)) + (nb - k))
        case measure => omega
        case rel => exact ⟨D ++ [x], i + 1, k, by go_num, by go_num, by omega, by omega, by omega, (by obtain ⟨p, e⟩ := HPx.out; have := HM.out.a p (.inl (by have := HN.out.2; omega)) (by have := HN.out.2; omega); rw [e] at this; exact this), HF⟩
    · have hiz : ¬ (i : Int) < (na : Int) := by omega
      by_cases hkn : k < nb
      · have hkz : (k : Int) < (nb : Int) := by omega
        obtain ⟨y, hyp, hye, gy, oy, rfl, hgy, hcy⟩ : ∃ (y : List UInt8) (hp : k < B.length), B[k] = y ∧ ∃ g off, ob = some ⟨g, off, none⟩ ∧ g < w.heap.size ∧ w.cell? ⟨g, off + k, none⟩ = some (.string ⟨y.toArray⟩) := by
          have hp : k < B.length := by rw [HN.out.2]; assumption
          rcases HB.out with h | ⟨g, off, e, hg, h⟩
          · rw [h] at hp; cases hp
          · exact ⟨B[k], hp, rfl, g, off, e, hg, h k hp⟩
        have hwy : wr.cell? ⟨gy, oy + k, none⟩ = some (.string ⟨y.toArray⟩) := (HO.out.2.cell (p := ⟨gy, oy + k, none⟩) hgy).trans hcy
        have hzy : gy < wr.heap.size := Nat.lt_of_lt_of_le hgy HO.out.2.size
        have HPy : Hid (∃ hp : k < B.length, B[k] = y) := ⟨hyp, hye⟩
        clear hgy hcy hyp hye
        have hkd : decide ((k : Int) = (nb : Int)) = false := decide_eq_false (by omega)
        have hkd2 : ((k : Int) == (nb : Int)) = false := beq_eq_false_iff_ne.2 (by omega)
        have hkd3 : decide (k = nb) = false := decide_eq_false (by omega)
        have hid : decide ((i : Int) = (na : Int)) = true := decide_eq_true (by omega)
        have hid2 : ((i : Int) == (na : Int)) = true := beq_iff_eq.2 (by omega)
        have hid3 : decide (i = na) = true := decide_eq_true (by omega)
        have hil : decide ((i : Int) < (na : Int)) = false := decide_eq_false (by omega)
        have hil2 : decide (i < na) = false := decide_eq_false (by omega)
        go_wp2
        go_big_quiet (fail)
        have hwyq : (wr.drewN nq).cell? ⟨gy, oy + k, none⟩ = some (.string ⟨y.toArray⟩) := hwy
        have hzyq : gy < (wr.drewN nq).heap.size := hzy
        have HOq : Hid ((wr.drewN nq).ownsRow w.heap.size 9 1 u5 D.length (D.map encStr) ∧ Below w.heap.size w (wr.drewN nq)) := ⟨HO.out.1, ⟨HO.out.2.os, HO.out.2.tape, HO.out.2.output, HO.out.2.size, HO.out.2.block⟩⟩
        generalize wr.drewN nq = wq at hwyq hzyq HOq ⊢
        clear hwy hzy HO nq
        have hwy := hwyq
        have hzy := hzyq
        have HO := HOq
        clear hwyq hzyq HOq
        go_wp2
        go_big_quiet (fail)
        have hwyq : (wq.drewN nq).cell? ⟨gy, oy + k, none⟩ = some (.string ⟨y.toArray⟩) := hwy
        have hzyq : gy < (wq.drewN nq).heap.size := hzy
        have HOq : Hid ((wq.drewN nq).ownsRow w.heap.size 9 1 u5 D.length (D.map encStr) ∧ Below w.heap.size w (wq.drewN nq)) := ⟨HO.out.1, ⟨HO.out.2.os, HO.out.2.tape, HO.out.2.output, HO.out.2.size, HO.out.2.block⟩⟩
        generalize wq.drewN nq = wz at hwyq hzyq HOq ⊢
        clear hwy hzy HO nq
        have hwy := hwyq
        have hzy := hzyq
        have HO := HOq
        clear hwyq hzyq HOq
        go_wp2_with (at_builtin; refine wpList_append_lies _ rfl _ _ 26 rfl w.heap.size 9 i0 (.string ⟨#[]⟩) 1 16 Tryz.underlying26 HI0.out.1 HI0.out.2.1 HI0.out.2.2.1 HI0.out.2.2.2 rfl (by decide) _ _ _ rfl (HO.out.1.alloc _) ⟨wz.heap.size, 0, none⟩ 1 1 [.string ⟨y.toArray⟩] rfl rfl (cell_one9 _ _ _) (by simp [Value.oneCell']) (by decide) (by unfold maxLen; omega) (by omega) (by show _ ≤ (Array.push _ _).size; rw [Array.size_push]; have := HO.out.2.size; omega) _ rfl ?_; intro o8 c8 w8 hown8 hgrow8 hat8 hlt8; have H8 : Hid ((wz.alloc (.cells #[.string ⟨y.toArray⟩] 9)).grownBy w8 u5.ownBlock ∧ w8.ownsRow w.heap.size 9 1 (.slice (some ⟨o8, 0, none⟩) (D.length + 1) c8) (D.length + 1) (D.map encStr ++ [.string ⟨y.toArray⟩])) := ⟨hgrow8, hown8⟩; clear hown8 hgrow8 hat8 hlt8)
        have HF : Hid (w8.ownsRow w.heap.size 9 1 (.slice (some ⟨o8, 0, none⟩) (D.length + 1) c8) (D ++ [y]).length ((D ++ [y]).map encStr) ∧ Below w.heap.size w w8) := by
          obtain ⟨g8, o8'⟩ := H8.out
          have b3 := HO.out.2.trans ((below1 wz (.cells #[.string ⟨y.toArray⟩] 9)).mono HO.out.2.size)
          refine ⟨?_, b3.grown g8 b3.size (fun j hj => ?_)⟩
          · rw [List.length_append, List.map_append]; exact o8'
          · rcases HO.out.1.2 with ⟨e, -⟩ | ⟨g, cap, cur, e, hb, -⟩
            · rw [e] at hj; cases hj
            · rw [e] at hj; cases hj; exact hb
        go_roundg ((na - i) + (nb - (k + 1)))
        case measure => omega
        case rel => exact ⟨D ++ [y], i, k + 1, by go_num, by go_num, by omega, by omega, by omega, (by obtain ⟨p2, e2⟩ := HPy.out; have := HM.out.b p2 (.inl (by have := HN.out.1; omega)); rw [e2] at this; exact this), HF⟩
      · have hkz : ¬ (k : Int) < (nb : Int) := by omega
        have HE : Hid (MgP A B w (.returned u5) wr) := by
          have h1 := HM.out
          unfold MgI at h1
          rw [List.drop_eq_nil_of_le (by have := HN.out.1; omega), List.drop_eq_nil_of_le (by have := HN.out.2; omega), mergeM_nil, List.append_nil] at h1
          exact ⟨u5, rfl, by rw [← h1]; exact HO.out.1, HO.out.2⟩
        go_wp2
        go_ret
        exact HE.out
end Go.Proofs.YtegdloenakachaaGreatDoor

namespace Go.Proofs.YtegdloenakachaaGreatDoor
open Go.RowKit Go.Shelf Go.Maps Go.Sort
set_option linter.unusedVariables false
set_option maxRecDepth 100000 in
set_option maxHeartbeats 2000000 in
theorem sameV_c (l : List (List UInt8)) (hl : l.length ≤ 2000000) (v1 v2 : Value) (w : World) (h1 : TxV w v1 l) (h2 : TxV w v2 l) : Calls Tryz.prog 27 #[v1, v2] w fun e w' => e = .returned (.bool true) ∧ Below w.heap.size w w' := by
  have H1 : Hid (TxV w v1 l) := h1
  have H2 : Hid (TxV w v2 l) := h2
  obtain ⟨o1, c1, rfl, h1⟩ := h1
  obtain ⟨o2, c2, rfl, h2⟩ := h2
  obtain ⟨n, hn⟩ : ∃ n, l.length = n := ⟨_, rfl⟩
  have HN : Hid (l.length = n) := hn
  rw [hn]
  have hli : (n : Int) ≤ 2000000 := by rw [← hn]; omega
  clear hl hn h1 h2
  go_enter Tryz.func27, Tryz.ntmps27
  go_wp2
  go_loopw [5] (fun i wr => ∃ k : Nat, k ≤ n ∧ i = .int .i64 k ∧ Hid (Below w.heap.size w wr)) (fun i _ => n - (intOf i).toNat)
  case atStart => exact ⟨0, Nat.zero_le _, rfl, Below.refl _ _⟩
  case round =>
    obtain ⟨k, hk, rfl, hB⟩ := hrel
    by_cases hkn : k < n
    · have hkl : k < l.length := by rw [HN.out]; exact hkn
      obtain ⟨g1, f1, rfl, l1, t1⟩ : ∃ g f, o1 = some ⟨g, f, none⟩ ∧ g < wr.heap.size ∧ wr.cell? ⟨g, f + k, none⟩ = some (encStr l[k]) := by
        obtain ⟨o, c, e, h⟩ := H1.out.below hB.out
        cases e
        rcases h with h | ⟨g, f, e2, hg, h⟩
        · rw [h] at hkl; cases hkl
        · exact ⟨g, f, e2, hg, h k hkl⟩
      obtain ⟨g2, f2, rfl, l2, t2⟩ : ∃ g f, o2 = some ⟨g, f, none⟩ ∧ g < wr.heap.size ∧ wr.cell? ⟨g, f + k, none⟩ = some (encStr l[k]) := by
        obtain ⟨o, c, e, h⟩ := H2.out.below hB.out
        cases e
        rcases h with h | ⟨g, f, e2, hg, h⟩
        · rw [h] at hkl; cases hkl
        · exact ⟨g, f, e2, hg, h k hkl⟩
      unfold encStr at t1 t2
      generalize (⟨l[k].toArray⟩ : ByteArray) = x at t1 t2
      clear hk hkl
      go_wp2
      go_big_quiet (fail)
      go_wp2
      go_roundw
      case rel => exact ⟨k + 1, hkn, by go_num, ⟨hB.out.os, hB.out.tape, hB.out.output, hB.out.size, hB.out.block⟩⟩
      case measure => simp [intOf]; omega
    · go_wp2
      go_ret
      exact ⟨rfl, hB.out⟩
end Go.Proofs.YtegdloenakachaaGreatDoor

namespace Go.Proofs.YtegdloenakachaaGreatDoor
open Go.RowKit Go.Shelf Go.Maps Go.Sort
set_option linter.unusedVariables false
theorem allOwn_sz : ∀ (d : Nat) (t : Tr d), WfT d t → ∀ x ∈ allN ownN d t, x.length ≤ LB
  | 0, t, _, _, _ => nomatch t
  | d + 1, t, h, x, hx => by
    obtain ⟨-, h1, -, ⟨-, h3⟩, ⟨-, h4⟩, ⟨-, h5⟩, ⟨-, h6⟩⟩ := h
    have sz : ∀ y : ByteArray, y.size ≤ LB → y.data.toList.length ≤ LB := fun y hy => by rw [Array.length_toList]; exact hy
    have e : allN ownN (d + 1) t = ownN d t ++ ((TrN.binds t).flatMap (fun b => allN ownN d b.2) ++ ((TrN.args t).flatMap (fun e => allN ownN d e) ++ (TrN.alts t).flatMap (fun a => allN ownN d a.2))) := rfl
    rw [e] at hx
    rcases List.mem_append.1 hx with hx | hx
    · unfold ownN at hx
      rcases List.mem_append.1 hx with hx | hx
      · split at hx
        · rw [List.mem_singleton.1 hx]; exact sz _ h1
        · cases hx
      · rcases List.mem_append.1 hx with hx | hx
        · unfold dl at hx
          obtain ⟨y, hy, rfl⟩ := List.mem_map.1 hx
          exact sz _ (h3 y hy)
        · rcases List.mem_append.1 hx with hx | hx
          · unfold dl at hx
            obtain ⟨y, hy, rfl⟩ := List.mem_map.1 hx
            obtain ⟨b, hb, rfl⟩ := List.mem_map.1 hy
            exact sz _ (h4 b hb).1
          · obtain ⟨a, ha, hx⟩ := List.mem_flatMap.1 hx
            unfold dl at hx
            obtain ⟨y, hy, rfl⟩ := List.mem_map.1 hx
            exact sz _ ((h6 a ha).2.2.2.1.2 y hy)
    · rcases List.mem_append.1 hx with hx | hx
      · obtain ⟨b, hb, hx⟩ := List.mem_flatMap.1 hx
        exact allOwn_sz d _ (h4 b hb).2 x hx
      · rcases List.mem_append.1 hx with hx | hx
        · obtain ⟨b, hb, hx⟩ := List.mem_flatMap.1 hx
          exact allOwn_sz d _ (h5 b hb) x hx
        · obtain ⟨b, hb, hx⟩ := List.mem_flatMap.1 hx
          exact allOwn_sz d _ (h6 b hb).2.2.2.2 x hx
theorem VarsAt.ofTx {W : World} {v : Value} {l : List (List UInt8)} (h : TxV W v l) (hn : l = [] → v = .slice none 0 0 ∨ ∃ g c, v = .slice (some ⟨g, 0, none⟩) 0 c) : VarsAt W v (l.map (fun x => ⟨x.toArray⟩)) := by
  obtain ⟨o, c, rfl, h⟩ := h
  rcases h with rfl | ⟨g, off, rfl, -, h⟩
  · rcases hn rfl with e | ⟨g, c', e⟩
    · cases e
      exact ⟨none, 0, rfl, .inl ⟨rfl, rfl, rfl⟩⟩
    · cases e
      exact ⟨_, _, rfl, .inr ⟨g, 0, rfl, fun k hk => by cases hk⟩⟩
  · refine ⟨_, _, by rw [List.length_map], .inr ⟨g, off, rfl, fun k hk => ?_⟩⟩
    rw [List.length_map] at hk
    rw [h k hk, List.getElem_map]
theorem VarsAt.ofRow {W : World} {B : Nat} {v : Value} {l : List (List UInt8)} (h : W.ownsRow B 9 1 v l.length (l.map encStr)) : VarsAt W v (l.map (fun x => ⟨x.toArray⟩)) := by
  refine VarsAt.ofTx (TxV.ofRow h) (fun e => ?_)
  subst e
  rcases h.2 with ⟨rfl, -⟩ | ⟨g, cap, cur, rfl, -⟩
  · exact .inl rfl
  · exact .inr ⟨_, _, rfl⟩
/-- The free names, rising. -/
def fsL (d : Nat) (t : Tr d) : List (List UInt8) := (frL d t).mergeSort leB
theorem fsL_len (d : Nat) (t : Tr d) : (fsL d t).length = (frL d t).length := List.length_mergeSort _
theorem fsL_mem {d : Nat} {t : Tr d} {x : List UInt8} : x ∈ fsL d t ↔ freeM d t [] x = true := by
  rw [fsL, (List.mergeSort_perm _ leB).mem_iff, frL_ok, decide_eq_true_iff]
def FrP (l : List (List UInt8)) (w : World) (r : Ending) (w' : World) : Prop := ∃ v, r = .returned v ∧ w'.ownsRow w.heap.size 9 1 v l.length (l.map encStr) ∧ Below w.heap.size w w'
theorem freeS_c (d : Nat) (a : Tr (d + 1)) (va : Value) (w : World) (ha : ExVal w w.heap.size d a va) (hw : WfT (d + 1) a) (hc : cntM (d + 1) a ≤ 1000) (hd : d + 1 ≤ 4096) : Calls Tryz.prog 14 #[va] w fun r w' => FrP (fsL (d + 1) a) w r w' := by
  have h1 := cost_le_cnt (d + 1) a
  have h2 := frL_len (d + 1) a
  refine (Free_c d a va (frL (d + 1) a) (frL_nodup _ _) (by omega) (fun x => frL_ok _ _ x) w.heap.size w ha (Nat.le_refl _) (nm_of _ _ hw) (by omega) (by omega) hd).mono ?_
  rintro r w' ⟨v, rfl, h3, h4⟩
  exact ⟨v, rfl, by rw [fsL_len]; exact h3, h4⟩
end Go.Proofs.YtegdloenakachaaGreatDoor
