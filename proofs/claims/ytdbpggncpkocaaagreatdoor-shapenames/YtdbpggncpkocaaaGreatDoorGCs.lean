/-
  The constructors of a program that may be: the mathematics.
  Package shape: Cons, by a contract.
-/
import Derived.Test.YtdbpggncpkocaaaGreatDoorGWd
import Derived.Deep.RegionHeld3
namespace Go.Proofs.YtdbpggncpkocaaaGreatDoor
open Go.RowKit Go.Shelf Go.Maps
set_option linter.unusedVariables false

theorem ahead_all (c : Int → Bool) : ∀ ks : List Int, ks.drop (aheadN c ks) = [] → ∀ k ∈ ks, c k = true
  | [], _, k, hk => by cases hk
  | x :: ks, h, k, hk => by
    unfold aheadN at h
    by_cases hx : c x = true
    · rw [if_pos hx] at h
      rw [List.mem_cons] at hk
      rcases hk with rfl | hk
      · exact hx
      · exact ahead_all c ks (by simpa using h) k hk
    · rw [if_neg hx] at h
      simp at h
theorem kd_three {d : Nd} (h : d.kind = 2) (ho : ownM d = true) : ∀ c ∈ d.kids, c.kind = 3 := by
  have hk : kp 2 = some [someP (onlyB 3)] := rfl
  unfold ownM at ho
  rw [h, hk] at ho
  simp only [Bool.and_eq_true] at ho
  have hf := ho.2
  simp only [fitsB] at hf
  by_cases h1 : someP (onlyB 3) (kinds d.kids) < 0
  · rw [if_pos h1] at hf; cases hf
  · rw [if_neg h1] at hf
    unfold someP betweenP at h1 hf
    by_cases h2 : (aheadN (onlyB 3) (kinds d.kids) : Int) < 1 ∨ (9223372036854775807 : Int) < (aheadN (onlyB 3) (kinds d.kids) : Int)
    · rw [if_pos h2] at h1; omega
    · rw [if_neg h2] at hf
      have hd : (kinds d.kids).drop (aheadN (onlyB 3) (kinds d.kids)) = [] := by simpa using hf
      intro c hc
      have := ahead_all (onlyB 3) (kinds d.kids) hd c.kind (List.mem_map.2 ⟨c, hc, rfl⟩)
      simpa [onlyB] using this
theorem lk_len {x : List UInt8} (h : (lkM (bs x) == 2) = true) : x.length ≤ 9223372036854775807 := by
  unfold lkM at h
  by_cases h1 : (chk (bs x)).1 = 0
  · unfold chk at h1
    by_cases h2 : (bs x).size > 65536
    · simp [h2] at h1
    · have : (bs x).size = x.length := by rw [Lib.size_eq]; rfl
      omega
  · rw [if_neg h1] at h
    cases h
theorem kid_own {c : Nd} (h : c.kind = 3) (ho : ownM c = true) : c.name ≠ [58] ∧ 0 ≤ c.num ∧ c.num ≤ 32 ∧ c.name.length ≤ 9223372036854775807 := by
  have hk : kp 3 = some [] := rfl
  unfold ownM at ho
  rw [h, hk] at ho
  simp only [Bool.and_eq_true] at ho
  have hn := ho.1.1
  have hm := ho.1.2
  have e1 : nameM 3 (bs c.name) c.kids.length = (lkM (bs c.name) == 2) := rfl
  have e2 : numM 3 c.num = decide (0 ≤ c.num ∧ c.num ≤ 32) := rfl
  rw [e1] at hn
  rw [e2] at hm
  refine ⟨fun e => ?_, (of_decide_eq_true hm).1, (of_decide_eq_true hm).2, lk_len hn⟩
  rw [e] at hn
  have : (lkM (bs [58]) == 2) = false := by decide
  rw [this] at hn
  cases hn
/-- A declaration's constructors are as they may be. -/
def KidOK (d : Nd) : Prop := ∀ c ∈ d.kids, c.name ≠ [58] ∧ 0 ≤ c.num ∧ c.num ≤ 32 ∧ c.name.length ≤ 9223372036854775807
theorem kids_ok {n : Nd} (h : mbM 256 n = true) : ∀ d ∈ n.kids, d.kind = 2 → KidOK d := by
  intro d hd hk c hc
  have e : mbM 256 n = (ownM n && n.kids.all (mbM 255)) := rfl
  rw [e, Bool.and_eq_true, List.all_eq_true] at h
  have h1 := h.2 d hd
  have e1 : mbM 255 d = (ownM d && d.kids.all (mbM 254)) := rfl
  rw [e1, Bool.and_eq_true, List.all_eq_true] at h1
  have h2 := h1.2 c hc
  have e2 : mbM 254 c = (ownM c && c.kids.all (mbM 253)) := rfl
  rw [e2, Bool.and_eq_true] at h2
  exact kid_own (kd_three hk h1.1 c hc) h2.1
abbrev nmC (c : CT) : List UInt8 := c.1.data.toList
abbrev tyC (c : CT) : List UInt8 := c.2.2.1.data.toList
/-- What is so of the constructors as they are gathered. -/
structure Gth (T N : List (List UInt8)) (l : List CT) : Prop where
  nd : (l.map nmC).Nodup
  nn : ∀ c ∈ l, nmC c ∈ N
  tt : ∀ c ∈ l, tyC c ∈ T
  ar : ∀ c ∈ l, nmC c ≠ [58] ∧ 0 ≤ c.2.1 ∧ c.2.1 ≤ 32 ∧ (nmC c).length ≤ 9223372036854775807
  tg : ∀ c ∈ l, 0 ≤ c.2.2.2 ∧ ∀ j, 0 ≤ j → j ≤ c.2.2.2 → ∃ c' ∈ l, tyC c' = tyC c ∧ c'.2.2.2 = j
  un : ∀ c ∈ l, ∀ c' ∈ l, tyC c = tyC c' → c.2.2.2 = c'.2.2.2 → c = c'
  tb : ∀ c ∈ l, c.2.2.2 ≤ 2000000
theorem con_gth (ty : ByteArray) (T : List (List UInt8)) (hT : ty.data.toList ∈ T) : ∀ (cs : List Nd) (k : Nat) (N : List (List UInt8)) (l : List CT) (N' : List (List UInt8)) (l' : List CT), k + cs.length ≤ 2000000 → (∀ c ∈ cs, c.name ≠ [58] ∧ 0 ≤ c.num ∧ c.num ≤ 32 ∧ c.name.length ≤ 9223372036854775807) → Gth T N l → (∀ c ∈ l, tyC c = ty.data.toList → c.2.2.2 < (k : Int)) → (∀ j : Int, 0 ≤ j → j < (k : Int) → ∃ c ∈ l, tyC c = ty.data.toList ∧ c.2.2.2 = j) → conM ty cs k N l = .ok (N', l') → Gth T N' l' ∧ ∀ c ∈ l, c ∈ l'
  | [], k, N, l, N', l', _, _, hG, _, _, h => by
    simp only [conM, Except.ok.injEq, Prod.mk.injEq] at h
    obtain ⟨rfl, rfl⟩ := h
    exact ⟨hG, fun c hc => hc⟩
  | c :: cs, k, N, l, N', l', hM, hc, hG, h1, h2, h => by
    simp only [List.length_cons] at hM
    by_cases hin : c.name ∈ N
    · rw [conM, if_pos hin] at h; cases h
    · rw [conM, if_neg hin] at h
      have hc0 := hc c List.mem_cons_self
      have hnew : nmC (bs c.name, c.num, ty, (k : Int)) = c.name := rfl
      have hty : tyC (bs c.name, c.num, ty, (k : Int)) = ty.data.toList := rfl
      have hG2 : Gth T (c.name :: N) (l ++ [(bs c.name, c.num, ty, (k : Int))]) := by
        refine ⟨?_, ?_, ?_, ?_, ?_, ?_, ?_⟩
        · rw [List.map_append, List.nodup_append]
          refine ⟨hG.nd, by simp, fun x hx y hy e => ?_⟩
          simp only [List.map_cons, List.map_nil, List.mem_singleton] at hy
          rw [hnew] at hy
          obtain ⟨c', hc', rfl⟩ := List.mem_map.1 hx
          have := hG.nn c' hc'
          rw [e, hy] at this
          exact hin this
        · intro x hx
          rw [List.mem_append, List.mem_singleton] at hx
          rcases hx with hx | rfl
          · exact List.mem_cons_of_mem _ (hG.nn x hx)
          · exact List.mem_cons_self
        · intro x hx
          rw [List.mem_append, List.mem_singleton] at hx
          rcases hx with hx | rfl
          · exact hG.tt x hx
          · exact hT
        · intro x hx
          rw [List.mem_append, List.mem_singleton] at hx
          rcases hx with hx | rfl
          · exact hG.ar x hx
          · exact hc0
        · intro x hx
          rw [List.mem_append, List.mem_singleton] at hx
          rcases hx with hx | rfl
          · refine ⟨(hG.tg x hx).1, fun j hj hj2 => ?_⟩
            obtain ⟨c', hc', e1, e2⟩ := (hG.tg x hx).2 j hj hj2
            exact ⟨c', List.mem_append_left _ hc', e1, e2⟩
          · refine ⟨Int.natCast_nonneg k, fun j hj hj2 => ?_⟩
            by_cases hjk : j = (k : Int)
            · exact ⟨_, List.mem_append_right _ (List.mem_singleton.2 rfl), rfl, hjk.symm⟩
            · obtain ⟨c', hc', e1, e2⟩ := h2 j hj (by have : j ≤ (k : Int) := hj2; omega)
              exact ⟨c', List.mem_append_left _ hc', e1, e2⟩
        · intro x hx y hy e1 e2
          rw [List.mem_append, List.mem_singleton] at hx hy
          rcases hx with hx | rfl <;> rcases hy with hy | rfl
          · exact hG.un x hx y hy e1 e2
          · exfalso
            have := h1 x hx (e1.trans hty)
            have e3 : x.2.2.2 = (k : Int) := e2
            omega
          · exfalso
            have := h1 y hy (e1.symm.trans hty)
            have e3 : (k : Int) = y.2.2.2 := e2
            omega
          · rfl
        · intro x hx
          rw [List.mem_append, List.mem_singleton] at hx
          rcases hx with hx | rfl
          · exact hG.tb x hx
          · show (k : Int) ≤ 2000000
            omega
      have := con_gth ty T hT cs (k + 1) (c.name :: N) _ N' l' (by omega) (fun x hx => hc x (List.mem_cons_of_mem _ hx)) hG2 ?_ ?_ h
      · exact ⟨this.1, fun x hx => this.2 x (List.mem_append_left _ hx)⟩
      · intro x hx ex
        rw [List.mem_append, List.mem_singleton] at hx
        rcases hx with hx | rfl
        · have := h1 x hx ex
          omega
        · show (k : Int) < ((k + 1 : Nat) : Int)
          omega
      · intro j hj hj2
        by_cases hjk : j = (k : Int)
        · exact ⟨_, List.mem_append_right _ (List.mem_singleton.2 rfl), rfl, hjk.symm⟩
        · obtain ⟨c', hc', e1, e2⟩ := h2 j hj (by omega)
          exact ⟨c', List.mem_append_left _ hc', e1, e2⟩
theorem dec_gth : ∀ (ds : List Nd) (T N : List (List UInt8)) (l l' : List CT), (∀ d ∈ ds, d.kids.length ≤ 2000000 ∧ (d.kind = 2 → KidOK d)) → Gth T N l → decM ds T N l = .ok l' → (∃ T' N', Gth T' N' l') ∧ ∀ c ∈ l, c ∈ l'
  | [], T, N, l, l', _, hG, h => by
    simp only [decM, Except.ok.injEq] at h
    subst h
    exact ⟨⟨T, N, hG⟩, fun c hc => hc⟩
  | d :: ds, T, N, l, l', hd, hG, h => by
    by_cases hk : d.kind = 2
    · by_cases hin : d.name ∈ T
      · rw [decM_two _ _ _ _ _ hk hin] at h; cases h
      · cases hcm : conM (bs d.name) d.kids 0 N l with
        | error p => rw [decM_err _ _ _ _ _ _ hk hin hcm] at h; cases h
        | ok q =>
          obtain ⟨N2, l2⟩ := q
          rw [decM_ok _ _ _ _ _ _ _ hk hin hcm] at h
          have hG0 : Gth (d.name :: T) N l := ⟨hG.nd, hG.nn, fun c hc => List.mem_cons_of_mem _ (hG.tt c hc), hG.ar, hG.tg, hG.un, hG.tb⟩
          have h1 := con_gth (bs d.name) (d.name :: T) List.mem_cons_self d.kids 0 N l N2 l2 (by have := (hd d List.mem_cons_self).1; omega) ((hd d List.mem_cons_self).2 hk) hG0 (fun c hc e => absurd (e ▸ hG.tt c hc : (bs d.name).data.toList ∈ T) hin) (fun j hj hj2 => by omega) hcm
          have h2 := dec_gth ds (d.name :: T) N2 l2 l' (fun x hx => hd x (List.mem_cons_of_mem _ hx)) h1.1 h
          exact ⟨h2.1, fun c hc => h2.2 c (h1.2 c hc)⟩
    · rw [decM_skip _ _ _ _ _ hk] at h
      exact dec_gth ds T N l l' (fun x hx => hd x (List.mem_cons_of_mem _ hx)) hG h
theorem bi_tg : ∀ c ∈ biL, 0 ≤ c.2.2.2 ∧ (c.2.2.2 = 0 ∨ c.2.2.2 = 1) ∧ (∃ c' ∈ biL, tyC c' = tyC c ∧ c'.2.2.2 = 0) := by decide
theorem bi_gth : Gth (tyL biL) (nmL biL) biL := by
  refine ⟨by decide, by decide, by decide, by decide, ?_, by decide, by decide⟩
  intro c hc
  obtain ⟨h0, h1, h2⟩ := bi_tg c hc
  refine ⟨h0, fun j hj hj2 => ?_⟩
  by_cases e : j = 0
  · rw [e]; exact h2
  · exact ⟨c, hc, rfl, by omega⟩
theorem Gth.perm {T N T' N' : List (List UInt8)} {l l' : List CT} (h : Gth T N l) (hp : l'.Perm l) (hT : ∀ x ∈ T, x ∈ T') (hN : ∀ x ∈ N, x ∈ N') : Gth T' N' l' :=
  ⟨(hp.map nmC).nodup_iff.2 h.nd, fun c hc => hN _ (h.nn c (hp.mem_iff.1 hc)), fun c hc => hT _ (h.tt c (hp.mem_iff.1 hc)), fun c hc => h.ar c (hp.mem_iff.1 hc), fun c hc => ⟨(h.tg c (hp.mem_iff.1 hc)).1, fun j h1 h2 => by
    obtain ⟨c', h3, h4⟩ := (h.tg c (hp.mem_iff.1 hc)).2 j h1 h2
    exact ⟨c', hp.mem_iff.2 h3, h4⟩⟩, fun c hc c' hc' => h.un c (hp.mem_iff.1 hc) c' (hp.mem_iff.1 hc'), fun c hc => h.tb c (hp.mem_iff.1 hc)⟩
theorem mem_tyL {l : List CT} {c : CT} (h : c ∈ l) : tyC c ∈ tyL l := by unfold tyL; rw [List.mem_reverse]; exact List.mem_map.2 ⟨c, h, rfl⟩
theorem mem_nmL {l : List CT} {c : CT} (h : c ∈ l) : nmC c ∈ nmL l := by unfold nmL; rw [List.mem_reverse]; exact List.mem_map.2 ⟨c, h, rfl⟩
theorem totK_ge : ∀ (l : List Nd) (d : Nd), d ∈ l → d.kids.length ≤ totK l
  | x :: l, d, h => by
    rw [List.mem_cons] at h
    simp only [totK]
    rcases h with rfl | h
    · omega
    · have := totK_ge l d h; omega
/-- What is so of all constructors of a program that may be. -/
theorem wd_gth {n : Nd} {l l2 : List CT} (hk : totK n.kids ≤ 1048576) (hm : mbM 256 n = true) (hp : l.Perm biL) (h : wdM l n.kids = .ok l2) : (∃ T N, Gth T N l2) ∧ ∀ c ∈ biL, c ∈ l2 := by
  have hG : Gth (tyL l) (nmL l) l := by
    have := bi_gth.perm hp (T' := tyL biL) (N' := nmL biL) (fun _ h => h) (fun _ h => h)
    exact ⟨this.nd, fun c hc => mem_nmL hc, fun c hc => mem_tyL hc, this.ar, this.tg, this.un, this.tb⟩
  have := dec_gth n.kids _ _ l l2 (fun d hd => ⟨by have := totK_ge n.kids d hd; omega, kids_ok hm d hd⟩) hG h
  exact ⟨this.1, fun c hc => this.2 c (hp.mem_iff.2 hc)⟩
/-- Found by its name. -/
theorem find_own {T N : List (List UInt8)} {l : List CT} (h : Gth T N l) {c : CT} (hc : c ∈ l) : fstC l (askC c.1).data.toList = some c := by
  have hne : askC c.1 = c.1 := by
    unfold askC
    rw [if_neg]
    rw [ByteArray.toList_eq]
    exact (h.ar c hc).1
  rw [hne]
  have hnd := h.nd
  clear h hne
  induction l with
  | nil => cases hc
  | cons x l ih =>
    rw [List.map_cons, List.nodup_cons] at hnd
    rw [List.mem_cons] at hc
    unfold fstC at ih ⊢
    rcases hc with rfl | hc
    · exact List.find?_cons_of_pos (by simp)
    · have hx : ¬ (x.1.data.toList == c.1.data.toList) = true := by
        intro e
        have e2 : nmC x = nmC c := by simpa using e
        exact hnd.1 (e2 ▸ List.mem_map.2 ⟨c, hc, rfl⟩)
      rw [List.find?_cons, Bool.eq_false_iff.2 hx]
      exact ih hc hnd.2
/-- Neighbours among sorted constructors. -/
theorem srt_next {T N : List (List UInt8)} {l : List CT} (h : Gth T N l) (hs : Srt l) (i : Nat) (hi : i < l.length) (hi0 : 0 < i) (e : tyC l[i - 1] = tyC l[i]) : l[i].2.2.2 = l[i - 1].2.2.2 + 1 := by
  have hs' := List.pairwise_iff_getElem.1 hs
  have hlt : ∀ (a b : Nat) (ha : a < l.length) (hb : b < l.length), tyC l[a] = tyC l[b] → l[b].2.2.2 < l[a].2.2.2 → b < a := by
    intro a b ha hb e1 e2
    rcases Nat.lt_trichotomy a b with h1 | h1 | h1
    · have := hs' a b ha hb h1
      simp only [ltC, Bool.or_eq_false_iff, Bool.and_eq_false_iff, decide_eq_false_iff_not] at this
      rcases this.2 with h2 | h2
      · exact absurd e1.symm h2
      · omega
    · subst h1; omega
    · exact h1
  have hp : l[i - 1].2.2.2 ≤ l[i].2.2.2 := by
    rcases Int.lt_or_le l[i].2.2.2 l[i - 1].2.2.2 with h1 | h1
    · have := hlt (i - 1) i (by omega) hi e h1; omega
    · exact h1
  have hne : l[i - 1].2.2.2 ≠ l[i].2.2.2 := by
    intro e2
    have := h.un _ (List.getElem_mem (by omega)) _ (List.getElem_mem hi) e e2
    have hnd := List.pairwise_iff_getElem.1 h.nd (i - 1) i (by simp; omega) (by simpa using hi) (by omega)
    apply hnd
    rw [List.getElem_map, List.getElem_map, this]
  rcases Int.lt_or_le (l[i - 1].2.2.2 + 1) l[i].2.2.2 with h1 | h1
  · exfalso
    have h0 := (h.tg _ (List.getElem_mem (by omega : i - 1 < l.length))).1
    obtain ⟨c', hc', e1, e2⟩ := (h.tg _ (List.getElem_mem hi)).2 (l[i - 1].2.2.2 + 1) (by omega) (by omega)
    obtain ⟨j, hj, rfl⟩ := List.getElem_of_mem hc'
    have q1 := hlt i j hi hj e1.symm (by omega)
    have q2 := hlt j (i - 1) hj (by omega) (e1.trans e.symm) (by omega)
    omega
  · omega
theorem srt_first {T N : List (List UInt8)} {l : List CT} (h : Gth T N l) (hs : Srt l) (i : Nat) (hi : i < l.length) (hf : i = 0 ∨ tyC l[i - 1] ≠ tyC l[i]) : l[i].2.2.2 = 0 := by
  have hs' := List.pairwise_iff_getElem.1 hs
  have hle : ∀ (a b : Nat) (ha : a < l.length) (hb : b < l.length), a ≤ b → ¬ (tyC l[b] < tyC l[a]) := by
    intro a b ha hb hab
    rcases Nat.eq_or_lt_of_le hab with h1 | h1
    · subst h1; exact List.lt_irrefl _
    · have := hs' a b ha hb h1
      simp only [ltC, Bool.or_eq_false_iff, decide_eq_false_iff_not] at this
      exact this.1
  have h0 := (h.tg _ (List.getElem_mem hi)).1
  rcases Int.lt_or_le 0 l[i].2.2.2 with h1 | h1
  · exfalso
    obtain ⟨c', hc', e1, e2⟩ := (h.tg _ (List.getElem_mem hi)).2 0 (by omega) h0
    obtain ⟨j, hj, rfl⟩ := List.getElem_of_mem hc'
    have hji : j < i := by
      rcases Nat.lt_trichotomy i j with h3 | h3 | h3
      · have := hs' i j hi hj h3
        simp only [ltC, Bool.or_eq_false_iff, Bool.and_eq_false_iff, decide_eq_false_iff_not] at this
        rcases this.2 with h4 | h4
        · exact absurd e1 h4
        · omega
      · subst h3; omega
      · exact h3
    rcases hf with rfl | hf
    · omega
    · apply hf
      have q1 := hle j (i - 1) hj (by omega) (by omega)
      have q2 := hle (i - 1) i (by omega) hi (by omega)
      rw [e1] at q1
      exact List.le_antisymm (List.not_lt.1 q2) (List.not_lt.1 q1)
  · omega
theorem srt_types {l : List CT} (hs : Srt l) (i : Nat) (hi : i < l.length) (hi0 : 0 < i) : ¬ (tyC l[i] < tyC l[i - 1]) := by
  have := List.pairwise_iff_getElem.1 hs (i - 1) i (by omega) hi (by omega)
  simp only [ltC, Bool.or_eq_false_iff, decide_eq_false_iff_not] at this
  exact this.1
end Go.Proofs.YtdbpggncpkocaaaGreatDoor

namespace Go.Proofs.YtdbpggncpkocaaaGreatDoor
open Go.RowKit Go.Shelf Go.Maps
set_option linter.unusedVariables false

theorem sum_ge (f : Nd → Nat) (hf : ∀ x, 1 ≤ f x) : ∀ l : List Nd, l.length ≤ (l.map f).sum
  | [] => Nat.le_refl _
  | x :: l => by have := sum_ge f hf l; have := hf x; simp; omega
theorem cntT_pos (d : Nat) (n : Nd) : 1 ≤ cntT (d + 1) n := by unfold cntT; omega
theorem totK_le (d : Nat) : ∀ l : List Nd, totK l + l.length ≤ (l.map (cntT (d + 2))).sum
  | [] => Nat.le_refl _
  | x :: l => by
    have ih := totK_le d l
    have h := sum_ge (cntT (d + 1)) (cntT_pos d) x.kids
    simp only [totK, List.map_cons, List.sum_cons, List.length_cons]
    have e : cntT (d + 2) x = 1 + (x.kids.map (cntT (d + 1))).sum := rfl
    omega
theorem chk_small {n : Nd} (h : chkM n = 0) : totK n.kids + n.kids.length ≤ 1048576 ∧ mbM 256 n = true := by
  unfold chkM at h
  by_cases h1 : (hN 256 1048576 n).1 = true
  · rw [if_pos h1] at h
    by_cases h2 : mbM 256 n = true
    · have h3 := (hNall 256 1048576 n h1).2
      have h4 := totK_le 253 n.kids
      have e : cntT 256 n = 1 + (n.kids.map (cntT 255)).sum := rfl
      exact ⟨by rw [e] at h3; have h5 : totK n.kids + n.kids.length ≤ (n.kids.map (cntT 255)).sum := h4; omega, h2⟩
    · rw [if_neg h2] at h; cases h
  · rw [if_neg h1] at h; cases h
theorem bi_names : ∀ f ∈ biL, f.1.size ≤ 9223372036854775807 ∧ f.2.2.1.size ≤ 9223372036854775807 := by decide
/-- What Cons leaves. -/
def CsErr (n : Nd) (er p : Int) : Prop := (chkM n ≠ 0 ∧ er = chkM n ∧ p = 0) ∨ (chkM n = 0 ∧ n.kind ≠ 1 ∧ er = 2 ∧ p = 0) ∨ (chkM n = 0 ∧ n.kind = 1 ∧ er = 8 ∧ ∃ l, l.Perm biL ∧ wdM l n.kids = .error p)
def CsOk (n : Nd) (l' : List CT) : Prop := chkM n = 0 ∧ n.kind = 1 ∧ Srt l' ∧ ∃ l l2, l.Perm biL ∧ wdM l n.kids = .ok l2 ∧ l'.Perm l2
def CsPost (w : World) (n : Nd) (e : Ending) (W' : World) : Prop := Below w.heap.size w W' ∧ ((∃ er p, CsErr n er p ∧ e = .returned (.tuple #[.slice none 0 0, .agg #[.int .i64 er, .int .i64 p]])) ∨ ∃ v l', CsOk n l' ∧ e = .returned (.tuple #[v, .agg #[.int .i64 0, .int .i64 0]]) ∧ ConsRow W' w.heap.size v l')
/-- Builtin, its row told. -/
theorem builtin2_c (w : World) : Calls Tryz.prog 7 #[] w fun e w' => ∃ g cap l, e = .returned (.slice (some ⟨g, 0, none⟩) 8 cap) ∧ l.Perm biL ∧ Srt l ∧ ConsRow w' w.heap.size (.slice (some ⟨g, 0, none⟩) 8 cap) l ∧ Below w.heap.size w w' := by
  refine (builtin_c w).mono ?_
  rintro e w' ⟨v, rfl, l, hp, hs, hr, hb⟩
  have hl : l.length = 8 := hp.length_eq
  obtain ⟨g, cap, cur, rfl, _⟩ := hr.shape (fun e => by rw [e] at hl; cases hl)
  rw [hl] at hr ⊢
  exact ⟨g, cap, l, rfl, hp, hs, hr, hb⟩
/-- What withDeclared's answer is. -/
def WdR (w : World) (base g : Nat) (r : Except Int (List CT)) (v : Value) (er p : Int) (W' : World) : Prop := Oth w g W' ∧ Below base w W' ∧ ((er = 8 ∧ r = .error p) ∨ (er = 0 ∧ p = 0 ∧ ∃ l, r = .ok l ∧ ConsRow W' base v l ∧ ∀ r, v.ownBlock = some r → r = g ∨ w.heap.size ≤ r))
theorem withDeclared2_c (w : World) (base : Nat) (g0 cap0 : Nat) (l : List CT) (ds : List Nd) (o : Option Addr) (cap : Nat) (hr : ConsRow w base (.slice (some ⟨g0, 0, none⟩) 8 cap0) l) (hp : l.Perm biL) (hb : base ≤ w.heap.size) (hK : KIn w base o ds) (ht : totK ds + ds.length ≤ 1048576) :
    Calls Tryz.prog 32 #[.slice (some ⟨g0, 0, none⟩) 8 cap0, .slice o ds.length cap] w fun e W' => ∃ o2 n2 cap2 er p, e = .returned (.tuple #[.slice o2 n2 cap2, .agg #[.int .i64 er, .int .i64 p]]) ∧ WdR w base g0 (wdM l ds) (.slice o2 n2 cap2) er p W' := by
  have hl : l.length = 8 := hp.length_eq
  rw [← hl] at hr ⊢
  refine (withDeclared_c w base g0 cap0 l ds o cap hr (fun e => by rw [e] at hl; cases hl) hb hK (fun f hf => bi_names f (hp.mem_iff.1 hf)) (by omega) (by omega)).mono ?_
  intro e W' h
  unfold WdPost at h
  cases hw : wdM l ds with
  | error p =>
    rw [hw] at h
    obtain ⟨h0, rfl, h2⟩ := h
    exact ⟨none, 0, 0, 8, p, rfl, h0, h2, .inl ⟨rfl, rfl⟩⟩
  | ok l2 =>
    rw [hw] at h
    obtain ⟨h0, v, rfl, h2, h3, h4⟩ := h
    obtain ⟨o2, cap2, rfl⟩ := h2.form
    exact ⟨o2, _, cap2, 0, 0, rfl, h0, h3, .inr ⟨rfl, rfl, l2, rfl, h2, h4⟩⟩
/-- A later world in which all that Cons laid stays. -/
def CsB (w w1 X : World) : Prop := Below (w.heap.size + 2) w1 X ∧ w.heap.size + 2 ≤ X.heap.size
theorem CsB.alloc {w w1 X : World} (h : CsB w w1 X) (o : Obj) : CsB w w1 (X.alloc o) := ⟨h.1.alloc h.2 o, by have := h.2; simp; omega⟩
theorem set_size2 {X : World} {m B i : Nat} {v : Value} (h : m ≤ X.heap.size) : m ≤ (X.setCell ⟨B, i, none⟩ v).heap.size := by
  have e : (X.setCell ⟨B, i, none⟩ v).heap.size = X.heap.size := by rw [Sort.setCell_eq]; simp [Sort.mapBlock]
  omega
theorem CsB.set {w w1 X : World} (h : CsB w w1 X) {B : Nat} (hB : w.heap.size + 2 ≤ B) (i : Nat) (v : Value) : CsB w w1 (X.setCell ⟨B, i, none⟩ v) := ⟨h.1.setCell (p := ⟨B, i, none⟩) hB _, set_size2 h.2⟩
theorem CsB.drew {w w1 X : World} (h : CsB w w1 X) : CsB w w1 X.drew := ⟨h.1.drew, h.2⟩
theorem CsB.on {w w1 X Y : World} (h : CsB w w1 X) (hb : Below (w.heap.size + 2) X Y) : CsB w w1 Y := ⟨h.1.trans hb, Nat.le_trans h.2 hb.size⟩
theorem ConsRow.mono {W : World} {base base' : Nat} {v : Value} {l : List CT} (h : ConsRow W base v l) (hb : base' ≤ base) : ConsRow W base' v l := by
  rcases h with ⟨hl, h | ⟨g, cap, cur, h1, h2, h3⟩⟩
  · exact ⟨hl, .inl h⟩
  · exact ⟨hl, .inr ⟨g, cap, cur, h1, Nat.le_trans hb h2, h3⟩⟩
theorem CsB.below {w w1 X Y : World} (h : CsB w w1 X) (hb : Below X.heap.size X Y) : CsB w w1 Y := ⟨h.1.trans (hb.mono h.2), Nat.le_trans h.2 hb.size⟩
/-- How Cons stands behind withDeclared: the fault at B, the row. -/
def CsT (w w1 : World) (n : Nd) (l2 : List CT) (v : Value) (er p : Int) (B : Nat) (W : World) : Prop := Blk W B #[.int .i64 er, .int .i64 p] 31 ∧ CsB w w1 W ∧ w.heap.size + 2 ≤ B ∧ ((er = 8 ∧ wdM l2 n.kids = .error p) ∨ (er = 0 ∧ p = 0 ∧ ∃ l, wdM l2 n.kids = .ok l ∧ ConsRow W (w.heap.size + 2) v l))
theorem csT_alloc {w w1 w3 : World} {n : Nd} {l2 : List CT} {v : Value} {er p : Int} {g2 M : Nat} (hC : CsB w w1 w3) (h : (er = 8 ∧ wdM l2 n.kids = .error p) ∨ (er = 0 ∧ p = 0 ∧ ∃ l, wdM l2 n.kids = .ok l ∧ ConsRow w3 (w.heap.size + 2) v l ∧ ∀ r, v.ownBlock = some r → r = g2 ∨ M ≤ r)) : CsT w w1 n l2 v er p w3.heap.size (w3.alloc (.cells #[.int .i64 er, .int .i64 p] 31)) := by
  refine ⟨Blk.new w3 _ _, hC.alloc _, hC.2, ?_⟩
  rcases h with h | ⟨h1, h2, l, h3, h4, _⟩
  · exact .inl h
  · exact .inr ⟨h1, h2, l, h3, h4.below ((Below.refl _ _).alloc (Nat.le_refl _) _)⟩
theorem csT_set {w w1 w3 : World} {n : Nd} {l2 : List CT} {v : Value} {er p : Int} {g2 M B : Nat} (hC : CsB w w1 w3) (hB : Blk w3 B #[.int .i64 0, .int .i64 0] 31) (hb : w.heap.size + 2 ≤ B) (hg : B ≠ g2) (hM : B < M) (h : (er = 8 ∧ wdM l2 n.kids = .error p) ∨ (er = 0 ∧ p = 0 ∧ ∃ l, wdM l2 n.kids = .ok l ∧ ConsRow w3 (w.heap.size + 2) v l ∧ ∀ r, v.ownBlock = some r → r = g2 ∨ M ≤ r)) : CsT w w1 n l2 v er p B ((w3.setCell ⟨B, 0, none⟩ (.int .i64 er)).setCell ⟨B, 1, none⟩ (.int .i64 p)) := by
  refine ⟨?_, (hC.set hb _ _).set hb _ _, hb, ?_⟩
  · have h0 : Blk (w3.setCell ⟨B, 0, none⟩ (.int .i64 er)) B #[.int .i64 er, .int .i64 0] 31 := hB.set 0 _
    exact h0.set 1 _
  · rcases h with h | ⟨h1, h2, l, h3, h4, h5⟩
    · exact .inl h
    · refine .inr ⟨h1, h2, l, h3, h4.same (fun r hr => ?_)⟩
      have hne : r ≠ B := by have := h5 r hr; omega
      rw [heap_set_other _ _ _ _ _ hne, heap_set_other _ _ _ _ _ hne]
theorem conM_len (ty : ByteArray) : ∀ (cs : List Nd) (k : Nat) (N : List (List UInt8)) (l : List CT) (N' : List (List UInt8)) (l' : List CT), conM ty cs k N l = .ok (N', l') → l'.length = l.length + cs.length
  | [], k, N, l, N', l', h => by
    simp only [conM, Except.ok.injEq, Prod.mk.injEq] at h
    rw [h.2]; rfl
  | c :: cs, k, N, l, N', l', h => by
    by_cases hin : c.name ∈ N
    · rw [conM, if_pos hin] at h; cases h
    · rw [conM, if_neg hin] at h
      have := conM_len ty cs _ _ _ _ _ h
      simp at this ⊢
      omega
theorem decM_len : ∀ (ds : List Nd) (T N : List (List UInt8)) (l l' : List CT), decM ds T N l = .ok l' → l'.length ≤ l.length + totK ds
  | [], T, N, l, l', h => by
    simp only [decM, Except.ok.injEq] at h
    rw [h]; simp [totK]
  | d :: ds, T, N, l, l', h => by
    by_cases hk : d.kind = 2
    · by_cases hin : d.name ∈ T
      · rw [decM_two _ _ _ _ _ hk hin] at h; cases h
      · cases hcm : conM (bs d.name) d.kids 0 N l with
        | error p => rw [decM_err _ _ _ _ _ _ hk hin hcm] at h; cases h
        | ok q =>
          obtain ⟨N2, l2⟩ := q
          rw [decM_ok _ _ _ _ _ _ _ hk hin hcm] at h
          have h1 := conM_len _ _ _ _ _ _ _ hcm
          have h2 := decM_len ds _ _ _ _ h
          simp only [totK]
          omega
    · rw [decM_skip _ _ _ _ _ hk] at h
      have := decM_len ds T N l l' h
      simp only [totK]
      omega
/-- The fault of Cons itself, where all that Cons laid stays. -/
theorem CsB.fault {w w1 X : World} (h : CsB w w1 X) (hk : Blk w1 (w.heap.size + 1) #[.int .i64 0, .int .i64 0] 31) : Blk X (w.heap.size + 1) #[.int .i64 0, .int .i64 0] 31 := hk.same (h.1.block _ (by omega))
theorem cs_set {w X : World} (hb : Below w.heap.size w X) (hk : Blk X (w.heap.size + 1) #[.int .i64 0, .int .i64 0] 31) (a b : Int) : Below w.heap.size w ((X.setCell ⟨w.heap.size + 1, 0, none⟩ (.int .i64 a)).setCell ⟨w.heap.size + 1, 1, none⟩ (.int .i64 b)) ∧ Blk ((X.setCell ⟨w.heap.size + 1, 0, none⟩ (.int .i64 a)).setCell ⟨w.heap.size + 1, 1, none⟩ (.int .i64 b)) (w.heap.size + 1) #[.int .i64 a, .int .i64 b] 31 := by
  refine ⟨(hb.setCell (p := ⟨w.heap.size + 1, 0, none⟩) (Nat.le_succ _) _).setCell (p := ⟨w.heap.size + 1, 1, none⟩) (Nat.le_succ _) _, ?_⟩
  have h0 : Blk (X.setCell ⟨w.heap.size + 1, 0, none⟩ (.int .i64 a)) (w.heap.size + 1) #[.int .i64 a, .int .i64 0] 31 := hk.set 0 _
  exact h0.set 1 _
/-- A row above the fault stays. -/
theorem row_set {w X : World} {v : Value} {l : List CT} (h : ConsRow X (w.heap.size + 2) v l) (a b : Value) : ConsRow ((X.setCell ⟨w.heap.size + 1, 0, none⟩ a).setCell ⟨w.heap.size + 1, 1, none⟩ b) w.heap.size v l := by
  refine (h.same (fun r hr => ?_)).mono (by omega)
  have hne : r ≠ w.heap.size + 1 := by have := (h.lt hr).2; omega
  rw [heap_set_other _ _ _ _ _ hne, heap_set_other _ _ _ _ _ hne]
set_option maxRecDepth 100000 in
set_option maxHeartbeats 8000000 in
theorem cons_c (n : Nd) (o : Option Addr) (cap : Nat) (w : World) (hn : NdIn w w.heap.size n o cap) (hG : GOK w) :
    Calls Tryz.prog 9 #[.agg #[.int .i64 n.kind, .string (bs n.name), .int .i64 n.num, .slice o n.kids.length cap, .int .i64 n.pos]] w fun e W' => CsPost w n e W' := by
  obtain ⟨V, hV⟩ : ∃ V, (w.alloc (.cells #[.int .i64 n.kind, .string (bs n.name), .int .i64 n.num, .slice o n.kids.length cap, .int .i64 n.pos] 27)).alloc (.cells #[.int .i64 0, .int .i64 0] 31) = V := ⟨_, rfl⟩
  have hVb : Below w.heap.size w V := by rw [← hV]; exact ((Below.refl _ w).alloc (Nat.le_refl _) _).alloc (by simp) _
  have hVs : V.heap.size = w.heap.size + 2 := by rw [← hV]; simp
  have hB1 : Blk V w.heap.size #[.int .i64 n.kind, .string (bs n.name), .int .i64 n.num, .slice o n.kids.length cap, .int .i64 n.pos] 27 := by rw [← hV]; exact (Blk.new w _ _).alloc _
  have hB2 : Blk V (w.heap.size + 1) #[.int .i64 0, .int .i64 0] 31 := by rw [← hV]; exact Blk.new2 w _ _ _
  have HV : Hid ((w.alloc (.cells #[.int .i64 n.kind, .string (bs n.name), .int .i64 n.num, .slice o n.kids.length cap, .int .i64 n.pos] 27)).alloc (.cells #[.int .i64 0, .int .i64 0] 31) = V) := hV
  have HVb : Hid (Below w.heap.size w V ∧ V.heap.size = w.heap.size + 2) := ⟨hVb, hVs⟩
  have HB : Hid (Blk V w.heap.size #[.int .i64 n.kind, .string (bs n.name), .int .i64 n.num, .slice o n.kids.length cap, .int .i64 n.pos] 27 ∧ Blk V (w.heap.size + 1) #[.int .i64 0, .int .i64 0] 31) := ⟨hB1, hB2⟩
  have HC : Hid (Calls Tryz.prog 31 #[.agg #[.int .i64 n.kind, .string (bs n.name), .int .i64 n.num, .slice o n.kids.length cap, .int .i64 n.pos]] V fun e W' => e = .returned (.int .i64 (chkM n)) ∧ Below V.heap.size V W') := checkS_c n o cap V ⟨by rcases hn.1 with h | ⟨g, off, e, hg, hk⟩; exact .inl h; exact .inr ⟨g, off, e, by omega, KidsAt.mono (by omega) n.kids g off (hk.below hVb n.kids g off hg)⟩, hn.2⟩ (hG.below hVb)
  have HN : Hid (NdIn w w.heap.size n o cap) := hn
  have hlt : w.heap.size < V.heap.size := by omega
  have b0 := hB1.cell 0 _ rfl
  have b1 := hB1.cell 1 _ rfl
  have b2 := hB1.cell 2 _ rfl
  have b3 := hB1.cell 3 _ rfl
  have b4 := hB1.cell 4 _ rfl
  clear hV hVb hVs hB1 hB2 hn hG
  go_enter Tryz.func9, Tryz.ntmps9
  go_wp2_with (go_at_call 31; fail)
  rw [HV.out]
  refine HC.out.mono ?_
  rintro e w1 ⟨rfl, hb1⟩
  have hk1 := HB.out.1.below hb1
  have hk2 := HB.out.2.below hb1
  have HB1 : Hid (Blk w1 w.heap.size #[.int .i64 n.kind, .string (bs n.name), .int .i64 n.num, .slice o n.kids.length cap, .int .i64 n.pos] 27 ∧ Blk w1 (w.heap.size + 1) #[.int .i64 0, .int .i64 0] 31 ∧ Below w.heap.size w w1 ∧ w.heap.size + 2 ≤ w1.heap.size) := ⟨hk1, hk2, HVb.out.1.trans (hb1.mono HVb.out.1.size), by have := hb1.size; have := HVb.out.2; omega⟩
  have z0 := hk2.cell 0 _ rfl
  have z1 := hk2.cell 1 _ rfl
  have y0 := hk2.frozen 0
  have y1 := hk2.frozen 1
  have hlt2 := hk2.lt
  have x0 := hk1.cell 0 _ rfl
  have x3 : w1.cell? ⟨w.heap.size, 3, none⟩ = some (.slice o n.kids.length cap) := hk1.cell 3 _ rfl
  have hlt1 := hk1.lt
  generalize hck : chkM n = ck
  have HCK : Hid (chkM n = ck) := hck
  clear hck hb1 hk1 hk2 HC HV HVb HB b0 b1 b2 b3 b4 hlt
  by_cases hc : ck = 0
  · have hcz : (ck != 0) = false := by simp [hc]
    have HCZ : Hid (ck = 0) := hc
    clear hc
    by_cases hkd : n.kind = 1
    · have hkz : (n.kind != 1) = false := by simp [hkd]
      have HKD : Hid (n.kind = 1) := hkd
      clear hkd
      have HSm : Hid (totK n.kids + n.kids.length ≤ 1048576) := (chk_small (HCK.out.trans HCZ.out)).1
      have HK : Hid (∀ X, CsB w w1 X → KIn X (w.heap.size + 2) o n.kids) := fun X hX => by
        rcases HN.out.1 with h | ⟨g, off, e, hg, hk⟩
        · exact .inl h
        · refine .inr ⟨g, off, e, by omega, KidsAt.mono (by omega) n.kids g off (KidsAt.below ?_ n.kids g off hg hk)⟩
          exact HB1.out.2.2.1.trans (hX.1.mono (by omega))
      have hCs : CsB w w1 w1 := ⟨Below.refl _ _, HB1.out.2.2.2⟩
      have HS0 : w1.cell? ⟨w.heap.size, 3, none⟩ = some (.slice o n.kids.length cap) ∧ CsB w w1 w1 := ⟨x3, hCs⟩
      have HSA : Hid (∀ X, CsB w w1 X → X.cell? ⟨w.heap.size, 3, none⟩ = some (.slice o n.kids.length cap)) := fun X hX => (hX.1.cell (p := ⟨w.heap.size, 3, none⟩) (by show w.heap.size < _; omega)).trans x3
      have hm : Tryz.prog.follows Departure.mixedOrders = true := by kernel_rfl
      go_wp2_with fail
      go_region_held3 (fun X : World => X.cell? ⟨w.heap.size, 3, none⟩ = some (.slice o n.kids.length cap) ∧ CsB w w1 X)
        (first
          | exact HS0
          | exact ⟨HSA.out _ hCs.drew, hCs.drew⟩
          | exact ⟨HSA.out _ (hCs.alloc _), hCs.alloc _⟩
          | exact ⟨HSA.out _ (hCs.alloc _).drew, (hCs.alloc _).drew⟩
          | exact ⟨HSA.out _ hC2, hC2⟩
          | exact ⟨HSA.out _ (hC2.alloc _), hC2.alloc _⟩
          | exact ⟨HSA.out _ (hC2.alloc _).drew, (hC2.alloc _).drew⟩
          | exact ⟨HSA.out _ hC3, hC3⟩
          | exact ⟨HSA.out _ (hC3.alloc _), hC3.alloc _⟩
          | exact ⟨HSA.out _ ((hC3.set hC2.2 _ _).set hC2.2 _ _), (hC3.set hC2.2 _ _).set hC2.2 _ _⟩
          | exact ⟨HSA.out _ ((hC3.set hCs.2 _ _).set hCs.2 _ _), (hC3.set hCs.2 _ _).set hCs.2 _ _⟩)
        (first
          | (go_at_call 7; refine (builtin2_c _).mono ?_; rintro e w2 ⟨g2, cap2, l2, rfl, hp2, hs2, hr2, hb2⟩; have HR2 : Hid (ConsRow w2 (w.heap.size + 2) (.slice (some ⟨g2, 0, none⟩) 8 cap2) l2) := (by first | exact hr2.mono hCs.2 | exact hr2.mono (hCs.alloc _).2); have hC2 : CsB w w1 w2 := (by first | exact hCs.drew.below hb2 | exact (hCs.alloc _).drew.below hb2); have HP2 : Hid (l2.Perm biL) := hp2; have HG2 : Hid (g2 < w2.heap.size ∧ w1.heap.size ≤ g2 ∧ (g2 = w1.heap.size → False ∨ True)) := ⟨(hr2.lt rfl).1, (by first | exact (hr2.lt rfl).2 | (have := (hr2.lt rfl).2; simp at this; omega)), fun _ => .inr trivial⟩; (first | (have hz2 : Blk w2 w1.heap.size #[.int .i64 0, .int .i64 0] 31 ∧ w1.heap.size ≠ g2 := ⟨Blk.below (W := (w1.alloc (.cells #[.int .i64 0, .int .i64 0] 31)).drew) (Blk.new w1 _ _) hb2, (by have := (hr2.lt rfl).2; simp at this; omega)⟩) | skip); clear hp2 hs2 hr2 hb2)
          | (go_at_call 32; refine (withDeclared2_c _ (w.heap.size + 2) g2 cap2 l2 n.kids o cap (by first | exact HR2.out | exact HR2.out.below ((Below.refl _ _).alloc (Nat.le_refl _) _)) HP2.out (by first | exact hC2.2 | exact (hC2.alloc _).2) (by first | exact HK.out _ hC2 | exact HK.out _ (hC2.alloc _)) HSm.out).mono ?_; rintro e w3 ⟨o3, n3, cap3, er, p, rfl, hw3⟩; have hC3 : CsB w w1 w3 := (by first | exact hC2.on hw3.2.1 | exact (hC2.alloc _).on hw3.2.1); (first | (have hz3 : Blk w3 w1.heap.size #[.int .i64 0, .int .i64 0] 31 := hz2.1.same (hw3.1 _ hz2.1.lt hz2.2)) | (have hz3 : Blk w3 w2.heap.size #[.int .i64 0, .int .i64 0] 31 := Blk.same (W := w2.alloc (.cells #[.int .i64 0, .int .i64 0] 31)) (Blk.new w2 _ _) (hw3.1 _ (by simp) (by have := HG2.out.1; omega))) | skip); (first | (have a0 := hz3.cell 0 _ rfl; have a1 := hz3.cell 1 _ rfl; have a2 := hz3.frozen 0; have a3 := hz3.frozen 1; have a4 := hz3.lt) | skip); have HW3 := (show Hid _ from hw3.2.2); clear hw3))
      all_goals (first
        | (have HT : Hid (CsT w w1 n l2 (.slice o3 n3 cap3) er p w2.heap.size ((w3.setCell ⟨w2.heap.size, 0, none⟩ (.int .i64 er)).setCell ⟨w2.heap.size, 1, none⟩ (.int .i64 p))) := csT_set hC3 hz3 hC2.2 (by have := HG2.out.1; omega) (by simp) HW3.out
           generalize (w3.setCell ⟨w2.heap.size, 0, none⟩ (.int .i64 er)).setCell ⟨w2.heap.size, 1, none⟩ (.int .i64 p) = W4 at HT ⊢
           generalize w2.heap.size = B6 at HT ⊢)
        | (have HT : Hid (CsT w w1 n l2 (.slice o3 n3 cap3) er p w1.heap.size ((w3.setCell ⟨w1.heap.size, 0, none⟩ (.int .i64 er)).setCell ⟨w1.heap.size, 1, none⟩ (.int .i64 p))) := csT_set hC3 hz3 hCs.2 hz2.2 hz2.1.lt HW3.out
           generalize (w3.setCell ⟨w1.heap.size, 0, none⟩ (.int .i64 er)).setCell ⟨w1.heap.size, 1, none⟩ (.int .i64 p) = W4 at HT ⊢
           generalize w1.heap.size = B6 at HT ⊢)
        | (have HT : Hid (CsT w w1 n l2 (.slice o3 n3 cap3) er p w3.heap.size (w3.alloc (.cells #[.int .i64 er, .int .i64 p] 31))) := csT_alloc hC3 HW3.out
           generalize w3.alloc (.cells #[.int .i64 er, .int .i64 p] 31) = W4 at HT ⊢
           generalize w3.heap.size = B6 at HT ⊢))
      all_goals (
        have hT := HT.out
        have hFk := hT.2.1.fault HB1.out.2.1
        have HFk : Hid (Blk W4 (w.heap.size + 1) #[.int .i64 0, .int .i64 0] 31 ∧ Below w.heap.size w W4) := ⟨hFk, HB1.out.2.2.1.trans (hT.2.1.1.mono (by omega))⟩
        have t0 : W4.cell? ⟨B6, 0, none⟩ = some (.int .i64 er) := hT.1.cell 0 _ rfl
        have t1 : W4.cell? ⟨B6, 1, none⟩ = some (.int .i64 p) := hT.1.cell 1 _ rfl
        have tl := hT.1.lt
        have f0 : W4.cell? ⟨w.heap.size + 1, 0, none⟩ = some (.int .i64 0) := hFk.cell 0 _ rfl
        have f1 : W4.cell? ⟨w.heap.size + 1, 1, none⟩ = some (.int .i64 0) := hFk.cell 1 _ rfl
        have f2 := hFk.frozen 0
        have f3 := hFk.frozen 1
        have fl := hFk.lt
        clear hFk hC3 hC2 hCs HW3 HS0 HSA HK
        by_cases he : er = 0
        · have hez : (er != 0) = false := by simp [he]
          obtain ⟨l3, hl3, hr3⟩ : ∃ l3, wdM l2 n.kids = .ok l3 ∧ ConsRow W4 (w.heap.size + 2) (.slice o3 n3 cap3) l3 := by
            rcases hT.2.2.2 with ⟨q1, _⟩ | ⟨_, _, l3, q2, q3⟩
            · omega
            · exact ⟨l3, q2, q3⟩
          have hmb := (chk_small (HCK.out.trans HCZ.out)).2
          have hne3 : l3 ≠ [] := fun e => by have := (wd_gth (by have := HSm.out; omega) hmb HP2.out hl3).2 tup2 (by simp [biL]); rw [e] at this; cases this
          have hlen3 : l3.length < 1152921504606846976 := by
            have h1 := decM_len _ _ _ _ _ hl3
            have h2 : l2.length = 8 := HP2.out.length_eq
            have h3 := HSm.out
            omega
          have HSo : Hid (Calls Tryz.prog 29 #[.slice o3 n3 cap3, .func (.func 30) #[] #[]] W4 fun e w' => e = .returned (.tuple #[]) ∧ ∃ l', l'.Perm l3 ∧ Srt l' ∧ ConsRow w' (w.heap.size + 2) (.slice o3 n3 cap3) l' ∧ W4.grownBy w' (Value.slice o3 n3 cap3).ownBlock) := sortRow_c W4 (w.heap.size + 2) _ l3 hr3 hne3 hlen3
          have HRB : Hid (∀ r, (Value.slice o3 n3 cap3).ownBlock = some r → w.heap.size + 2 ≤ r) := fun r hr => (hr3.lt hr).2
          have HWD : Hid (wdM l2 n.kids = .ok l3) := hl3
          clear hT hr3 hne3 hlen3 hmb he hl3
          go_wp2_with (go_at_call 29; fail)
          refine HSo.out.mono ?_
          rintro e w6 ⟨rfl, l', hp6, hs6, hr6, hg6⟩
          have hFk6 : Blk w6 (w.heap.size + 1) #[.int .i64 0, .int .i64 0] 31 := HFk.out.1.same (hg6.block _ HFk.out.1.lt (fun e => by have := HRB.out _ e.symm; omega))
          have hB6 : Below w.heap.size w w6 := HFk.out.2.grown hg6 HFk.out.2.size (fun j hj => by have := HRB.out j hj; omega)
          have HF6 : Hid (Blk w6 (w.heap.size + 1) #[.int .i64 0, .int .i64 0] 31 ∧ Below w.heap.size w w6 ∧ ConsRow w6 (w.heap.size + 2) (.slice o3 n3 cap3) l' ∧ l'.Perm l3 ∧ Srt l') := ⟨hFk6, hB6, hr6, hp6, hs6⟩
          have s0 : w6.cell? ⟨w.heap.size + 1, 0, none⟩ = some (.int .i64 0) := hFk6.cell 0 _ rfl
          have s1 : w6.cell? ⟨w.heap.size + 1, 1, none⟩ = some (.int .i64 0) := hFk6.cell 1 _ rfl
          have s2 := hFk6.frozen 0
          have s3 := hFk6.frozen 1
          have sl := hFk6.lt
          clear hFk6 hB6 hr6 hp6 hs6 hg6 HSo
          go_wp2
          have hq := cs_set HF6.out.2.1 HF6.out.1 0 0
          have hrow := row_set HF6.out.2.2.1 (.int .i64 0) (.int .i64 0)
          generalize (w6.setCell ⟨w.heap.size + 1, 0, none⟩ (.int .i64 0)).setCell ⟨w.heap.size + 1, 1, none⟩ (.int .i64 0) = WF at hq hrow ⊢
          have g0' : WF.cell? ⟨w.heap.size + 1, 0, none⟩ = some (.int .i64 0) := hq.2.cell 0 _ rfl
          have g1' : WF.cell? ⟨w.heap.size + 1, 1, none⟩ = some (.int .i64 0) := hq.2.cell 1 _ rfl
          exact bodyPost_ret (v := .tuple #[.slice o3 n3 cap3, .agg #[.int .i64 0, .int .i64 0]]) (by simp [results, Tryz.results9, go_sem, g0', g1']) rfl ⟨hq.1, .inr ⟨_, l', ⟨HCK.out.trans HCZ.out, HKD.out, HF6.out.2.2.2.2, l2, l3, HP2.out, HWD.out, HF6.out.2.2.2.1⟩, rfl, hrow⟩⟩
        · have hez : (er != 0) = true := by simpa using he
          have HE8 : Hid (er = 8 ∧ wdM l2 n.kids = .error p) := by
            rcases hT.2.2.2 with q | ⟨q, _⟩
            · exact q
            · exact absurd q he
          clear hT he
          go_wp2_with fail
          go_region
          all_goals go_wp2
          have hq := cs_set HFk.out.2 HFk.out.1 er p
          generalize (W4.setCell ⟨w.heap.size + 1, 0, none⟩ (.int .i64 er)).setCell ⟨w.heap.size + 1, 1, none⟩ (.int .i64 p) = WF at hq ⊢
          have g0' : WF.drew.cell? ⟨w.heap.size + 1, 0, none⟩ = some (.int .i64 er) := hq.2.cell 0 _ rfl
          have g1' : WF.drew.cell? ⟨w.heap.size + 1, 1, none⟩ = some (.int .i64 p) := hq.2.cell 1 _ rfl
          exact bodyPost_ret (v := .tuple #[.slice none 0 0, .agg #[.int .i64 er, .int .i64 p]]) (by simp [results, Tryz.results9, go_sem, g0', g1']) rfl ⟨hq.1.drew, .inl ⟨er, p, .inr (.inr ⟨HCK.out.trans HCZ.out, HKD.out, HE8.out.1, l2, HP2.out, HE8.out.2⟩), rfl⟩⟩)
    · have hkz : (n.kind != 1) = true := by simpa using hkd
      go_wp2
      have hq := cs_set HB1.out.2.2.1 HB1.out.2.1 2 0
      generalize (w1.setCell ⟨w.heap.size + 1, 0, none⟩ (.int .i64 2)).setCell ⟨w.heap.size + 1, 1, none⟩ (.int .i64 0) = WF at hq ⊢
      have g0' : WF.cell? ⟨w.heap.size + 1, 0, none⟩ = some (.int .i64 2) := hq.2.cell 0 _ rfl
      have g1' : WF.cell? ⟨w.heap.size + 1, 1, none⟩ = some (.int .i64 0) := hq.2.cell 1 _ rfl
      exact bodyPost_ret (v := .tuple #[.slice none 0 0, .agg #[.int .i64 2, .int .i64 0]]) (by simp [results, Tryz.results9, go_sem, g0', g1']) rfl ⟨hq.1, .inl ⟨2, 0, .inr (.inl ⟨HCK.out.trans HCZ.out, hkd, rfl, rfl⟩), rfl⟩⟩
  · have hcz : (ck != 0) = true := by simpa using hc
    go_wp2
    have hq := cs_set HB1.out.2.2.1 HB1.out.2.1 ck 0
    generalize (w1.setCell ⟨w.heap.size + 1, 0, none⟩ (.int .i64 ck)).setCell ⟨w.heap.size + 1, 1, none⟩ (.int .i64 0) = WF at hq ⊢
    have g0' : WF.cell? ⟨w.heap.size + 1, 0, none⟩ = some (.int .i64 ck) := hq.2.cell 0 _ rfl
    have g1' : WF.cell? ⟨w.heap.size + 1, 1, none⟩ = some (.int .i64 0) := hq.2.cell 1 _ rfl
    exact bodyPost_ret (v := .tuple #[.slice none 0 0, .agg #[.int .i64 ck, .int .i64 0]]) (by simp [results, Tryz.results9, go_sem, g0', g1']) rfl ⟨hq.1, .inl ⟨ck, 0, .inl ⟨by rw [HCK.out]; exact hc, HCK.out.symm, rfl⟩, rfl⟩⟩
end Go.Proofs.YtdbpggncpkocaaaGreatDoor
