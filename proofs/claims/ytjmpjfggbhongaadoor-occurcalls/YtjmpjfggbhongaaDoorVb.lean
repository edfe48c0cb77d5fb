/-
  One walk for all binders, as mathematics (stage 16): scopes, and what an expression comes to.
-/
import Derived.Test.YtjmpjfggbhongaaDoorVa
namespace Go.Proofs.YtjmpjfggbhongaaDoor
open Go.RowKit Go.Shelf Go.Maps
set_option linter.unusedVariables false

theorem ba_ext {a b : ByteArray} (h : a.data.toList = b.data.toList) : a = b := by
  exact ByteArray.ext (Array.toList_inj.1 h)
theorem mem_dl {x : List UInt8} {l : List ByteArray} : x ∈ dl l ↔ ∃ n ∈ l, n.data.toList = x := by simp [dl]
/-- The binders of names that are bound at once. -/
def nbs (s0 : WS) (ns : List ByteArray) : List BdR := ns.zipIdx.map (fun p => ⟨p.1, 1, 0, 0, s0.lam, s0.scope.length + p.2, s0.named p.1.data.toList⟩)
theorem nbs_len (s0 : WS) (ns : List ByteArray) : (nbs s0 ns).length = ns.length := by simp [nbs]
theorem nbs_app (s0 : WS) (ns : List ByteArray) (n : ByteArray) : nbs s0 (ns ++ [n]) = nbs s0 ns ++ [⟨n, 1, 0, 0, s0.lam, s0.scope.length + ns.length, s0.named n.data.toList⟩] := by
  simp [nbs, List.zipIdx_append]
theorem nbs_at (s0 : WS) (ns : List ByteArray) (k : Nat) (h : k < ns.length) : (nbs s0 ns)[k]? = some ⟨ns[k], 1, 0, 0, s0.lam, s0.scope.length + k, s0.named ns[k].data.toList⟩ := by
  simp [nbs, h]
/-- Names are bound. -/
structure Bnds (s0 s : WS) (l ns : List ByteArray) : Prop where
  parts : s.parts = s0.parts
  lam : s.lam = s0.lam
  met : s.met = s0.met
  bs : s.bs = s0.bs ++ nbs s0 ns
  scope : s.scope = s0.scope ++ List.range' s0.bs.length ns.length
  nm : ∀ k (h : k < ns.length), s.named ns[k].data.toList = some (s0.bs.length + k)
  mem : ∀ x, x ∈ dl ns ↔ x ∈ dl l
  out : ∀ x, x ∉ dl l → s.named x = s0.named x
  ask : s.asked = s0.asked ++ l.map (fun n => (s.named n.data.toList).getD 0)
theorem Bnds.len {s0 s : WS} {l ns : List ByteArray} (h : Bnds s0 s l ns) : s.bs.length = s0.bs.length + ns.length := by rw [h.bs, List.length_append, nbs_len]
theorem Bnds.old {s0 s : WS} {l ns : List ByteArray} (h : Bnds s0 s l ns) {i : Nat} (hi : i < s0.bs.length) : s.bd i = s0.bd i := by
  simp [WS.bd, h.bs, List.getElem?_append_left hi]
theorem Bnds.new {s0 s : WS} {l ns : List ByteArray} (h : Bnds s0 s l ns) {k : Nat} (hk : k < ns.length) : s.bd (s0.bs.length + k) = ⟨ns[k], 1, 0, 0, s0.lam, s0.scope.length + k, s0.named ns[k].data.toList⟩ := by
  unfold WS.bd
  rw [h.bs, List.getElem?_append_right (by omega), Nat.add_sub_cancel_left, nbs_at _ _ _ hk]; rfl
theorem Bnds.isIn {s0 s : WS} {l ns : List ByteArray} (h : Bnds s0 s l ns) {x : List UInt8} (hx : x ∈ dl l) : ∃ k, ∃ hk : k < ns.length, ns[k].data.toList = x ∧ s.named x = some (s0.bs.length + k) := by
  obtain ⟨n, hn, e⟩ := mem_dl.1 ((h.mem x).2 hx)
  obtain ⟨k, hk, e2⟩ := List.mem_iff_getElem.1 hn
  refine ⟨k, hk, by rw [e2, e], ?_⟩
  have := h.nm k hk
  rw [e2, e] at this; exact this
theorem bnds_nil (s : WS) : Bnds s s [] [] := ⟨rfl, rfl, rfl, by simp [nbs], by simp, fun k h => (by cases h), fun x => Iff.rfl, fun x _ => rfl, by simp⟩
theorem bnds_step {s0 s : WS} (hw : Wf s0) {l ns : List ByteArray} (h : Bnds s0 s l ns) (n : ByteArray) : ∃ ns', Bnds s0 (bindS s0.scope.length n s) (l ++ [n]) ns' := by
  have hdl : ∀ x, x ∈ dl (l ++ [n]) ↔ x ∈ dl l ∨ x = n.data.toList := fun x => by simp [dl, eq_comm]
  by_cases hx : n.data.toList ∈ dl l
  · obtain ⟨k, hk, e1, e2⟩ := h.isIn hx
    have hb := h.new hk
    have e : bindS s0.scope.length n s = { s with asked := s.asked ++ [s0.bs.length + k] } := by
      unfold bindS; rw [e2]; simp only [hb]; rw [if_neg (by omega)]
    rw [e]
    refine ⟨ns, h.parts, h.lam, h.met, h.bs, h.scope, h.nm, fun x => ?_, fun x hx' => h.out x (fun h9 => hx' ((hdl x).2 (.inl h9))), ?_⟩
    · rw [h.mem x, hdl x]
      exact ⟨.inl, fun h9 => h9.elim id (fun h8 => by rw [h8]; exact hx)⟩
    · show s.asked ++ [s0.bs.length + k] = s0.asked ++ (l ++ [n]).map (fun n => (s.named n.data.toList).getD 0)
      rw [h.ask, List.map_append, List.map_cons, List.map_nil, e2, List.append_assoc]; rfl
  · have e : bindS s0.scope.length n s = freshS n (s0.named n.data.toList) s := by
      have h9 := h.out _ hx
      unfold bindS
      cases hc : s0.named n.data.toList with
      | none => rw [hc] at h9; rw [h9]
      | some b =>
        rw [hc] at h9; rw [h9]
        obtain ⟨q1, q2, q3, -⟩ := hw.nm _ _ hc
        simp only [h.old q1]
        rw [if_pos q3]
    rw [e]
    have hlen := h.len
    have hne : ∀ m ∈ l, m.data.toList ≠ n.data.toList := fun m hm e9 => hx (by rw [← e9]; exact mem_dl.2 ⟨m, hm, rfl⟩)
    refine ⟨ns ++ [n], h.parts, h.lam, h.met, ?_, ?_, fun k hk => ?_, fun x => ?_, fun x hx' => ?_, ?_⟩
    · show s.bs ++ [_] = _
      rw [nbs_app, ← List.append_assoc, ← h.bs, h.lam, h.scope, List.length_append, List.length_range']
    · show s.scope ++ [_] = _
      rw [h.scope, List.length_append, hlen, List.length_singleton, List.range'_concat, List.append_assoc]; simp
    · show (if _ then _ else _) = _
      by_cases hk2 : k < ns.length
      · rw [List.getElem_append_left hk2]
        have hmem : ns[k].data.toList ∈ dl l := (h.mem _).1 (mem_dl.2 ⟨_, List.getElem_mem hk2, rfl⟩)
        rw [if_neg (fun e9 => hx (by rw [← e9]; exact hmem))]
        exact h.nm k hk2
      · have : k = ns.length := by simp at hk; omega
        subst this
        simp [hlen]
    · rw [hdl x, ← h.mem x]; simp [dl, eq_comm]
    · have h9 : ¬ (x ∈ dl l ∨ x = n.data.toList) := fun h8 => hx' ((hdl x).2 h8)
      show (if _ then _ else _) = _
      rw [if_neg (fun e9 => h9 (.inr e9))]
      exact h.out x (fun e9 => h9 (.inl e9))
    · show s.asked ++ [s.bs.length] = s0.asked ++ (l ++ [n]).map (fun m => (if m.data.toList = n.data.toList then some s.bs.length else s.named m.data.toList).getD 0)
      rw [h.ask, List.map_append, List.map_cons, List.map_nil, if_pos rfl, List.append_assoc]
      congr 2
      refine List.map_congr_left (fun m hm => ?_)
      rw [if_neg (hne m hm)]
theorem bnds_fold {s0 : WS} (hw : Wf s0) : ∀ (l2 : List ByteArray) {s : WS} {l1 ns : List ByteArray}, Bnds s0 s l1 ns → ∃ ns', Bnds s0 (bindsS s0.scope.length l2 s) (l1 ++ l2) ns'
  | [], s, l1, ns, h => ⟨ns, by simpa [bindsS] using h⟩
  | n :: l2, s, l1, ns, h => by
    obtain ⟨ns1, h1⟩ := bnds_step hw h n
    obtain ⟨ns2, h2⟩ := bnds_fold hw l2 h1
    exact ⟨ns2, by simpa [bindsS] using h2⟩
theorem bnds_all {s0 : WS} (hw : Wf s0) (l : List ByteArray) : ∃ ns, Bnds s0 (bindsS s0.scope.length l s0) l ns := by simpa using bnds_fold hw l (bnds_nil s0)
theorem Bnds.wf {s0 s : WS} {l ns : List ByteArray} (h : Bnds s0 s l ns) (hw : Wf s0) : Wf s := by
  have hlen := h.len
  refine ⟨by rw [h.parts]; exact hw.srt, by rw [h.parts, h.met]; exact hw.mt, by rw [h.parts]; exact hw.zero, fun i hi => ?_, fun x i hx => ?_⟩
  · rw [h.scope] at hi
    rcases List.mem_append.1 hi with h9 | h9
    · have := hw.sc i h9; omega
    · rw [List.mem_range'_1] at h9; omega
  · have hs : s.scope.length = s0.scope.length + ns.length := by rw [h.scope]; simp
    by_cases hm : x ∈ dl l
    · obtain ⟨k, hk, e1, e2⟩ := h.isIn hm
      rw [e2] at hx; cases hx
      rw [h.new hk, h.lam]
      exact ⟨by omega, e1, by show _ + k < _; omega, Nat.le_refl _, Nat.le_refl _, by show 1 ≤ 5; decide, .inl ⟨rfl, rfl⟩, Nat.zero_le _⟩
    · rw [h.out x hm] at hx
      obtain ⟨n1, n2, n3, n4, n5, n6, n7, n8⟩ := hw.nm x i hx
      rw [h.old n1, h.lam, h.met]
      exact ⟨by omega, n2, by omega, n4, n5, n6, n7, n8⟩
theorem unb_fold (f : List UInt8 → Option Nat) : ∀ (L : List Nat) (s : WS), (∀ i ∈ L, (s.bd i).hid = f (s.bd i).name.data.toList) →
    (L.foldl unb1 s).parts = s.parts ∧ (L.foldl unb1 s).lam = s.lam ∧ (L.foldl unb1 s).met = s.met ∧ (L.foldl unb1 s).bs = s.bs ∧ (L.foldl unb1 s).scope = s.scope ∧ (L.foldl unb1 s).asked = s.asked ∧ (L.foldl unb1 s).puts = s.puts + L.length ∧ ∀ y, (L.foldl unb1 s).named y = if y ∈ L.map (fun i => (s.bd i).name.data.toList) then f y else s.named y
  | [], s, _ => by simp
  | i :: L, s, h => by
    have ih := unb_fold f L (unb1 s i) (fun j hj => h j (List.mem_cons_of_mem _ hj))
    obtain ⟨i1, i2, i3, i4, i5, i6, i7, i8⟩ := ih
    refine ⟨i1, i2, i3, i4, i5, i6, by rw [List.foldl_cons, i7]; show s.puts + 1 + _ = _; simp; omega, fun y => ?_⟩
    rw [List.foldl_cons, i8 y]
    show (if y ∈ L.map (fun i => (s.bd i).name.data.toList) then f y else if y = (s.bd i).name.data.toList then (s.bd i).hid else s.named y) = _
    rw [List.map_cons]
    by_cases h1 : y ∈ L.map (fun i => (s.bd i).name.data.toList)
    · rw [if_pos h1, if_pos (List.mem_cons_of_mem _ h1)]
    · rw [if_neg h1]
      by_cases h2 : y = (s.bd i).name.data.toList
      · rw [if_pos h2, if_pos (by rw [h2]; exact List.mem_cons_self), h i List.mem_cons_self, h2]
      · rw [if_neg h2, if_neg (fun h9 => (List.mem_cons.1 h9).elim h2 h1)]
/-- A step that may change parts. -/
def ChdQ (p : List (Nat × Option Nat) → Nat → Prop) (q : List (Nat × Option Nat) → List (Nat × Option Nat) → Prop) (f : WS → WS) (r c : List UInt8 → Nat) (L : List (ByteArray × Nat)) : Prop :=
  (∀ x, GG (r x) (c x)) ∧ ∀ s, Wf s → p s.parts s.met → q s.parts (f s).parts ∧ Kept s (f s) ∧ (∀ x i, s.named x = some i → Upd s (f s) i (r x) (c x)) ∧ AskP s (f s) L
/-- A scope's names are taken back. -/
theorem unbind_eq {s0 s1 s2 : WS} {l ns : List ByteArray} (h : Bnds s0 s1 l ns) (k : Kept s1 s2) :
    (unbindS s0.scope.length s2).parts = s2.parts ∧ (unbindS s0.scope.length s2).lam = s0.lam ∧ (unbindS s0.scope.length s2).met = s2.met ∧ (unbindS s0.scope.length s2).bs = s2.bs ∧ (unbindS s0.scope.length s2).scope = s0.scope ∧ (unbindS s0.scope.length s2).asked = s2.asked ∧ (unbindS s0.scope.length s2).named = s0.named := by
  have hsc : s2.scope = s0.scope ++ List.range' s0.bs.length ns.length := k.scope.trans h.scope
  have hdr : s2.scope.drop s0.scope.length = List.range' s0.bs.length ns.length := by rw [hsc, List.drop_left]
  have hlen := h.len
  have hrec : ∀ j, j < ns.length → (s2.bd (s0.bs.length + j)).hid = s0.named (s2.bd (s0.bs.length + j)).name.data.toList ∧ ∀ hj : j < ns.length, (s2.bd (s0.bs.length + j)).name = ns[j] := fun j hj => by
    obtain ⟨f1, f2, f3, f4⟩ := k.fix (s0.bs.length + j) (by omega)
    rw [h.new hj] at f1 f4
    exact ⟨by rw [f4, f1], fun _ => f1⟩
  obtain ⟨i1, i2, i3, i4, i5, i6, i7, i8⟩ := unb_fold s0.named (s2.scope.drop s0.scope.length) s2 (fun i hi => by
    rw [hdr, List.mem_range'_1] at hi
    have := (hrec (i - s0.bs.length) (by omega)).1
    rw [show s0.bs.length + (i - s0.bs.length) = i by omega] at this
    exact this)
  refine ⟨i1, i2.trans (k.lam.trans h.lam), i3, i4, ?_, i6, ?_⟩
  · show ((s2.scope.drop s0.scope.length).foldl unb1 s2).scope.take s0.scope.length = _
    rw [i5, hsc, List.take_left]
  · funext y
    show ((s2.scope.drop s0.scope.length).foldl unb1 s2).named y = _
    rw [i8 y, hdr]
    by_cases hy : y ∈ dl l
    · rw [if_pos]
      obtain ⟨j, hj, e1, e2⟩ := h.isIn hy
      exact List.mem_map.2 ⟨s0.bs.length + j, by rw [List.mem_range'_1]; omega, by rw [(hrec j hj).2 hj, e1]⟩
    · rw [if_neg, k.named, h.out y hy]
      intro h9
      obtain ⟨i, hi, e9⟩ := List.mem_map.1 h9
      rw [List.mem_range'_1] at hi
      have h8 := (hrec (i - s0.bs.length) (by omega)).2 (by omega)
      rw [show s0.bs.length + (i - s0.bs.length) = i by omega] at h8
      rw [h8] at e9
      exact hy ((h.mem y).1 (mem_dl.2 ⟨_, List.getElem_mem _, e9⟩))
/-- What is done in a scope of names. -/
theorem chd_inSc {p : List (Nat × Option Nat) → Nat → Prop} {q : List (Nat × Option Nat) → List (Nat × Option Nat) → Prop} (ns : List ByteArray) {f : WS → WS} {r c : List UInt8 → Nat} {L : List (ByteArray × Nat)} (h : ChdQ p q f r c L) :
    ChdQ p q (inSc ns f) (fun x => if (dl ns).contains x then 1 else r x) (fun x => if (dl ns).contains x then 0 else c x) (ns.map (fun n => (n, r n.data.toList)) ++ L) := by
  refine ⟨fun x => ?_, fun s hs hp => ?_⟩
  · show GG (if (dl ns).contains x = true then 1 else r x) (if (dl ns).contains x = true then 0 else c x)
    by_cases hx : (dl ns).contains x = true
    · rw [if_pos hx, if_pos hx]; exact (by decide : 1 ≤ 1 ∧ 1 ≤ 5 ∧ (0 = 0 ↔ 1 = 1))
    · rw [if_neg hx, if_neg hx]; exact h.1 x
  obtain ⟨ns1, hb⟩ := bnds_all hs ns
  obtain ⟨s1, hs1⟩ : ∃ s1, bindsS s.scope.length ns s = s1 := ⟨_, rfl⟩
  rw [hs1] at hb
  have hw1 := hb.wf hs
  obtain ⟨p2, k2, u2, a2⟩ := h.2 s1 hw1 (by rw [hb.parts, hb.met]; exact hp)
  obtain ⟨s2, hs2⟩ : ∃ s2, f s1 = s2 := ⟨_, rfl⟩
  rw [hs2] at p2 k2 u2 a2
  obtain ⟨e1, e2, e3, e4, e5, e6, e7⟩ := unbind_eq hb k2
  have e : inSc ns f s = unbindS s.scope.length s2 := by unfold inSc; rw [hs1, hs2]
  rw [e]
  obtain ⟨s3, hs3⟩ : ∃ s3, unbindS s.scope.length s2 = s3 := ⟨_, rfl⟩
  rw [hs3] at e1 e2 e3 e4 e5 e6 e7 ⊢
  have hbd : ∀ i, s3.bd i = s2.bd i := fun i => by unfold WS.bd; rw [e4]
  have hlen := hb.len
  have hl2 := k2.len
  have hm2 := k2.met
  have hl3 : s3.bs.length = s2.bs.length := by rw [e4]
  have hidle : ∀ i, i < s.bs.length → (∀ y, s1.named y = some i → False) → s3.bd i = s.bd i := fun i hi hn => by
    rw [hbd, k2.idle i (by omega) (fun y hy => hn y hy), hb.old hi]
  have hin : ∀ y i, i < s.bs.length → s1.named y = some i → y ∉ dl ns ∧ s.named y = some i := fun y i hi hy => by
    by_cases hm : y ∈ dl ns
    · obtain ⟨j, hj, e1, e2⟩ := hb.isIn hm
      rw [e2] at hy; cases hy; omega
    · rw [hb.out y hm] at hy; exact ⟨hm, hy⟩
  have hcon : ∀ y, (dl ns).contains y = true ↔ y ∈ dl ns := fun y => List.contains_iff_mem
  refine ⟨by rw [e1, ← hb.parts]; exact p2, ⟨e2, e7, e5, by rw [e3]; have := hb.met; omega, by omega, fun i hi => ?_, fun i hi hx => hidle i hi (fun y hy => hx y (hin y i hi hy).2)⟩, fun x i hx => ?_, ?_⟩
  · rw [hbd]
    have := k2.fix i (by omega)
    rw [hb.old hi] at this; exact this
  · obtain ⟨n1, n2, -⟩ := hs.nm x i hx
    by_cases hc : (dl ns).contains x = true
    · simp only [hc, if_true]
      refine ⟨fun _ => hidle i n1 (fun y hy => ?_), fun h9 => by omega⟩
      obtain ⟨h8, h7⟩ := hin y i n1 hy
      have := (hs.nm y i h7).2.1
      exact h8 (by rw [← this, n2]; exact (hcon x).1 hc)
    · have hx1 : s1.named x = some i := by rw [hb.out x (fun h9 => hc ((hcon x).2 h9))]; exact hx
      obtain ⟨v1, v2⟩ := u2 x i hx1
      show Upd s s3 i (if (dl ns).contains x = true then 1 else r x) (if (dl ns).contains x = true then 0 else c x)
      rw [if_neg hc, if_neg hc]
      rw [hb.old n1, hb.parts, hb.lam, hb.met] at v2
      rw [hb.old n1] at v1
      unfold Upd
      rw [hbd, e3]
      exact ⟨v1, v2⟩
  · obtain ⟨l2, q1, q2, q3⟩ := a2
    refine ⟨ns.map (fun n => (s1.named n.data.toList).getD 0) ++ l2, by rw [e6, q1, hb.ask, List.append_assoc], ?_, fun i hi => ?_⟩
    · rw [List.map_append, List.map_map]
      have ev : viewS s3 = viewS s2 := by funext i; simp [viewS, hbd]
      rw [ev, q2]
      congr 1
      refine List.map_congr_left (fun n hn => ?_)
      obtain ⟨j, hj, g1, g2⟩ := hb.isIn (mem_dl.2 ⟨n, hn, rfl⟩)
      show viewS s2 ((s1.named n.data.toList).getD 0) = _
      rw [g2]
      show viewS s2 (s.bs.length + j) = _
      have hnew := hb.new hj
      obtain ⟨v1, v2⟩ := u2 _ _ g2
      obtain ⟨f1, -⟩ := k2.fix (s.bs.length + j) (by omega)
      have hgg := h.1 n.data.toList
      have hnm : (s2.bd (s.bs.length + j)).name = n := by rw [f1, hnew]; exact ba_ext g1
      unfold viewS
      rw [hnm]
      congr 1
      rcases Nat.eq_zero_or_pos (c n.data.toList) with h0 | h0
      · rw [v1 h0, hnew, hgg.one h0]
      · obtain ⟨y1, -⟩ := v2 h0
        rw [y1, hnew, hb.lam]
        show comb _ 1 (wth (decide (s.lam < s.lam)) _) = _
        rw [decide_eq_false (by omega)]
        exact comb_one hgg.rg
    · rcases List.mem_append.1 hi with h9 | h9
      · obtain ⟨n, hn, rfl⟩ := List.mem_map.1 h9
        obtain ⟨j, hj, g1, g2⟩ := hb.isIn (mem_dl.2 ⟨n, hn, rfl⟩)
        rw [g2]
        show _ ≤ _ + j ∧ _ + j < _
        omega
      · have := q3 i h9; omega
end Go.Proofs.YtjmpjfggbhongaaDoor
