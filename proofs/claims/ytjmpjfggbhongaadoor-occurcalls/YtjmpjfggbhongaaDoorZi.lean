/-
  The kit's SameTexts, SameExpr: of the same texts, of the same expressions, by contracts.
-/
import Derived.Test.YtjmpjfggbhongaaDoorZf
import Derived.BigQuiet
namespace Go.Proofs.YtjmpjfggbhongaaDoor
open Go.RowKit Go.Shelf Go.Maps
set_option linter.unusedVariables false

set_option maxRecDepth 100000 in
set_option maxHeartbeats 2000000 in
theorem sameTx_c (l : List ByteArray) (hl : l.length ≤ 3000000) (o1 o2 : Option Addr) (c1 c2 B1 B2 : Nat) (w : World) (h1 : TxIn w B1 o1 l) (h2 : TxIn w B2 o2 l) (hB1 : B1 ≤ w.heap.size) (hB2 : B2 ≤ w.heap.size) : Calls Tryd.prog 33 #[.slice o1 l.length c1, .slice o2 l.length c2] w fun e w' => e = .returned (.bool true) ∧ Below w.heap.size w w' := by
  have H1 : Hid (∀ W, Below w.heap.size w W → ∀ k (hk : k < l.length), ∃ g f, o1 = some ⟨g, f, none⟩ ∧ g < W.heap.size ∧ W.cell? ⟨g, f + k, none⟩ = some (.string l[k])) := fun W hW k hk => by
    rcases h1 with h | ⟨g, f, e2, hg, h⟩
    · rw [h] at hk; cases hk
    · exact ⟨g, f, e2, by have := hW.size; omega, (hW.cell (p := ⟨g, f + k, none⟩) (by show g < _; omega)).trans (h k hk)⟩
  have H2 : Hid (∀ W, Below w.heap.size w W → ∀ k (hk : k < l.length), ∃ g f, o2 = some ⟨g, f, none⟩ ∧ g < W.heap.size ∧ W.cell? ⟨g, f + k, none⟩ = some (.string l[k])) := fun W hW k hk => by
    rcases h2 with h | ⟨g, f, e2, hg, h⟩
    · rw [h] at hk; cases hk
    · exact ⟨g, f, e2, by have := hW.size; omega, (hW.cell (p := ⟨g, f + k, none⟩) (by show g < _; omega)).trans (h k hk)⟩
  obtain ⟨n, hn⟩ : ∃ n, l.length = n := ⟨_, rfl⟩
  have HN : Hid (l.length = n) := hn
  rw [hn]
  have hli : (n : Int) ≤ 3000000 := by rw [← hn]; omega
  clear hl hn h1 h2 hB1 hB2
  go_enter Tryd.func33, Tryd.ntmps33
  go_wp2
  go_loopw [5] (fun i wr => ∃ k : Nat, k ≤ n ∧ i = .int .i64 k ∧ Hid (Below w.heap.size w wr)) (fun i _ => n - (intOf i).toNat)
  case atStart => exact ⟨0, Nat.zero_le _, rfl, Below.refl _ _⟩
  case round =>
    obtain ⟨k, hk, rfl, hB⟩ := hrel
    by_cases hkn : k < n
    · have hkl : k < l.length := by rw [HN.out]; exact hkn
      obtain ⟨g1, f1, rfl, l1, t1⟩ := H1.out wr hB.out k hkl
      obtain ⟨g2, f2, rfl, l2, t2⟩ := H2.out wr hB.out k hkl
      generalize l[k] = x at t1 t2
      clear hk hkl H1 H2
      go_wp2
      go_big_quiet (fail)
      go_wp2
      go_roundw
      case rel => exact ⟨k + 1, hkn, by go_num, ⟨hB.out.os, hB.out.tape, hB.out.output, hB.out.size, hB.out.block⟩⟩
      case measure => simp [intOf]; omega
    · go_wp2
      go_ret
      exact ⟨rfl, hB.out⟩
/-- What SameExpr does with two expressions that are the same. -/
def SmE (d : Nat) : Prop := ∀ (t : Tr d) (va vb : Value) (B1 B2 : Nat) (w : World), ExVd w B1 d t va → ExVd w B2 d t vb → B1 ≤ w.heap.size → B2 ≤ w.heap.size → wM d t ≤ 3000000 →
  Calls Tryd.prog 19 #[va, vb] w fun e w' => e = .returned (.bool true) ∧ Below w.heap.size w w'
theorem two_new {W : World} {a b : Array Value} {T : TypeId} : Blk (((W.alloc (.cells a T)).alloc (.cells b T)).drew) W.heap.size a T ∧ Blk (((W.alloc (.cells a T)).alloc (.cells b T)).drew) (W.heap.size + 1) b T ∧ Below W.heap.size W (((W.alloc (.cells a T)).alloc (.cells b T)).drew) := by
  have e1 : (W.alloc (.cells a T)).heap.size = W.heap.size + 1 := Array.size_push _
  have b1 := below1 W (.cells a T)
  have b2 := below1 (W.alloc (.cells a T)) (.cells b T)
  exact ⟨(Blk.new W a T).below b2.drew, by rw [← e1]; exact Blk.new (W.alloc (.cells a T)) b T, (b1.trans (b2.mono b1.size)).drew⟩
set_option maxHeartbeats 32000000 in
set_option maxRecDepth 100000 in
theorem sameEx_succ (d : Nat) (ih : SmE d) (t : Tr (d + 1)) (va vb : Value) (B1 B2 : Nat) (w : World) (ha : ExVal w B1 d t va) (hb : ExVal w B2 d t vb) (hB1 : B1 ≤ w.heap.size) (hB2 : B2 ≤ w.heap.size) (ht : wM (d + 1) t ≤ 3000000) :
    Calls Tryd.prog 19 #[va, vb] w fun e w' => e = .returned (.bool true) ∧ Below w.heap.size w w' := by
  obtain ⟨o3, c3, o4, c4, o5, c5, o6, c6, ea, k3, k4, k5, k6⟩ := ha
  obtain ⟨r3, s3, r4, s4, r5, s5, r6, s6, eb, h3, h4, h5, h6⟩ := hb
  subst ea eb
  have hM := wM_succ t
  have hmem : ∀ {α : Type} (f : α → Nat) (l : List α) (k : Nat) (h : k < l.length), f l[k] ≤ (l.map f).sum := fun f l k h => by
    have h1 := take_sum f l k h
    have h2 := take_le f l (k + 1)
    omega
  have lenP : (TrN.params t).length ≤ (bndM t).length := by simp [bndM]
  have lenB : (TrN.binds t).length ≤ (bndM t).length := by simp [bndM]
  have lenA : (TrN.args t).length ≤ ((TrN.args t).map (wM d)).sum := len_le_sum _ _ (fun x _ => wM_pos d x)
  have lenL : (TrN.alts t).length ≤ ((TrN.alts t).map (fun a => 4 * a.1.vars.length + wM d a.2)).sum := len_le_sum _ _ (fun x _ => by have := wM_pos d x.2; omega)
  have HTx : Hid (∀ W, Below w.heap.size w W → Calls Tryd.prog 33 #[.slice o3 (TrN.params t).length c3, .slice r3 (TrN.params t).length s3] W fun e w' => e = .returned (.bool true) ∧ Below W.heap.size W w') := fun W hW => sameTx_c _ (by omega) _ _ _ _ B1 B2 W (k3.same (fun g off hg => hW.cell (p := ⟨g, off, none⟩) (by show g < w.heap.size; omega))) (h3.same (fun g off hg => hW.cell (p := ⟨g, off, none⟩) (by show g < w.heap.size; omega))) (by have := hW.size; omega) (by have := hW.size; omega)
  obtain ⟨n3, hn3⟩ : ∃ n, (TrN.params t).length = n := ⟨_, rfl⟩
  obtain ⟨nb, hnb⟩ : ∃ n, (TrN.binds t).length = n := ⟨_, rfl⟩
  obtain ⟨na, hna⟩ : ∃ n, (TrN.args t).length = n := ⟨_, rfl⟩
  obtain ⟨nl, hnl⟩ : ∃ n, (TrN.alts t).length = n := ⟨_, rfl⟩
  obtain ⟨em, hem⟩ : ∃ n, TrN.name t = n := ⟨_, rfl⟩
  obtain ⟨kd, hkd⟩ : ∃ n, TrN.kind t = n := ⟨_, rfl⟩
  obtain ⟨nu, hnu⟩ : ∃ n, TrN.num t = n := ⟨_, rfl⟩
  rw [hn3] at HTx
  rw [hn3, hnb, hna, hnl, hem, hkd, hnu]
  obtain ⟨V, hV⟩ : ∃ V, (w.alloc (.cells #[.int .i64 kd, .string em, .int .i64 nu, .slice o3 n3 c3, .slice o4 nb c4, .slice o5 na c5, .slice o6 nl c6] 29)).alloc (.cells #[.int .i64 kd, .string em, .int .i64 nu, .slice r3 n3 s3, .slice r4 nb s4, .slice r5 na s5, .slice r6 nl s6] 29) = V := ⟨_, rfl⟩
  have e1 : (w.alloc (.cells #[.int .i64 kd, .string em, .int .i64 nu, .slice o3 n3 c3, .slice o4 nb c4, .slice o5 na c5, .slice o6 nl c6] 29)).heap.size = w.heap.size + 1 := Array.size_push _
  have b1 := below1 w (.cells #[.int .i64 kd, .string em, .int .i64 nu, .slice o3 n3 c3, .slice o4 nb c4, .slice o5 na c5, .slice o6 nl c6] 29)
  have b2 := below1 (w.alloc (.cells #[.int .i64 kd, .string em, .int .i64 nu, .slice o3 n3 c3, .slice o4 nb c4, .slice o5 na c5, .slice o6 nl c6] 29)) (.cells #[.int .i64 kd, .string em, .int .i64 nu, .slice r3 n3 s3, .slice r4 nb s4, .slice r5 na s5, .slice r6 nl s6] 29)
  have bV : Below w.heap.size w V := by rw [← hV]; exact b1.trans (b2.mono b1.size)
  have kA : Blk V w.heap.size #[.int .i64 kd, .string em, .int .i64 nu, .slice o3 n3 c3, .slice o4 nb c4, .slice o5 na c5, .slice o6 nl c6] 29 := by rw [← hV]; exact (Blk.new w _ _).below b2
  have kB : Blk V (w.heap.size + 1) #[.int .i64 kd, .string em, .int .i64 nu, .slice r3 n3 s3, .slice r4 nb s4, .slice r5 na s5, .slice r6 nl s6] 29 := by rw [← hV, ← e1]; exact Blk.new _ _ _
  obtain ⟨ab, hab⟩ : ∃ ab, w.heap.size = ab := ⟨_, rfl⟩
  obtain ⟨bb, hbb⟩ : ∃ bb, w.heap.size + 1 = bb := ⟨_, rfl⟩
  have hbb' : ab + 1 = bb := by rw [← hab]; exact hbb
  have hsame : ∀ W, Below w.heap.size w W → ∀ g off, g < w.heap.size → W.cell? ⟨g, off, none⟩ = w.cell? ⟨g, off, none⟩ := fun W hW g off hg => hW.cell (p := ⟨g, off, none⟩) hg
  obtain ⟨PB, hPB⟩ : ∃ P : World → Prop, (fun W => Blk W ab #[.int .i64 kd, .string em, .int .i64 nu, .slice o3 n3 c3, .slice o4 nb c4, .slice o5 na c5, .slice o6 nl c6] 29 ∧ Blk W bb #[.int .i64 kd, .string em, .int .i64 nu, .slice r3 n3 s3, .slice r4 nb s4, .slice r5 na s5, .slice r6 nl s6] 29 ∧ Below w.heap.size w W) = P := ⟨_, rfl⟩
  have HC : Hid (∀ W, PB W → W.cell? ⟨ab, 0, none⟩ = some (.int .i64 kd) ∧ W.cell? ⟨ab, 1, none⟩ = some (.string em) ∧ W.cell? ⟨ab, 2, none⟩ = some (.int .i64 nu) ∧ W.cell? ⟨ab, 3, none⟩ = some (.slice o3 n3 c3) ∧ W.cell? ⟨ab, 4, none⟩ = some (.slice o4 nb c4) ∧ W.cell? ⟨ab, 5, none⟩ = some (.slice o5 na c5) ∧ W.cell? ⟨ab, 6, none⟩ = some (.slice o6 nl c6) ∧ W.cell? ⟨bb, 0, none⟩ = some (.int .i64 kd) ∧ W.cell? ⟨bb, 1, none⟩ = some (.string em) ∧ W.cell? ⟨bb, 2, none⟩ = some (.int .i64 nu) ∧ W.cell? ⟨bb, 3, none⟩ = some (.slice r3 n3 s3) ∧ W.cell? ⟨bb, 4, none⟩ = some (.slice r4 nb s4) ∧ W.cell? ⟨bb, 5, none⟩ = some (.slice r5 na s5) ∧ W.cell? ⟨bb, 6, none⟩ = some (.slice r6 nl s6) ∧ ab < W.heap.size ∧ bb < W.heap.size) := by
    intro W hW
    rw [← hPB] at hW
    obtain ⟨h, k, -⟩ := hW
    exact ⟨h.cell 0 _ rfl, h.cell 1 _ rfl, h.cell 2 _ rfl, h.cell 3 _ rfl, h.cell 4 _ rfl, h.cell 5 _ rfl, h.cell 6 _ rfl, k.cell 0 _ rfl, k.cell 1 _ rfl, k.cell 2 _ rfl, k.cell 3 _ rfl, k.cell 4 _ rfl, k.cell 5 _ rfl, k.cell 6 _ rfl, h.lt, k.lt⟩
  have HPB : Hid (∀ W, PB W → Below w.heap.size w W) := fun W hW => by rw [← hPB] at hW; exact hW.2.2
  have HKV : Hid (PB V) := by
    have h : PB V := by rw [← hPB]; exact ⟨by rw [← hab]; exact kA, by rw [← hbb]; exact kB, bV⟩
    exact h
  have HKb : Hid (∀ W W', PB W → Below W.heap.size W W' → PB W') := fun W W' h hb => by
    rw [← hPB] at h ⊢
    exact ⟨h.1.below hb, h.2.1.below hb, h.2.2.trans (hb.mono h.2.2.size)⟩
  replace HTx : Hid (∀ W, PB W → Calls Tryd.prog 33 #[.slice o3 n3 c3, .slice r3 n3 s3] W fun e w' => e = .returned (.bool true) ∧ Below W.heap.size W w') := fun W hW => HTx.out W (HPB.out W hW)
  have HBn : Hid (∀ k (hk : k < (TrN.binds t).length), ∃ y g off g' off', o4 = some ⟨g, off, none⟩ ∧ r4 = some ⟨g', off', none⟩ ∧ ∀ W, PB W → g < W.heap.size ∧ g' < W.heap.size ∧ W.cell? ⟨g, off + k * 8, none⟩ = some (.string y) ∧ W.cell? ⟨g', off' + k * 8, none⟩ = some (.string y) ∧ Ld7 W B1 d (TrN.binds t)[k].2 g (off + k * 8 + 1) ∧ Ld7 W B2 d (TrN.binds t)[k].2 g' (off' + k * 8 + 1) ∧ ∀ va vb, ExVd W B1 d (TrN.binds t)[k].2 va → ExVd W B2 d (TrN.binds t)[k].2 vb → ∀ X, PB X → Calls Tryd.prog 19 #[va, vb] X fun e w' => e = .returned (.bool true) ∧ Below X.heap.size X w') := by
    intro k hk
    rcases k4 with h9 | ⟨g, off, e, hg, h9⟩
    · rw [h9] at hk; cases hk
    · rcases h4 with h8 | ⟨g', off', e', hg', h8⟩
      · rw [h8] at hk; cases hk
      · refine ⟨(TrN.binds t)[k].1, g, off, g', off', e, e', fun W hW => ?_⟩
        have hs := hsame W (HPB.out W hW)
        have hz := (HPB.out W hW).size
        exact ⟨by omega, by omega, (hs _ _ (by omega)).trans (h9 k hk).1, (hs _ _ (by omega)).trans (h8 k hk).1, ld7 d _ _ _ (ExAt.same (fun g off hg => hs g off (by omega)) d _ _ _ (h9 k hk).2), ld7 d _ _ _ (ExAt.same (fun g off hg => hs g off (by omega)) d _ _ _ (h8 k hk).2), fun va vb hva hvb X hX => ih _ va vb B1 B2 X (ExVd.same16 (fun g off hg => by rw [hsame X (HPB.out X hX) g off (by omega), hs g off (by omega)]) hva) (ExVd.same16 (fun g off hg => by rw [hsame X (HPB.out X hX) g off (by omega), hs g off (by omega)]) hvb) (by have := (HPB.out X hX).size; omega) (by have := (HPB.out X hX).size; omega) (by have := hmem (fun b : ByteArray × Tr d => wM d b.2) (TrN.binds t) k hk; omega)⟩
  have HAr : Hid (∀ k (hk : k < (TrN.args t).length), ∃ g off g' off', o5 = some ⟨g, off, none⟩ ∧ r5 = some ⟨g', off', none⟩ ∧ ∀ W, PB W → g < W.heap.size ∧ g' < W.heap.size ∧ Ld7 W B1 d (TrN.args t)[k] g (off + k * 7) ∧ Ld7 W B2 d (TrN.args t)[k] g' (off' + k * 7) ∧ ∀ va vb, ExVd W B1 d (TrN.args t)[k] va → ExVd W B2 d (TrN.args t)[k] vb → ∀ X, PB X → Calls Tryd.prog 19 #[va, vb] X fun e w' => e = .returned (.bool true) ∧ Below X.heap.size X w') := by
    intro k hk
    rcases k5 with h9 | ⟨g, off, e, hg, h9⟩
    · rw [h9] at hk; cases hk
    · rcases h5 with h8 | ⟨g', off', e', hg', h8⟩
      · rw [h8] at hk; cases hk
      · refine ⟨g, off, g', off', e, e', fun W hW => ?_⟩
        have hs := hsame W (HPB.out W hW)
        have hz := (HPB.out W hW).size
        exact ⟨by omega, by omega, ld7 d _ _ _ (ExAt.same (fun g off hg => hs g off (by omega)) d _ _ _ (h9 k hk)), ld7 d _ _ _ (ExAt.same (fun g off hg => hs g off (by omega)) d _ _ _ (h8 k hk)), fun va vb hva hvb X hX => ih _ va vb B1 B2 X (ExVd.same16 (fun g off hg => by rw [hsame X (HPB.out X hX) g off (by omega), hs g off (by omega)]) hva) (ExVd.same16 (fun g off hg => by rw [hsame X (HPB.out X hX) g off (by omega), hs g off (by omega)]) hvb) (by have := (HPB.out X hX).size; omega) (by have := (HPB.out X hX).size; omega) (by have := hmem (wM d) (TrN.args t) k hk; omega)⟩
  have HAl : Hid (∀ k (hk : k < (TrN.alts t).length), ∃ ak an au nv g off g' off' ov cv ov' cv', o6 = some ⟨g, off, none⟩ ∧ r6 = some ⟨g', off', none⟩ ∧ ∀ W, PB W → g < W.heap.size ∧ g' < W.heap.size ∧ W.cell? ⟨g, off + k * 11, none⟩ = some (.int .i64 ak) ∧ W.cell? ⟨g, off + k * 11 + 1, none⟩ = some (.string an) ∧ W.cell? ⟨g, off + k * 11 + 2, none⟩ = some (.int .i64 au) ∧ W.cell? ⟨g, off + k * 11 + 3, none⟩ = some (.slice ov nv cv) ∧ W.cell? ⟨g', off' + k * 11, none⟩ = some (.int .i64 ak) ∧ W.cell? ⟨g', off' + k * 11 + 1, none⟩ = some (.string an) ∧ W.cell? ⟨g', off' + k * 11 + 2, none⟩ = some (.int .i64 au) ∧ W.cell? ⟨g', off' + k * 11 + 3, none⟩ = some (.slice ov' nv cv') ∧ Ld7 W B1 d (TrN.alts t)[k].2 g (off + k * 11 + 4) ∧ Ld7 W B2 d (TrN.alts t)[k].2 g' (off' + k * 11 + 4) ∧ (∀ X, PB X → Calls Tryd.prog 33 #[.slice ov nv cv, .slice ov' nv cv'] X fun e w' => e = .returned (.bool true) ∧ Below X.heap.size X w') ∧ ∀ va vb, ExVd W B1 d (TrN.alts t)[k].2 va → ExVd W B2 d (TrN.alts t)[k].2 vb → ∀ X, PB X → Calls Tryd.prog 19 #[va, vb] X fun e w' => e = .returned (.bool true) ∧ Below X.heap.size X w') := by
    intro k hk
    rcases k6 with h9 | ⟨g, off, e, hg, h9⟩
    · rw [h9] at hk; cases hk
    · rcases h6 with h8 | ⟨g', off', e', hg', h8⟩
      · rw [h8] at hk; cases hk
      · obtain ⟨x0, x1, x2, ⟨ov, cv, x3, x4⟩, x5⟩ := h9 k hk
        obtain ⟨y0, y1, y2, ⟨ov', cv', y3, y4⟩, y5⟩ := h8 k hk
        have hm := hmem (fun a : AltH × Tr d => 4 * a.1.vars.length + wM d a.2) (TrN.alts t) k hk
        refine ⟨(TrN.alts t)[k].1.kind, (TrN.alts t)[k].1.name, (TrN.alts t)[k].1.num, (TrN.alts t)[k].1.vars.length, g, off, g', off', ov, cv, ov', cv', e, e', fun W hW => ?_⟩
        have hs := hsame W (HPB.out W hW)
        have hz := (HPB.out W hW).size
        exact ⟨by omega, by omega, (hs _ _ (by omega)).trans x0, (hs _ _ (by omega)).trans x1, (hs _ _ (by omega)).trans x2, (hs _ _ (by omega)).trans x3, (hs _ _ (by omega)).trans y0, (hs _ _ (by omega)).trans y1, (hs _ _ (by omega)).trans y2, (hs _ _ (by omega)).trans y3,
          ld7 d _ _ _ (ExAt.same (fun g off hg => hs g off (by omega)) d _ _ _ x5), ld7 d _ _ _ (ExAt.same (fun g off hg => hs g off (by omega)) d _ _ _ y5),
          fun X hX => sameTx_c _ (by omega) _ _ _ _ B1 B2 X (x4.same (fun g off hg => hsame X (HPB.out X hX) g off (by omega))) (y4.same (fun g off hg => hsame X (HPB.out X hX) g off (by omega))) (by have := (HPB.out X hX).size; omega) (by have := (HPB.out X hX).size; omega),
          fun va vb hva hvb X hX => ih _ va vb B1 B2 X (ExVd.same16 (fun g off hg => by rw [hsame X (HPB.out X hX) g off (by omega), hs g off (by omega)]) hva) (ExVd.same16 (fun g off hg => by rw [hsame X (HPB.out X hX) g off (by omega), hs g off (by omega)]) hvb) (by have := (HPB.out X hX).size; omega) (by have := (HPB.out X hX).size; omega) (by omega)⟩
  have HN : Hid ((TrN.binds t).length = nb ∧ (TrN.args t).length = na ∧ (TrN.alts t).length = nl) := ⟨hnb, hna, hnl⟩
  have hnbI : (nb : Int) ≤ 3000000 := by omega
  have hnaI : (na : Int) ≤ 3000000 := by omega
  have hnlI : (nl : Int) ≤ 3000000 := by omega
  have HVe : Hid ((w.alloc (.cells #[.int .i64 kd, .string em, .int .i64 nu, .slice o3 n3 c3, .slice o4 nb c4, .slice o5 na c5, .slice o6 nl c6] 29)).alloc (.cells #[.int .i64 kd, .string em, .int .i64 nu, .slice r3 n3 s3, .slice r4 nb s4, .slice r5 na s5, .slice r6 nl s6] 29) = V ∧ w.heap.size = ab ∧ w.heap.size + 1 = bb) := ⟨hV, hab, hbb⟩
  clear k3 k4 k5 k6 h3 h4 h5 h6 hB1 hB2 ht hM hmem lenP lenB lenA lenL hn3 hnb hna hnl hem hkd hnu e1 b1 b2 bV kA kB hV hab hbb hsame hPB ih
  go_enter Tryd.func19, Tryd.ntmps19
  go_upto_region 1 with fail
  rw [HVe.out.1, HVe.out.2.2, HVe.out.2.1]
  obtain ⟨q0, q1, q2, q3, q4, q5, q6, rr0, rr1, rr2, rr3, rr4, rr5, rr6, qa, qb⟩ := HC.out V HKV.out
  have HT0 := HTx.out V HKV.out
  have HT : Hid (Calls Tryd.prog 33 #[.slice o3 n3 c3, .slice r3 n3 s3] V fun e w' => e = .returned (.bool true) ∧ Below V.heap.size V w') := HT0
  clear HT0
  go_wp2_with (go_at_call 33; fail)
  refine HT.out.mono ?_
  rintro e y0 ⟨rfl, hb⟩
  have HK0 : Hid (PB y0) := HKb.out _ _ HKV.out hb
  clear hb HT HTx q0 q1 q2 q3 q4 q5 q6 rr0 rr1 rr2 rr3 rr4 rr5 rr6 qa qb
  obtain ⟨q0, q1, q2, q3, q4, q5, q6, rr0, rr1, rr2, rr3, rr4, rr5, rr6, qa, qb⟩ := HC.out y0 HK0.out
  go_wp2
  clear q0 q1 q2 q3 q4 q5 q6 rr0 rr1 rr2 rr3 rr4 rr5 rr6 qa qb HKV
  go_loopw [5] (fun i wr => ∃ k : Nat, k ≤ nb ∧ i = .int .i64 k ∧ Hid (PB wr)) (fun i _ => nb - (intOf i).toNat)
  case atStart => exact ⟨0, Nat.zero_le _, rfl, HK0⟩
  case round =>
    clear HK0
    obtain ⟨k, hk, rfl, hS⟩ := hrel
    by_cases hkn : k < nb
    · have hkl : k < (TrN.binds t).length := by rw [HN.out.1]; exact hkn
      obtain ⟨y, g, off, g', off', rfl, rfl, hX⟩ := HBn.out k hkl
      obtain ⟨hg, hg', y1, y2, hl1, hl2, hcall⟩ := hX wr hS.out
      obtain ⟨k0, k1, k2, p3, l3, m3, p4, l4, m4, p5, l5, m5, p6, l6, m6, z0, z1, z2, z3, z4, z5, z6, zv⟩ := hl1
      obtain ⟨j0, j1, j2, t3, u3, v3, t4, u4, v4, t5, u5, v5, t6, u6, v6, x0, x1, x2, x3, x4, x5, x6, xv⟩ := hl2
      have HCl : Hid (∀ X, Hid (PB X) → Calls Tryd.prog 19 #[.agg #[.int .i64 k0, .string k1, .int .i64 k2, .slice p3 l3 m3, .slice p4 l4 m4, .slice p5 l5 m5, .slice p6 l6 m6], .agg #[.int .i64 j0, .string j1, .int .i64 j2, .slice t3 u3 v3, .slice t4 u4 v4, .slice t5 u5 v5, .slice t6 u6 v6]] X fun e w' => e = .returned (.bool true) ∧ Below X.heap.size X w') := fun X h => hcall _ _ zv xv X h.out
      have HKP : Hid (∀ X, Hid (PB X) → Below wr.heap.size wr X → Hid (PB X) ∧ X.cell? ⟨ab, 4, none⟩ = some (.slice (some ⟨g, off, none⟩) nb c4) ∧ X.cell? ⟨bb, 4, none⟩ = some (.slice (some ⟨g', off', none⟩) nb s4) ∧ X.cell? ⟨g, off + k * 8, none⟩ = some (.string y) ∧ X.cell? ⟨g', off' + k * 8, none⟩ = some (.string y) ∧ X.cell? ⟨g, off + k * 8 + 1, none⟩ = some (.int .i64 k0) ∧ X.cell? ⟨g, off + k * 8 + 1 + 1, none⟩ = some (.string k1) ∧ X.cell? ⟨g, off + k * 8 + 1 + 2, none⟩ = some (.int .i64 k2) ∧ X.cell? ⟨g, off + k * 8 + 1 + 3, none⟩ = some (.slice p3 l3 m3) ∧ X.cell? ⟨g, off + k * 8 + 1 + 4, none⟩ = some (.slice p4 l4 m4) ∧ X.cell? ⟨g, off + k * 8 + 1 + 5, none⟩ = some (.slice p5 l5 m5) ∧ X.cell? ⟨g, off + k * 8 + 1 + 6, none⟩ = some (.slice p6 l6 m6) ∧ X.cell? ⟨g', off' + k * 8 + 1, none⟩ = some (.int .i64 j0) ∧ X.cell? ⟨g', off' + k * 8 + 1 + 1, none⟩ = some (.string j1) ∧ X.cell? ⟨g', off' + k * 8 + 1 + 2, none⟩ = some (.int .i64 j2) ∧ X.cell? ⟨g', off' + k * 8 + 1 + 3, none⟩ = some (.slice t3 u3 v3) ∧ X.cell? ⟨g', off' + k * 8 + 1 + 4, none⟩ = some (.slice t4 u4 v4) ∧ X.cell? ⟨g', off' + k * 8 + 1 + 5, none⟩ = some (.slice t5 u5 v5) ∧ X.cell? ⟨g', off' + k * 8 + 1 + 6, none⟩ = some (.slice t6 u6 v6)) := fun X h hb => by
        obtain ⟨q0, q1, q2, q3, q4, q5, q6, rr0, rr1, rr2, rr3, rr4, rr5, rr6, qa, qb⟩ := HC.out X h.out
        have hc : ∀ g off v, g < wr.heap.size → wr.cell? ⟨g, off, none⟩ = some v → X.cell? ⟨g, off, none⟩ = some v := fun g off v hg e => (hb.cell (p := ⟨g, off, none⟩) hg).trans e
        exact ⟨h, q4, rr4, hc _ _ _ hg y1, hc _ _ _ hg' y2, hc _ _ _ hg z0, hc _ _ _ hg z1, hc _ _ _ hg z2, hc _ _ _ hg z3, hc _ _ _ hg z4, hc _ _ _ hg z5, hc _ _ _ hg z6, hc _ _ _ hg' x0, hc _ _ _ hg' x1, hc _ _ _ hg' x2, hc _ _ _ hg' x3, hc _ _ _ hg' x4, hc _ _ _ hg' x5, hc _ _ _ hg' x6⟩
      obtain ⟨q0, q1, q2, q3, q4, q5, q6, rr0, rr1, rr2, rr3, rr4, rr5, rr6, qa, qb⟩ := HC.out wr hS.out
      clear hX hcall zv xv hkl
      have hS9 : Hid (PB wr.drew) := HKb.out _ _ hS.out ((Below.refl _ _).drew)
      have hB9 : Hid (Below wr.heap.size wr wr.drew) := (Below.refl _ _).drew
      go_upto_region 6 with fail
      refine wp_region_held_drew (S := fun X : World => Hid (PB X) ∧ X.cell? ⟨ab, 4, none⟩ = some (.slice (some ⟨g, off, none⟩) nb c4) ∧ X.cell? ⟨bb, 4, none⟩ = some (.slice (some ⟨g', off', none⟩) nb s4) ∧ X.cell? ⟨g, off + k * 8, none⟩ = some (.string y) ∧ X.cell? ⟨g', off' + k * 8, none⟩ = some (.string y) ∧ X.cell? ⟨g, off + k * 8 + 1, none⟩ = some (.int .i64 k0) ∧ X.cell? ⟨g, off + k * 8 + 1 + 1, none⟩ = some (.string k1) ∧ X.cell? ⟨g, off + k * 8 + 1 + 2, none⟩ = some (.int .i64 k2) ∧ X.cell? ⟨g, off + k * 8 + 1 + 3, none⟩ = some (.slice p3 l3 m3) ∧ X.cell? ⟨g, off + k * 8 + 1 + 4, none⟩ = some (.slice p4 l4 m4) ∧ X.cell? ⟨g, off + k * 8 + 1 + 5, none⟩ = some (.slice p5 l5 m5) ∧ X.cell? ⟨g, off + k * 8 + 1 + 6, none⟩ = some (.slice p6 l6 m6) ∧ X.cell? ⟨g', off' + k * 8 + 1, none⟩ = some (.int .i64 j0) ∧ X.cell? ⟨g', off' + k * 8 + 1 + 1, none⟩ = some (.string j1) ∧ X.cell? ⟨g', off' + k * 8 + 1 + 2, none⟩ = some (.int .i64 j2) ∧ X.cell? ⟨g', off' + k * 8 + 1 + 3, none⟩ = some (.slice t3 u3 v3) ∧ X.cell? ⟨g', off' + k * 8 + 1 + 4, none⟩ = some (.slice t4 u4 v4) ∧ X.cell? ⟨g', off' + k * 8 + 1 + 5, none⟩ = some (.slice t5 u5 v5) ∧ X.cell? ⟨g', off' + k * 8 + 1 + 6, none⟩ = some (.slice t6 u6 v6)) (by kernel_rfl) (HKP.out _ hS9 hB9.out) (fun hHeld => ?_)
      generalize wr.drew = x0' at hS9 hB9 hHeld ⊢
      clear q0 q1 q2 q3 q4 q5 q6 rr0 rr1 rr2 rr3 rr4 rr5 rr6 qa qb z0 z1 z2 z3 z4 z5 z6 x0 x1 x2 x3 x4 x5 x6 hg hg' y1 y2
      refine wpAnyH_take (i := 0) (v := .pointer (some ⟨ab, 4, none⟩)) rfl (by kernel_rfl) (by kernel_rfl) (by kernel_rfl) (fun _ _ _ h => h) (Or.inl ⟨by kernel_rfl, fun X hX => ?_⟩) (by assumption) ?_
      · clear hX; go_simp
      try simp only [Act.put, List.setIfInBounds_toArray]
      refine wpAnyH_take (i := 1) (v := .slice (some ⟨g, off, none⟩) nb c4) rfl (by kernel_rfl) (by kernel_rfl) (by kernel_rfl) (fun _ _ _ h => h) (Or.inl ⟨by kernel_rfl, fun X hX => ?_⟩) (by assumption) ?_
      · obtain ⟨-, q0, -, -, -, -, -, -, -, -, -, -, -, -, -, -, -, -, -⟩ := hX; go_simp
      try simp only [Act.put]
      refine wpAnyH_take (i := 2) (v := .int .i64 k) rfl (by kernel_rfl) (by kernel_rfl) (by kernel_rfl) (fun _ _ _ h => h) (Or.inl ⟨by kernel_rfl, fun X hX => ?_⟩) (by assumption) ?_
      · clear hX; go_simp
      try simp only [Act.put]
      refine wpAnyH_take (i := 3) (v := .pointer (some ⟨g, off + k * 8, none⟩)) rfl (by kernel_rfl) (by kernel_rfl) (by kernel_rfl) (fun _ _ _ h => h) (Or.inl ⟨by kernel_rfl, fun X hX => ?_⟩) (by assumption) ?_
      · clear hX; go_simp
      try simp only [Act.put]
      refine wpAnyH_take (i := 4) (v := .pointer (some ⟨g, off + k * 8, none⟩)) rfl (by kernel_rfl) (by kernel_rfl) (by kernel_rfl) (fun _ _ _ h => h) (Or.inl ⟨by kernel_rfl, fun X hX => ?_⟩) (by assumption) ?_
      · clear hX; go_simp
      try simp only [Act.put]
      refine wpAnyH_take (i := 5) (v := .string y) rfl (by kernel_rfl) (by kernel_rfl) (by kernel_rfl) (fun _ _ _ h => h) (Or.inl ⟨by kernel_rfl, fun X hX => ?_⟩) (by assumption) ?_
      · obtain ⟨-, -, -, q2, -, -, -, -, -, -, -, -, -, -, -, -, -, -, -⟩ := hX; go_simp
      try simp only [Act.put]
      refine wpAnyH_take (i := 6) (v := .pointer (some ⟨bb, 4, none⟩)) rfl (by kernel_rfl) (by kernel_rfl) (by kernel_rfl) (fun _ _ _ h => h) (Or.inl ⟨by kernel_rfl, fun X hX => ?_⟩) (by assumption) ?_
      · clear hX; go_simp
      try simp only [Act.put]
      refine wpAnyH_take (i := 7) (v := .slice (some ⟨g', off', none⟩) nb s4) rfl (by kernel_rfl) (by kernel_rfl) (by kernel_rfl) (fun _ _ _ h => h) (Or.inl ⟨by kernel_rfl, fun X hX => ?_⟩) (by assumption) ?_
      · obtain ⟨-, -, q1, -, -, -, -, -, -, -, -, -, -, -, -, -, -, -, -⟩ := hX; go_simp
      try simp only [Act.put]
      refine wpAnyH_take (i := 8) (v := .int .i64 k) rfl (by kernel_rfl) (by kernel_rfl) (by kernel_rfl) (fun _ _ _ h => h) (Or.inl ⟨by kernel_rfl, fun X hX => ?_⟩) (by assumption) ?_
      · clear hX; go_simp
      try simp only [Act.put]
      refine wpAnyH_take (i := 9) (v := .pointer (some ⟨g', off' + k * 8, none⟩)) rfl (by kernel_rfl) (by kernel_rfl) (by kernel_rfl) (fun _ _ _ h => h) (Or.inl ⟨by kernel_rfl, fun X hX => ?_⟩) (by assumption) ?_
      · clear hX; go_simp
      try simp only [Act.put]
      refine wpAnyH_take (i := 10) (v := .pointer (some ⟨g', off' + k * 8, none⟩)) rfl (by kernel_rfl) (by kernel_rfl) (by kernel_rfl) (fun _ _ _ h => h) (Or.inl ⟨by kernel_rfl, fun X hX => ?_⟩) (by assumption) ?_
      · clear hX; go_simp
      try simp only [Act.put]
      refine wpAnyH_take (i := 11) (v := .string y) rfl (by kernel_rfl) (by kernel_rfl) (by kernel_rfl) (fun _ _ _ h => h) (Or.inl ⟨by kernel_rfl, fun X hX => ?_⟩) (by assumption) ?_
      · obtain ⟨-, -, -, -, q3, -, -, -, -, -, -, -, -, -, -, -, -, -, -⟩ := hX; go_simp
      try simp only [Act.put]
      refine wpAnyH_take (i := 12) (v := .bool false) rfl (by kernel_rfl) (by kernel_rfl) (by kernel_rfl) (fun _ _ _ h => h) (Or.inl ⟨by kernel_rfl, fun X hX => ?_⟩) (by assumption) ?_
      · clear hX; go_simp
      try simp only [Act.put]
      refine wpAnyH_take (i := 13) (v := .bool false) rfl (by kernel_rfl) (by kernel_rfl) (by kernel_rfl) (fun _ _ _ h => h) (Or.inl ⟨by kernel_rfl, fun X hX => ?_⟩) (by assumption) ?_
      · clear hX; go_simp
      try simp only [Act.put]
      refine wpAnyH_take (i := 14) (v := .pointer (some ⟨ab, 4, none⟩)) rfl (by kernel_rfl) (by kernel_rfl) (by kernel_rfl) (fun _ _ _ h => h) (Or.inl ⟨by kernel_rfl, fun X hX => ?_⟩) (by assumption) ?_
      · clear hX; go_simp
      try simp only [Act.put]
      refine wpAnyH_take (i := 15) (v := .slice (some ⟨g, off, none⟩) nb c4) rfl (by kernel_rfl) (by kernel_rfl) (by kernel_rfl) (fun _ _ _ h => h) (Or.inl ⟨by kernel_rfl, fun X hX => ?_⟩) (by assumption) ?_
      · obtain ⟨-, q0, -, -, -, -, -, -, -, -, -, -, -, -, -, -, -, -, -⟩ := hX; go_simp
      try simp only [Act.put]
      refine wpAnyH_take (i := 16) (v := .int .i64 k) rfl (by kernel_rfl) (by kernel_rfl) (by kernel_rfl) (fun _ _ _ h => h) (Or.inl ⟨by kernel_rfl, fun X hX => ?_⟩) (by assumption) ?_
      · clear hX; go_simp
      try simp only [Act.put]
      refine wpAnyH_take (i := 17) (v := .pointer (some ⟨g, off + k * 8, none⟩)) rfl (by kernel_rfl) (by kernel_rfl) (by kernel_rfl) (fun _ _ _ h => h) (Or.inl ⟨by kernel_rfl, fun X hX => ?_⟩) (by assumption) ?_
      · clear hX; go_simp
      try simp only [Act.put]
      refine wpAnyH_take (i := 18) (v := .pointer (some ⟨g, off + k * 8 + 1, none⟩)) rfl (by kernel_rfl) (by kernel_rfl) (by kernel_rfl) (fun _ _ _ h => h) (Or.inl ⟨by kernel_rfl, fun X hX => ?_⟩) (by assumption) ?_
      · clear hX; go_simp
      try simp only [Act.put]
      refine wpAnyH_take (i := 19) (v := .agg #[.int .i64 k0, .string k1, .int .i64 k2, .slice p3 l3 m3, .slice p4 l4 m4, .slice p5 l5 m5, .slice p6 l6 m6]) rfl (by kernel_rfl) (by kernel_rfl) (by kernel_rfl) (fun _ _ _ h => h) (Or.inl ⟨by kernel_rfl, fun X hX => ?_⟩) (by assumption) ?_
      · obtain ⟨-, -, -, -, -, q4, q5, q6, q7, q8, q9, q10, -, -, -, -, -, -, -⟩ := hX; go_simp
      try simp only [Act.put]
      refine wpAnyH_take (i := 20) (v := .pointer (some ⟨bb, 4, none⟩)) rfl (by kernel_rfl) (by kernel_rfl) (by kernel_rfl) (fun _ _ _ h => h) (Or.inl ⟨by kernel_rfl, fun X hX => ?_⟩) (by assumption) ?_
      · clear hX; go_simp
      try simp only [Act.put]
      refine wpAnyH_take (i := 21) (v := .slice (some ⟨g', off', none⟩) nb s4) rfl (by kernel_rfl) (by kernel_rfl) (by kernel_rfl) (fun _ _ _ h => h) (Or.inl ⟨by kernel_rfl, fun X hX => ?_⟩) (by assumption) ?_
      · obtain ⟨-, -, q1, -, -, -, -, -, -, -, -, -, -, -, -, -, -, -, -⟩ := hX; go_simp
      try simp only [Act.put]
      refine wpAnyH_take (i := 22) (v := .int .i64 k) rfl (by kernel_rfl) (by kernel_rfl) (by kernel_rfl) (fun _ _ _ h => h) (Or.inl ⟨by kernel_rfl, fun X hX => ?_⟩) (by assumption) ?_
      · clear hX; go_simp
      try simp only [Act.put]
      refine wpAnyH_take (i := 23) (v := .pointer (some ⟨g', off' + k * 8, none⟩)) rfl (by kernel_rfl) (by kernel_rfl) (by kernel_rfl) (fun _ _ _ h => h) (Or.inl ⟨by kernel_rfl, fun X hX => ?_⟩) (by assumption) ?_
      · clear hX; go_simp
      try simp only [Act.put]
      refine wpAnyH_take (i := 24) (v := .pointer (some ⟨g', off' + k * 8 + 1, none⟩)) rfl (by kernel_rfl) (by kernel_rfl) (by kernel_rfl) (fun _ _ _ h => h) (Or.inl ⟨by kernel_rfl, fun X hX => ?_⟩) (by assumption) ?_
      · clear hX; go_simp
      try simp only [Act.put]
      refine wpAnyH_take (i := 25) (v := .agg #[.int .i64 j0, .string j1, .int .i64 j2, .slice t3 u3 v3, .slice t4 u4 v4, .slice t5 u5 v5, .slice t6 u6 v6]) rfl (by kernel_rfl) (by kernel_rfl) (by kernel_rfl) (fun _ _ _ h => h) (Or.inl ⟨by kernel_rfl, fun X hX => ?_⟩) (by assumption) ?_
      · obtain ⟨-, -, -, -, -, -, -, -, -, -, -, -, q11, q12, q13, q14, q15, q16, q17⟩ := hX; go_simp
      try simp only [Act.put]
      refine wpAnyH_ready (rs := [26]) (by kernel_rfl) (by simp) ?_
      refine AllReadyH.cons (o := _) rfl (fun K hK => ?_) AllReadyH.nil
      go_simp
      go_at_call 19
      refine (HCl.out x0' hS9).mono ?_
      rintro e x1' ⟨rfl, hb⟩
      have hS1 : Hid (PB x1') := HKb.out _ _ hS9.out hb
      have hB1' : Hid (Below wr.heap.size wr x1') := hB9.out.trans (hb.mono hB9.out.size)
      refine hK.out _ _ (HKP.out _ hS1 hB1'.out) (fun hHeld1 => ?_)
      clear hK K hb hS9 hB9 hHeld HCl HKP
      try simp only [Act.put, List.setIfInBounds_toArray, List.set_cons_zero, List.set_cons_succ]
      refine wpAnyH_take (i := 27) (v := .bool false) rfl (by kernel_rfl) (by kernel_rfl) (by kernel_rfl) (fun _ _ _ h => h) (Or.inl ⟨by kernel_rfl, fun X hX => ?_⟩) (by assumption) ?_
      · clear hX; go_simp
      try simp only [Act.put, List.setIfInBounds_toArray]
      refine wpAnyH_take (i := 28) (v := .bool false) rfl (by kernel_rfl) (by kernel_rfl) (by kernel_rfl) (fun _ _ _ h => h) (Or.inl ⟨by kernel_rfl, fun X hX => ?_⟩) (by assumption) ?_
      · clear hX; go_simp
      simp only [Act.put, List.getElem_toArray, List.getElem_cons_succ, List.getElem_cons_zero, List.setIfInBounds_toArray, List.set_cons_zero, List.set_cons_succ]
      refine wpAnyH_done (by kernel_rfl) ?_ _
      clear hHeld1 hB1'
      go_wp2
      go_roundw
      case rel => exact ⟨k + 1, hkn, by go_num, hS1⟩
      case measure => simp [intOf]; omega
    · have hke : nb = k := by omega
      subst hke
      obtain ⟨q0, q1, q2, q3, q4, q5, q6, rr0, rr1, rr2, rr3, rr4, rr5, rr6, qa, qb⟩ := HC.out wr hS.out
      go_wp2
      clear q0 q1 q2 q3 q4 q5 q6 rr0 rr1 rr2 rr3 rr4 rr5 rr6 qa qb
      go_loopw [6] (fun i wr => ∃ k : Nat, k ≤ na ∧ i = .int .i64 k ∧ Hid (PB wr)) (fun i _ => na - (intOf i).toNat)
      case atStart => exact ⟨0, Nat.zero_le _, rfl, hS⟩
      case round =>
        clear hS hk hkn
        obtain ⟨k, hk, rfl, hS⟩ := hrel
        by_cases hkn : k < na
        · have hkl : k < (TrN.args t).length := by rw [HN.out.2.1]; exact hkn
          obtain ⟨g, off, g', off', rfl, rfl, hX⟩ := HAr.out k hkl
          obtain ⟨hg, hg', hl1, hl2, hcall⟩ := hX wr hS.out
          obtain ⟨k0, k1, k2, p3, l3, m3, p4, l4, m4, p5, l5, m5, p6, l6, m6, z0, z1, z2, z3, z4, z5, z6, zv⟩ := hl1
          obtain ⟨j0, j1, j2, t3, u3, v3, t4, u4, v4, t5, u5, v5, t6, u6, v6, x0, x1, x2, x3, x4, x5, x6, xv⟩ := hl2
          have HCl : Hid (∀ X, Hid (PB X) → Calls Tryd.prog 19 #[.agg #[.int .i64 k0, .string k1, .int .i64 k2, .slice p3 l3 m3, .slice p4 l4 m4, .slice p5 l5 m5, .slice p6 l6 m6], .agg #[.int .i64 j0, .string j1, .int .i64 j2, .slice t3 u3 v3, .slice t4 u4 v4, .slice t5 u5 v5, .slice t6 u6 v6]] X fun e w' => e = .returned (.bool true) ∧ Below X.heap.size X w') := fun X h => hcall _ _ zv xv X h.out
          have HKP : Hid (∀ X, Hid (PB X) → Below wr.heap.size wr X → Hid (PB X) ∧ X.cell? ⟨ab, 5, none⟩ = some (.slice (some ⟨g, off, none⟩) na c5) ∧ X.cell? ⟨bb, 5, none⟩ = some (.slice (some ⟨g', off', none⟩) na s5) ∧ X.cell? ⟨g, off + k * 7, none⟩ = some (.int .i64 k0) ∧ X.cell? ⟨g, off + k * 7 + 1, none⟩ = some (.string k1) ∧ X.cell? ⟨g, off + k * 7 + 2, none⟩ = some (.int .i64 k2) ∧ X.cell? ⟨g, off + k * 7 + 3, none⟩ = some (.slice p3 l3 m3) ∧ X.cell? ⟨g, off + k * 7 + 4, none⟩ = some (.slice p4 l4 m4) ∧ X.cell? ⟨g, off + k * 7 + 5, none⟩ = some (.slice p5 l5 m5) ∧ X.cell? ⟨g, off + k * 7 + 6, none⟩ = some (.slice p6 l6 m6) ∧ X.cell? ⟨g', off' + k * 7, none⟩ = some (.int .i64 j0) ∧ X.cell? ⟨g', off' + k * 7 + 1, none⟩ = some (.string j1) ∧ X.cell? ⟨g', off' + k * 7 + 2, none⟩ = some (.int .i64 j2) ∧ X.cell? ⟨g', off' + k * 7 + 3, none⟩ = some (.slice t3 u3 v3) ∧ X.cell? ⟨g', off' + k * 7 + 4, none⟩ = some (.slice t4 u4 v4) ∧ X.cell? ⟨g', off' + k * 7 + 5, none⟩ = some (.slice t5 u5 v5) ∧ X.cell? ⟨g', off' + k * 7 + 6, none⟩ = some (.slice t6 u6 v6)) := fun X h hb => by
            obtain ⟨q0, q1, q2, q3, q4, q5, q6, rr0, rr1, rr2, rr3, rr4, rr5, rr6, qa, qb⟩ := HC.out X h.out
            have hc : ∀ g off v, g < wr.heap.size → wr.cell? ⟨g, off, none⟩ = some v → X.cell? ⟨g, off, none⟩ = some v := fun g off v hg e => (hb.cell (p := ⟨g, off, none⟩) hg).trans e
            exact ⟨h, q5, rr5, hc _ _ _ hg z0, hc _ _ _ hg z1, hc _ _ _ hg z2, hc _ _ _ hg z3, hc _ _ _ hg z4, hc _ _ _ hg z5, hc _ _ _ hg z6, hc _ _ _ hg' x0, hc _ _ _ hg' x1, hc _ _ _ hg' x2, hc _ _ _ hg' x3, hc _ _ _ hg' x4, hc _ _ _ hg' x5, hc _ _ _ hg' x6⟩
          obtain ⟨q0, q1, q2, q3, q4, q5, q6, rr0, rr1, rr2, rr3, rr4, rr5, rr6, qa, qb⟩ := HC.out wr hS.out
          clear hX hcall zv xv hkl
          have hS9 : Hid (PB wr.drew) := HKb.out _ _ hS.out ((Below.refl _ _).drew)
          have hB9 : Hid (Below wr.heap.size wr wr.drew) := (Below.refl _ _).drew
          go_upto_region 11 with fail
          refine wp_region_held_drew (S := fun X : World => Hid (PB X) ∧ X.cell? ⟨ab, 5, none⟩ = some (.slice (some ⟨g, off, none⟩) na c5) ∧ X.cell? ⟨bb, 5, none⟩ = some (.slice (some ⟨g', off', none⟩) na s5) ∧ X.cell? ⟨g, off + k * 7, none⟩ = some (.int .i64 k0) ∧ X.cell? ⟨g, off + k * 7 + 1, none⟩ = some (.string k1) ∧ X.cell? ⟨g, off + k * 7 + 2, none⟩ = some (.int .i64 k2) ∧ X.cell? ⟨g, off + k * 7 + 3, none⟩ = some (.slice p3 l3 m3) ∧ X.cell? ⟨g, off + k * 7 + 4, none⟩ = some (.slice p4 l4 m4) ∧ X.cell? ⟨g, off + k * 7 + 5, none⟩ = some (.slice p5 l5 m5) ∧ X.cell? ⟨g, off + k * 7 + 6, none⟩ = some (.slice p6 l6 m6) ∧ X.cell? ⟨g', off' + k * 7, none⟩ = some (.int .i64 j0) ∧ X.cell? ⟨g', off' + k * 7 + 1, none⟩ = some (.string j1) ∧ X.cell? ⟨g', off' + k * 7 + 2, none⟩ = some (.int .i64 j2) ∧ X.cell? ⟨g', off' + k * 7 + 3, none⟩ = some (.slice t3 u3 v3) ∧ X.cell? ⟨g', off' + k * 7 + 4, none⟩ = some (.slice t4 u4 v4) ∧ X.cell? ⟨g', off' + k * 7 + 5, none⟩ = some (.slice t5 u5 v5) ∧ X.cell? ⟨g', off' + k * 7 + 6, none⟩ = some (.slice t6 u6 v6)) (by kernel_rfl) (HKP.out _ hS9 hB9.out) (fun hHeld => ?_)
          generalize wr.drew = x0' at hS9 hB9 hHeld ⊢
          clear q0 q1 q2 q3 q4 q5 q6 rr0 rr1 rr2 rr3 rr4 rr5 rr6 qa qb z0 z1 z2 z3 z4 z5 z6 x0 x1 x2 x3 x4 x5 x6 hg hg'
          refine wpAnyH_take (i := 0) (v := .pointer (some ⟨ab, 5, none⟩)) rfl (by kernel_rfl) (by kernel_rfl) (by kernel_rfl) (fun _ _ _ h => h) (Or.inl ⟨by kernel_rfl, fun X hX => ?_⟩) (by assumption) ?_
          · clear hX; go_simp
          try simp only [Act.put, List.setIfInBounds_toArray]
          refine wpAnyH_take (i := 1) (v := .slice (some ⟨g, off, none⟩) na c5) rfl (by kernel_rfl) (by kernel_rfl) (by kernel_rfl) (fun _ _ _ h => h) (Or.inl ⟨by kernel_rfl, fun X hX => ?_⟩) (by assumption) ?_
          · obtain ⟨-, q0, -, -, -, -, -, -, -, -, -, -, -, -, -, -, -⟩ := hX; go_simp
          try simp only [Act.put]
          refine wpAnyH_take (i := 2) (v := .int .i64 k) rfl (by kernel_rfl) (by kernel_rfl) (by kernel_rfl) (fun _ _ _ h => h) (Or.inl ⟨by kernel_rfl, fun X hX => ?_⟩) (by assumption) ?_
          · clear hX; go_simp
          try simp only [Act.put]
          refine wpAnyH_take (i := 3) (v := .pointer (some ⟨g, off + k * 7, none⟩)) rfl (by kernel_rfl) (by kernel_rfl) (by kernel_rfl) (fun _ _ _ h => h) (Or.inl ⟨by kernel_rfl, fun X hX => ?_⟩) (by assumption) ?_
          · clear hX; go_simp
          try simp only [Act.put]
          refine wpAnyH_take (i := 4) (v := .agg #[.int .i64 k0, .string k1, .int .i64 k2, .slice p3 l3 m3, .slice p4 l4 m4, .slice p5 l5 m5, .slice p6 l6 m6]) rfl (by kernel_rfl) (by kernel_rfl) (by kernel_rfl) (fun _ _ _ h => h) (Or.inl ⟨by kernel_rfl, fun X hX => ?_⟩) (by assumption) ?_
          · obtain ⟨-, -, -, q2, q3, q4, q5, q6, q7, q8, -, -, -, -, -, -, -⟩ := hX; go_simp
          try simp only [Act.put]
          refine wpAnyH_take (i := 5) (v := .pointer (some ⟨bb, 5, none⟩)) rfl (by kernel_rfl) (by kernel_rfl) (by kernel_rfl) (fun _ _ _ h => h) (Or.inl ⟨by kernel_rfl, fun X hX => ?_⟩) (by assumption) ?_
          · clear hX; go_simp
          try simp only [Act.put]
          refine wpAnyH_take (i := 6) (v := .slice (some ⟨g', off', none⟩) na s5) rfl (by kernel_rfl) (by kernel_rfl) (by kernel_rfl) (fun _ _ _ h => h) (Or.inl ⟨by kernel_rfl, fun X hX => ?_⟩) (by assumption) ?_
          · obtain ⟨-, -, q1, -, -, -, -, -, -, -, -, -, -, -, -, -, -⟩ := hX; go_simp
          try simp only [Act.put]
          refine wpAnyH_take (i := 7) (v := .int .i64 k) rfl (by kernel_rfl) (by kernel_rfl) (by kernel_rfl) (fun _ _ _ h => h) (Or.inl ⟨by kernel_rfl, fun X hX => ?_⟩) (by assumption) ?_
          · clear hX; go_simp
          try simp only [Act.put]
          refine wpAnyH_take (i := 8) (v := .pointer (some ⟨g', off' + k * 7, none⟩)) rfl (by kernel_rfl) (by kernel_rfl) (by kernel_rfl) (fun _ _ _ h => h) (Or.inl ⟨by kernel_rfl, fun X hX => ?_⟩) (by assumption) ?_
          · clear hX; go_simp
          try simp only [Act.put]
          refine wpAnyH_take (i := 9) (v := .agg #[.int .i64 j0, .string j1, .int .i64 j2, .slice t3 u3 v3, .slice t4 u4 v4, .slice t5 u5 v5, .slice t6 u6 v6]) rfl (by kernel_rfl) (by kernel_rfl) (by kernel_rfl) (fun _ _ _ h => h) (Or.inl ⟨by kernel_rfl, fun X hX => ?_⟩) (by assumption) ?_
          · obtain ⟨-, -, -, -, -, -, -, -, -, -, q9, q10, q11, q12, q13, q14, q15⟩ := hX; go_simp
          try simp only [Act.put]
          refine wpAnyH_ready (rs := [10]) (by kernel_rfl) (by simp) ?_
          refine AllReadyH.cons (o := _) rfl (fun K hK => ?_) AllReadyH.nil
          go_simp
          go_at_call 19
          refine (HCl.out x0' hS9).mono ?_
          rintro e x1' ⟨rfl, hb⟩
          have hS1 : Hid (PB x1') := HKb.out _ _ hS9.out hb
          have hB1' : Hid (Below wr.heap.size wr x1') := hB9.out.trans (hb.mono hB9.out.size)
          refine hK.out _ _ (HKP.out _ hS1 hB1'.out) (fun hHeld1 => ?_)
          clear hK K hb hS9 hB9 hHeld HCl HKP
          try simp only [Act.put, List.setIfInBounds_toArray, List.set_cons_zero, List.set_cons_succ]
          refine wpAnyH_take (i := 11) (v := .bool false) rfl (by kernel_rfl) (by kernel_rfl) (by kernel_rfl) (fun _ _ _ h => h) (Or.inl ⟨by kernel_rfl, fun X hX => ?_⟩) (by assumption) ?_
          · clear hX; go_simp
          simp only [Act.put, List.getElem_toArray, List.getElem_cons_succ, List.getElem_cons_zero, List.setIfInBounds_toArray, List.set_cons_zero, List.set_cons_succ]
          refine wpAnyH_done (by kernel_rfl) ?_ _
          clear hHeld1 hB1'
          go_wp2
          go_roundw
          case rel => exact ⟨k + 1, hkn, by go_num, hS1⟩
          case measure => simp [intOf]; omega
        · have hke : na = k := by omega
          subst hke
          obtain ⟨q0, q1, q2, q3, q4, q5, q6, rr0, rr1, rr2, rr3, rr4, rr5, rr6, qa, qb⟩ := HC.out wr hS.out
          go_wp2
          clear q0 q1 q2 q3 q4 q5 q6 rr0 rr1 rr2 rr3 rr4 rr5 rr6 qa qb
          go_loopw [7] (fun i wr => ∃ k : Nat, k ≤ nl ∧ i = .int .i64 k ∧ Hid (PB wr)) (fun i _ => nl - (intOf i).toNat)
          case atStart => exact ⟨0, Nat.zero_le _, rfl, hS⟩
          case round =>
            clear hS hk hkn
            obtain ⟨k, hk, rfl, hS⟩ := hrel
            by_cases hkn : k < nl
            · have hkl : k < (TrN.alts t).length := by rw [HN.out.2.2]; exact hkn
              obtain ⟨ak, an, au, nv, g, off, g', off', ov, cv, ov', cv', rfl, rfl, hX⟩ := HAl.out k hkl
              obtain ⟨hg, hg', a0, a1, a2, a3, b0, b1, b2, b3, hl1, hl2, htx, hcall⟩ := hX wr hS.out
              obtain ⟨k0, k1, k2, p3, l3, m3, p4, l4, m4, p5, l5, m5, p6, l6, m6, z0, z1, z2, z3, z4, z5, z6, zv⟩ := hl1
              obtain ⟨j0, j1, j2, t3, u3, v3, t4, u4, v4, t5, u5, v5, t6, u6, v6, x0, x1, x2, x3, x4, x5, x6, xv⟩ := hl2
              have HCl : Hid (∀ X, Hid (PB X) → Calls Tryd.prog 19 #[.agg #[.int .i64 k0, .string k1, .int .i64 k2, .slice p3 l3 m3, .slice p4 l4 m4, .slice p5 l5 m5, .slice p6 l6 m6], .agg #[.int .i64 j0, .string j1, .int .i64 j2, .slice t3 u3 v3, .slice t4 u4 v4, .slice t5 u5 v5, .slice t6 u6 v6]] X fun e w' => e = .returned (.bool true) ∧ Below X.heap.size X w') := fun X h => hcall _ _ zv xv X h.out
              have HTv : Hid (∀ X, Hid (PB X) → Calls Tryd.prog 33 #[.slice ov nv cv, .slice ov' nv cv'] X fun e w' => e = .returned (.bool true) ∧ Below X.heap.size X w') := fun X h => htx X h.out
              obtain ⟨q0, q1, q2, q3, q4, q5, q6, rr0, rr1, rr2, rr3, rr4, rr5, rr6, qa, qb⟩ := HC.out wr hS.out
              clear hX hcall htx zv xv hkl
              go_upto_region 16 with fail
              go_cut [8, 9] from 126 (fun v8 v9 wx => ∃ B8 B9, v8 = .pointer (some ⟨B8, 0, none⟩) ∧ v9 = .pointer (some ⟨B9, 0, none⟩) ∧ Hid (PB wx ∧ Blk wx B8 #[.int .i64 ak, .string an, .int .i64 au, .slice ov nv cv, .int .i64 k0, .string k1, .int .i64 k2, .slice p3 l3 m3, .slice p4 l4 m4, .slice p5 l5 m5, .slice p6 l6 m6] 52 ∧ Blk wx B9 #[.int .i64 ak, .string an, .int .i64 au, .slice ov' nv cv', .int .i64 j0, .string j1, .int .i64 j2, .slice t3 u3 v3, .slice t4 u4 v4, .slice t5 u5 v5, .slice t6 u6 v6] 52))
              case first =>
                go_region
                all_goals
                  go_wp2_with fail
                  go_meet
                  refine ⟨_, _, rfl, rfl, ?_⟩
                  first | exact ⟨HKb.out _ _ hS.out two_new.2.2, two_new.1, two_new.2.1⟩ | exact ⟨HKb.out _ _ hS.out two_new.2.2, two_new.2.1, two_new.1⟩
              case rest =>
                obtain ⟨B8, B9, rfl, rfl, HR⟩ := hcut
                have hSc : Hid (PB wc) := HR.out.1
                have HR8 : Hid (∀ X, Below wc.heap.size wc X → Blk X B8 #[.int .i64 ak, .string an, .int .i64 au, .slice ov nv cv, .int .i64 k0, .string k1, .int .i64 k2, .slice p3 l3 m3, .slice p4 l4 m4, .slice p5 l5 m5, .slice p6 l6 m6] 52 ∧ Blk X B9 #[.int .i64 ak, .string an, .int .i64 au, .slice ov' nv cv', .int .i64 j0, .string j1, .int .i64 j2, .slice t3 u3 v3, .slice t4 u4 v4, .slice t5 u5 v5, .slice t6 u6 v6] 52) := fun X h => ⟨HR.out.2.1.below h, HR.out.2.2.below h⟩
                clear a0 a1 a2 a3 b0 b1 b2 b3 z0 z1 z2 z3 z4 z5 z6 x0 x1 x2 x3 x4 x5 x6 hg hg' q0 q1 q2 q3 q4 q5 q6 rr0 rr1 rr2 rr3 rr4 rr5 rr6 qa qb
                have hAA := HR.out.2.1
                have hBB := HR.out.2.2
                have a0 := hAA.cell 0 _ rfl
                have a1 := hAA.cell 1 _ rfl
                have a2 := hAA.cell 2 _ rfl
                have a3 := hAA.cell 3 _ rfl
                have a4 := hAA.cell 4 _ rfl
                have a5 := hAA.cell 5 _ rfl
                have a6 := hAA.cell 6 _ rfl
                have a7 := hAA.cell 7 _ rfl
                have a8 := hAA.cell 8 _ rfl
                have a9 := hAA.cell 9 _ rfl
                have a10 := hAA.cell 10 _ rfl
                have b0 := hBB.cell 0 _ rfl
                have b1 := hBB.cell 1 _ rfl
                have b2 := hBB.cell 2 _ rfl
                have b3 := hBB.cell 3 _ rfl
                have b4 := hBB.cell 4 _ rfl
                have b5 := hBB.cell 5 _ rfl
                have b6 := hBB.cell 6 _ rfl
                have b7 := hBB.cell 7 _ rfl
                have b8 := hBB.cell 8 _ rfl
                have b9 := hBB.cell 9 _ rfl
                have b10 := hBB.cell 10 _ rfl
                have la := hAA.lt
                have lb := hBB.lt
                have HT : Hid (Calls Tryd.prog 33 #[.slice ov nv cv, .slice ov' nv cv'] wc fun e w' => e = .returned (.bool true) ∧ Below wc.heap.size wc w') := HTv.out wc hSc
                clear hAA hBB HTv HR
                go_wp2_with (go_at_call 33; fail)
                refine HT.out.mono ?_
                rintro e y1 ⟨rfl, hb⟩
                skip
                have hS1 : Hid (PB y1) := HKb.out _ _ hSc.out hb
                obtain ⟨hAA, hBB⟩ := HR8.out y1 hb
                replace a0 := hAA.cell 0 _ rfl
                replace a1 := hAA.cell 1 _ rfl
                replace a2 := hAA.cell 2 _ rfl
                replace a3 := hAA.cell 3 _ rfl
                replace a4 := hAA.cell 4 _ rfl
                replace a5 := hAA.cell 5 _ rfl
                replace a6 := hAA.cell 6 _ rfl
                replace a7 := hAA.cell 7 _ rfl
                replace a8 := hAA.cell 8 _ rfl
                replace a9 := hAA.cell 9 _ rfl
                replace a10 := hAA.cell 10 _ rfl
                replace b0 := hBB.cell 0 _ rfl
                replace b1 := hBB.cell 1 _ rfl
                replace b2 := hBB.cell 2 _ rfl
                replace b3 := hBB.cell 3 _ rfl
                replace b4 := hBB.cell 4 _ rfl
                replace b5 := hBB.cell 5 _ rfl
                replace b6 := hBB.cell 6 _ rfl
                replace b7 := hBB.cell 7 _ rfl
                replace b8 := hBB.cell 8 _ rfl
                replace b9 := hBB.cell 9 _ rfl
                replace b10 := hBB.cell 10 _ rfl
                replace la := hAA.lt
                replace lb := hBB.lt
                have HC2 : Hid (Calls Tryd.prog 19 #[.agg #[.int .i64 k0, .string k1, .int .i64 k2, .slice p3 l3 m3, .slice p4 l4 m4, .slice p5 l5 m5, .slice p6 l6 m6], .agg #[.int .i64 j0, .string j1, .int .i64 j2, .slice t3 u3 v3, .slice t4 u4 v4, .slice t5 u5 v5, .slice t6 u6 v6]] y1 fun e w' => e = .returned (.bool true) ∧ Below y1.heap.size y1 w') := HCl.out y1 hS1
                clear hAA hBB HCl HT HR8 hb hSc hS
                go_wp2_with (go_at_call 19; fail)
                refine HC2.out.mono ?_
                rintro e y2 ⟨rfl, hb⟩
                have hS2 : Hid (PB y2) := HKb.out _ _ hS1.out hb
                clear HC2 hb hS1 a0 a1 a2 a3 a4 a5 a6 a7 a8 a9 a10 b0 b1 b2 b3 b4 b5 b6 b7 b8 b9 b10 la lb
                go_wp2
                go_roundw
                case rel => exact ⟨k + 1, hkn, by go_num, hS2⟩
                case measure => simp [intOf]; omega
            · have hke : nl = k := by omega
              subst hke
              obtain ⟨q0, q1, q2, q3, q4, q5, q6, rr0, rr1, rr2, rr3, rr4, rr5, rr6, qa, qb⟩ := HC.out wr hS.out
              go_wp2
              clear q0 q1 q2 q3 q4 q5 q6 rr0 rr1 rr2 rr3 rr4 rr5 rr6 qa qb
              go_ret
              exact ⟨rfl, HPB.out _ hS.out⟩
theorem sameEx_all : ∀ d, SmE d
  | 0 => fun t => nomatch t
  | d + 1 => fun t va vb B1 B2 w h1 h2 h3 h4 h5 => sameEx_succ d (sameEx_all d) t va vb B1 B2 w h1 h2 h3 h4 h5
end Go.Proofs.YtjmpjfggbhongaaDoor
