/-
  Is a chain brought in order so: the laws' own question, by a contract.
-/
import Derived.Test.YtppnhaacmhfenabGreatDoorGFxC
import Derived.Deep.CutRange
namespace Go.Proofs.YtppnhaacmhfenabGreatDoor
open Go.RowKit Go.Shelf Go.Maps
set_option linter.unusedVariables false

set_option maxRecDepth 100000 in
set_option maxHeartbeats 4000000 in
theorem sameS_c (a b : Nd) (oa ob : Option Addr) (ca cb : Nat) (w : World) (ha : NdIn w w.heap.size a oa ca) (hb : NdIn w w.heap.size b ob cb) :
    Calls Tryz.prog 10 #[.agg #[.int .i64 a.kind, .string (bs a.name), .int .i64 a.num, .slice oa a.kids.length ca, .int .i64 a.pos], .agg #[.int .i64 b.kind, .string (bs b.name), .int .i64 b.num, .slice ob b.kids.length cb, .int .i64 b.pos]] w fun e w' => e = .returned (.bool (sameM 256 a b)) ∧ Below w.heap.size w w' := by
  obtain ⟨V, hV⟩ : ∃ V, (w.alloc (.cells #[.int .i64 a.kind, .string (bs a.name), .int .i64 a.num, .slice oa a.kids.length ca, .int .i64 a.pos] 28)).alloc (.cells #[.int .i64 b.kind, .string (bs b.name), .int .i64 b.num, .slice ob b.kids.length cb, .int .i64 b.pos] 28) = V := ⟨_, rfl⟩
  have HV : Hid ((w.alloc (.cells #[.int .i64 a.kind, .string (bs a.name), .int .i64 a.num, .slice oa a.kids.length ca, .int .i64 a.pos] 28)).alloc (.cells #[.int .i64 b.kind, .string (bs b.name), .int .i64 b.num, .slice ob b.kids.length cb, .int .i64 b.pos] 28) = V) := hV
  have hB : Below w.heap.size w V := by rw [← hV]; exact ((Below.refl _ w).alloc (Nat.le_refl _) _).alloc (by simp) _
  have hS : V.heap.size = w.heap.size + 2 := by rw [← hV]; simp
  have B0 : Blk V w.heap.size #[.int .i64 a.kind, .string (bs a.name), .int .i64 a.num, .slice oa a.kids.length ca, .int .i64 a.pos] 28 := by rw [← hV]; exact (Blk.new w _ _).alloc _
  have B1 : Blk V (w.heap.size + 1) #[.int .i64 b.kind, .string (bs b.name), .int .i64 b.num, .slice ob b.kids.length cb, .int .i64 b.pos] 28 := by rw [← hV]; exact Blk.new2 w _ _ _
  have HC : Hid (Calls Tryz.prog 24 #[.pointer (some ⟨w.heap.size, 0, none⟩), .pointer (some ⟨w.heap.size + 1, 0, none⟩), .int .i64 256] V fun e w' => e = .returned (.bool (sameM 256 a b)) ∧ ∃ m, w' = V.drewN m) := same_c 256 a b w.heap.size 0 (w.heap.size + 1) 0 (w.heap.size + 2) V (ndAt_blk (nin_mono (ha.below hB) (by omega)) B0) (ndAt_blk (nin_mono (hb.below hB) (by omega)) B1) (by omega) (by omega) (by omega) (by decide)
  have HB : Hid (Below w.heap.size w V) := hB
  clear hV hB hS B0 B1 ha hb
  go_enter Tryz.func10, Tryz.ntmps10
  go_wp2_with (go_at_call 24; fail)
  rw [HV.out]
  refine HC.out.mono ?_
  rintro e w1 ⟨rfl, m, rfl⟩
  go_wp2
  go_ret
  exact ⟨rfl, HB.out.trans (below_drewN _ _ _)⟩

/-- What the question's first row leaves. -/
def IsR (V wx : World) (B5 B6 : Nat) (x : Nd) (ox : Option Addr) (cx : Nat) : Prop := Below V.heap.size V wx ∧ Blk wx B5 #[.int .i64 x.kind, .string (bs x.name), .int .i64 x.num, .slice ox x.kids.length cx, .int .i64 x.pos] 28 ∧ Blk wx B6 #[.int .i64 0, .int .i64 0] 33 ∧ NdIn wx wx.heap.size x ox cx
theorem isPP {V X wr : World} {x : Nd} {ox : Option Addr} {cx B5 B6 : Nat} (hV : Hid (Below V.heap.size V X)) (hB : Hid (Below X.heap.size X wr)) (hF : Hid (Fr X.heap.size wr x ox cx)) : Hid (IsR V ((wr.alloc (.cells #[.int .i64 x.kind, .string (bs x.name), .int .i64 x.num, .slice ox x.kids.length cx, .int .i64 x.pos] 28)).alloc (.cells #[.int .i64 0, .int .i64 0] 33)) (wr.heap.size) (wr.heap.size + 1) x ox cx) := by
  have hs := hV.out.size
  have hs2 := hB.out.size
  have hVw : Below V.heap.size V wr := hV.out.trans (hB.out.mono hs)
  have h1 : Below wr.heap.size wr ((wr.alloc (.cells #[.int .i64 x.kind, .string (bs x.name), .int .i64 x.num, .slice ox x.kids.length cx, .int .i64 x.pos] 28)).alloc (.cells #[.int .i64 0, .int .i64 0] 33)) := ((Below.refl _ wr).alloc (Nat.le_refl _) _).alloc (by simp) _
  exact ⟨hVw.trans (h1.mono (by omega)), (Blk.new wr _ _).alloc _, Blk.new2 wr _ _ _, nin_mono (hF.out.nin.below h1) h1.size⟩
theorem isPQ {V X wr : World} {x : Nd} {ox : Option Addr} {cx B5 B6 : Nat} (hV : Hid (Below V.heap.size V X)) (hB : Hid (Below X.heap.size X wr)) (hF : Hid (Fr X.heap.size wr x ox cx)) : Hid (IsR V ((wr.alloc (.cells #[.int .i64 0, .int .i64 0] 33)).alloc (.cells #[.int .i64 x.kind, .string (bs x.name), .int .i64 x.num, .slice ox x.kids.length cx, .int .i64 x.pos] 28)) (wr.heap.size + 1) (wr.heap.size) x ox cx) := by
  have hs := hV.out.size
  have hs2 := hB.out.size
  have hVw : Below V.heap.size V wr := hV.out.trans (hB.out.mono hs)
  have h1 : Below wr.heap.size wr ((wr.alloc (.cells #[.int .i64 0, .int .i64 0] 33)).alloc (.cells #[.int .i64 x.kind, .string (bs x.name), .int .i64 x.num, .slice ox x.kids.length cx, .int .i64 x.pos] 28)) := ((Below.refl _ wr).alloc (Nat.le_refl _) _).alloc (by simp) _
  exact ⟨hVw.trans (h1.mono (by omega)), Blk.new2 wr _ _ _, (Blk.new wr _ _).alloc _, nin_mono (hF.out.nin.below h1) h1.size⟩
theorem isOP {V X wr : World} {x : Nd} {ox : Option Addr} {cx B5 B6 : Nat} (hV : Hid (Below V.heap.size V X)) (hB : Hid (Below X.heap.size X wr)) (hF : Hid (Fr X.heap.size wr x ox cx)) (h5 : Hid (Blk wr B5 #[.int .i64 0, .string ⟨#[]⟩, .int .i64 0, .slice none 0 0, .int .i64 0] 28)) (l5' : B5 < X.heap.size) (l5 : V.heap.size ≤ B5) : Hid (IsR V ((((((wr.setCell ⟨B5, 0, none⟩ (.int .i64 x.kind)).setCell ⟨B5, 1, none⟩ (.string (bs x.name))).setCell ⟨B5, 2, none⟩ (.int .i64 x.num)).setCell ⟨B5, 3, none⟩ (.slice ox x.kids.length cx)).setCell ⟨B5, 4, none⟩ (.int .i64 x.pos)).alloc (.cells #[.int .i64 0, .int .i64 0] 33)) (B5) (wr.heap.size) x ox cx) := by
  have hs := hV.out.size
  have hs2 := hB.out.size
  have hVw : Below V.heap.size V wr := hV.out.trans (hB.out.mono hs)
  have k5 := h5.out.sets5F (.int .i64 x.kind) (.string (bs x.name)) (.int .i64 x.num) (.slice ox x.kids.length cx) (.int .i64 x.pos)
  have hb := but_sets5 wr B5 (.int .i64 x.kind) (.string (bs x.name)) (.int .i64 x.num) (.slice ox x.kids.length cx) (.int .i64 x.pos)
  have hf := hF.out.keep (lo' := 0) (Nat.zero_le _) (fun k hk hlo => hb.block k hk (by omega)) hb.size
  have hz : (((((wr.setCell ⟨B5, 0, none⟩ (.int .i64 x.kind)).setCell ⟨B5, 1, none⟩ (.string (bs x.name))).setCell ⟨B5, 2, none⟩ (.int .i64 x.num)).setCell ⟨B5, 3, none⟩ (.slice ox x.kids.length cx)).setCell ⟨B5, 4, none⟩ (.int .i64 x.pos)).heap.size = wr.heap.size := by simp
  generalize (((((wr.setCell ⟨B5, 0, none⟩ (.int .i64 x.kind)).setCell ⟨B5, 1, none⟩ (.string (bs x.name))).setCell ⟨B5, 2, none⟩ (.int .i64 x.num)).setCell ⟨B5, 3, none⟩ (.slice ox x.kids.length cx)).setCell ⟨B5, 4, none⟩ (.int .i64 x.pos)) = W5 at k5 hb hf hz ⊢
  have h1 : Below W5.heap.size W5 (W5.alloc (.cells #[.int .i64 0, .int .i64 0] 33)) := (Below.refl _ W5).alloc (Nat.le_refl _) _
  refine ⟨hVw.trans ((hb.below (by omega) (by omega)).trans (h1.mono (by omega))), k5.below h1, ?_, nin_mono (hf.nin.below h1) h1.size⟩
  rw [← hz]
  exact Blk.new W5 _ _
theorem isPO {V X wr : World} {x : Nd} {ox : Option Addr} {cx B5 B6 : Nat} (hV : Hid (Below V.heap.size V X)) (hB : Hid (Below X.heap.size X wr)) (hF : Hid (Fr X.heap.size wr x ox cx)) (h6 : Hid (Blk wr B6 #[.int .i64 0, .int .i64 0] 33)) (l6' : B6 < X.heap.size) (l6 : V.heap.size ≤ B6) : Hid (IsR V (((wr.setCell ⟨B6, 0, none⟩ (.int .i64 0)).setCell ⟨B6, 1, none⟩ (.int .i64 0)).alloc (.cells #[.int .i64 x.kind, .string (bs x.name), .int .i64 x.num, .slice ox x.kids.length cx, .int .i64 x.pos] 28)) (wr.heap.size) (B6) x ox cx) := by
  have hs := hV.out.size
  have hs2 := hB.out.size
  have hVw : Below V.heap.size V wr := hV.out.trans (hB.out.mono hs)
  have k6 := h6.out.sets2F (.int .i64 0) (.int .i64 0)
  have hb := but_sets2 wr B6 (.int .i64 0) (.int .i64 0)
  have hf := hF.out.keep (lo' := 0) (Nat.zero_le _) (fun k hk hlo => hb.block k hk (by omega)) hb.size
  have hz : ((wr.setCell ⟨B6, 0, none⟩ (.int .i64 0)).setCell ⟨B6, 1, none⟩ (.int .i64 0)).heap.size = wr.heap.size := by simp
  generalize ((wr.setCell ⟨B6, 0, none⟩ (.int .i64 0)).setCell ⟨B6, 1, none⟩ (.int .i64 0)) = W5 at k6 hb hf hz ⊢
  have h1 : Below W5.heap.size W5 (W5.alloc (.cells #[.int .i64 x.kind, .string (bs x.name), .int .i64 x.num, .slice ox x.kids.length cx, .int .i64 x.pos] 28)) := (Below.refl _ W5).alloc (Nat.le_refl _) _
  refine ⟨hVw.trans ((hb.below (by omega) (by omega)).trans (h1.mono (by omega))), ?_, k6.below h1, nin_mono (hf.nin.below h1) h1.size⟩
  rw [← hz]
  exact Blk.new W5 _ _
theorem isOO {V X wr : World} {x : Nd} {ox : Option Addr} {cx B5 B6 : Nat} (hV : Hid (Below V.heap.size V X)) (hB : Hid (Below X.heap.size X wr)) (hF : Hid (Fr X.heap.size wr x ox cx)) (h5 : Hid (Blk wr B5 #[.int .i64 0, .string ⟨#[]⟩, .int .i64 0, .slice none 0 0, .int .i64 0] 28)) (l5' : B5 < X.heap.size) (l5 : V.heap.size ≤ B5) (h6 : Hid (Blk wr B6 #[.int .i64 0, .int .i64 0] 33)) (l6' : B6 < X.heap.size) (l6 : V.heap.size ≤ B6) (hne : B5 ≠ B6) : Hid (IsR V (((((((wr.setCell ⟨B5, 0, none⟩ (.int .i64 x.kind)).setCell ⟨B5, 1, none⟩ (.string (bs x.name))).setCell ⟨B5, 2, none⟩ (.int .i64 x.num)).setCell ⟨B5, 3, none⟩ (.slice ox x.kids.length cx)).setCell ⟨B5, 4, none⟩ (.int .i64 x.pos)).setCell ⟨B6, 0, none⟩ (.int .i64 0)).setCell ⟨B6, 1, none⟩ (.int .i64 0)) (B5) (B6) x ox cx) := by
  have hs := hV.out.size
  have hs2 := hB.out.size
  have hVw : Below V.heap.size V wr := hV.out.trans (hB.out.mono hs)
  have k5 := h5.out.sets5F (.int .i64 x.kind) (.string (bs x.name)) (.int .i64 x.num) (.slice ox x.kids.length cx) (.int .i64 x.pos)
  have hb := but_sets5 wr B5 (.int .i64 x.kind) (.string (bs x.name)) (.int .i64 x.num) (.slice ox x.kids.length cx) (.int .i64 x.pos)
  have k6 := h6.out.but (fun e => hne e.symm) hb
  have hf := hF.out.keep (lo' := X.heap.size) (Nat.le_refl _) (fun k hk hlo => hb.block k hk (by omega)) hb.size
  generalize (((((wr.setCell ⟨B5, 0, none⟩ (.int .i64 x.kind)).setCell ⟨B5, 1, none⟩ (.string (bs x.name))).setCell ⟨B5, 2, none⟩ (.int .i64 x.num)).setCell ⟨B5, 3, none⟩ (.slice ox x.kids.length cx)).setCell ⟨B5, 4, none⟩ (.int .i64 x.pos)) = W5 at k5 k6 hb hf ⊢
  have hb2 := but_sets2 W5 B6 (.int .i64 0) (.int .i64 0)
  have q6 := k6.sets2F (.int .i64 0) (.int .i64 0)
  have q5 := k5.but hne hb2
  have hf2 := hf.keep (lo' := 0) (Nat.zero_le _) (fun k hk hlo => hb2.block k hk (by omega)) hb2.size
  have e1 := hb.size
  exact ⟨hVw.trans ((hb.below (by omega) (by omega)).trans (hb2.below (by omega) (by omega))), q5, q6, hf2.nin⟩

set_option maxRecDepth 100000 in
set_option maxHeartbeats 40000000 in
theorem is_c (n want : Nd) (hnk : n.kind = 17) (o ow : Option Addr) (cap cw m d : Nat) (w : World) (hG : GOK w) (hn : NdIn w w.heap.size n o cap) (hwn : NdIn w w.heap.size want ow cw) (hck : chkM n = 0) (hl : n.kids.length ≤ 1000000) (hk : ∀ x ∈ n.kids, x.kids = [] ∧ x.kind ≠ 17 ∧ x.kind ≠ 44 ∧ x.kind ≠ 18) (hwf : ∀ x ∈ n.kids, (-9223372036854775808 ≤ x.kind ∧ x.kind ≤ 9223372036854775807) ∧ x.name.length ≤ 9223372036854775807 ∧ (-9223372036854775808 ≤ x.num ∧ x.num ≤ 9223372036854775807)) (x : Nd) (rest : List It) (hres : (rdM 17 (holdM builtinL) m d topF (leafIts n.kids)) = .ok x rest) (hst : nst 256 x = true) :
    Calls Tryz.prog 15 #[.agg #[.int .i64 17, .string (bs n.name), .int .i64 n.num, .slice o n.kids.length cap, .int .i64 n.pos], .agg #[.int .i64 want.kind, .string (bs want.name), .int .i64 want.num, .slice ow want.kids.length cw, .int .i64 want.pos]] w fun e w' => e = .returned (.bool (sameM 256 x want)) ∧ Below w.heap.size w w' := by
  obtain ⟨V, hV⟩ : ∃ V, ((w.alloc (.cells #[.int .i64 17, .string (bs n.name), .int .i64 n.num, .slice o n.kids.length cap, .int .i64 n.pos] 28)).alloc (.cells #[.int .i64 want.kind, .string (bs want.name), .int .i64 want.num, .slice ow want.kids.length cw, .int .i64 want.pos] 28)) = V := ⟨_, rfl⟩
  have HV : Hid (((w.alloc (.cells #[.int .i64 17, .string (bs n.name), .int .i64 n.num, .slice o n.kids.length cap, .int .i64 n.pos] 28)).alloc (.cells #[.int .i64 want.kind, .string (bs want.name), .int .i64 want.num, .slice ow want.kids.length cw, .int .i64 want.pos] 28)) = V) := hV
  have hB : Below w.heap.size w V := by rw [← hV]; exact ((Below.refl _ w).alloc (Nat.le_refl _) _).alloc (by simp) _
  have HB : Hid (Below w.heap.size w V) := hB
  have HS : Hid (V.heap.size = w.heap.size + 1 + 1) := by show _ = _; rw [← hV]; simp
  have HB0 : Hid (Blk V w.heap.size #[.int .i64 17, .string (bs n.name), .int .i64 n.num, .slice o n.kids.length cap, .int .i64 n.pos] 28) := by show Blk _ _ _ _; rw [← hV]; exact (Blk.new w _ _).alloc _
  have HB1 : Hid (Blk V (w.heap.size + 1) #[.int .i64 want.kind, .string (bs want.name), .int .i64 want.num, .slice ow want.kids.length cw, .int .i64 want.pos] 28) := by show Blk _ _ _ _; rw [← hV]; exact Blk.new2 w _ _ _
  have HBu : Hid (∀ X : World, Calls Tryz.prog 25 #[] X fun e w' => e = .returned (.slice (some ⟨X.heap.size, 0, none⟩) 21 21) ∧ FxsAt w' builtinL X.heap.size 0 ∧ X.heap.size < w'.heap.size ∧ Below X.heap.size X w') := fun X => (builtin_c X).mono (fun e w' h => by
    obtain ⟨h1, h2⟩ := h
    subst h2
    exact ⟨h1, builtin_at X, by simp, (Below.refl _ X).alloc (Nat.le_refl _) _⟩)
  have HRe : Hid (∀ (X : World) (g : Nat), Below V.heap.size V X → FxsAt X builtinL g 0 → g < X.heap.size → Calls Tryz.prog 9 #[.agg #[.int .i64 17, .string (bs n.name), .int .i64 n.num, .slice o n.kids.length cap, .int .i64 n.pos], .slice (some ⟨g, 0, none⟩) 21 21] X fun e w' => ∃ ox cx, e = .returned (.tuple #[.agg #[.int .i64 x.kind, .string (bs x.name), .int .i64 x.num, .slice ox x.kids.length cx, .int .i64 x.pos], .agg #[.int .i64 0, .int .i64 0]]) ∧ Below V.heap.size V X ∧ Fr X.heap.size w' x ox cx ∧ Below X.heap.size X w') := by
    intro X g hX hA hg
    have hX2 : Below w.heap.size w X := hB.trans (hX.mono hB.size)
    have h := resolve_c builtinL n hnk o cap m d g 0 21 X (hG.below hX2) (nin_mono (hn.below hX2) hX2.size) hck (by decide) (by decide) hg hA (by decide) hl hk hwf (by rw [hres]; intro e; cases e) (by
      intro y r e
      rw [hres] at e
      cases e
      exact hst)
    refine h.mono ?_
    intro e w' hr
    rw [hres] at hr
    obtain ⟨ox, cx, h1, h2, h3⟩ := hr
    exact ⟨ox, cx, h1, hX, h2, h3⟩
  have HWn : Hid (NdIn w w.heap.size want ow cw) := hwn
  clear hV hB hG hn hwn hck hl hk hwf hres hst hnk
  go_enter Tryz.func15, Tryz.ntmps15
  go_upto_region 1 with fail
  rw [HV.out]
  go_cut [5, 6] from 7 to 12 (fun s5 s6 wx => ∃ (B5 B6 : Nat) (ox : Option Addr) (cx : Nat), s5 = .pointer (some ⟨B5, 0, none⟩) ∧ s6 = .pointer (some ⟨B6, 0, none⟩) ∧ Hid (IsR V wx B5 B6 x ox cx))
  case first =>
    obtain ⟨c0, c1, c2, c3, c4, -, -, -, -, -⟩ := HB0.out.cells5F
    have lc := HB0.out.lt
    go_region_with (first | (go_at_call 25; refine (HBu.out _).mono ?_; rintro e wb ⟨rfl, hAt, hlt, hBl⟩; have Bb : Hid (Below V.heap.size V wb) := (by refine Below.trans ?_ (hBl.mono ?_) <;> first | ((repeat (first | exact Below.refl _ _ | apply Below.drew | refine Below.alloc ?_ (by first | exact Nat.le_refl _ | (simp; done) | (simp; omega)) _)); done) | exact Nat.le_refl _ | (simp; done) | (simp; omega)); obtain ⟨q0, q1, q2, q3, q4, -, -, -, -, -⟩ := (HB0.out.below Bb.out).cells5F; have lq := (HB0.out.below Bb.out).lt; (first | (have HAt : Hid (FxsAt wb builtinL V.heap.size 0 ∧ V.heap.size < wb.heap.size) := (by have h := And.intro hAt hlt; first | exact h | (show _ ∧ _; simpa using h))) | (have HAt : Hid (FxsAt wb builtinL (V.heap.size + 1) 0 ∧ V.heap.size + 1 < wb.heap.size) := (by have h := And.intro hAt hlt; show _ ∧ _; simpa using h)) | (have HAt : Hid (FxsAt wb builtinL (V.heap.size + 1 + 1) 0 ∧ V.heap.size + 1 + 1 < wb.heap.size) := (by have h := And.intro hAt hlt; show _ ∧ _; simpa using h))); (first | (have Z5 : Hid (Blk wb V.heap.size #[.int .i64 0, .string ⟨#[]⟩, .int .i64 0, .slice none 0 0, .int .i64 0] 28) := Blk.below (by first | exact Blk.new _ _ _ | exact (Blk.new _ _ _).drew | exact (Blk.new _ _ _).alloc _ | exact ((Blk.new _ _ _).alloc _).drew | exact ((Blk.new _ _ _).drew).alloc _) hBl) | (have Z5 : Hid (Blk wb (V.heap.size + 1) #[.int .i64 0, .string ⟨#[]⟩, .int .i64 0, .slice none 0 0, .int .i64 0] 28) := Blk.below (by first | exact Blk.new2 _ _ _ _ | exact (Blk.new2 _ _ _ _).drew) hBl) | skip); (first | (have Z6 : Hid (Blk wb V.heap.size #[.int .i64 0, .int .i64 0] 33) := Blk.below (by first | exact Blk.new _ _ _ | exact (Blk.new _ _ _).drew | exact (Blk.new _ _ _).alloc _ | exact ((Blk.new _ _ _).alloc _).drew | exact ((Blk.new _ _ _).drew).alloc _) hBl) | (have Z6 : Hid (Blk wb (V.heap.size + 1) #[.int .i64 0, .int .i64 0] 33) := Blk.below (by first | exact Blk.new2 _ _ _ _ | exact (Blk.new2 _ _ _ _).drew) hBl) | skip); clear hAt hlt hBl) | (go_at_call 9; refine (HRe.out _ _ (by first | exact Bb.out | exact Bb.out.alloc Bb.out.size _ | exact (Bb.out.alloc Bb.out.size _).alloc (by have := Bb.out.size; simp; omega) _) (by first | exact HAt.out.1 | exact HAt.out.1.below HAt.out.2 ((Below.refl _ wb).alloc (Nat.le_refl _) _) | exact HAt.out.1.below HAt.out.2 (((Below.refl _ wb).alloc (Nat.le_refl _) _).alloc (by simp) _)) (by have h := HAt.out.2; first | exact HAt.out.2 | (simp at h ⊢; omega))).mono ?_; rintro e wr ⟨ox, cx, rfl, hVX, hFr, hBr⟩; have HVX : Hid (Below V.heap.size V _) := hVX; have HFr : Hid (Fr _ wr x ox cx) := hFr; have HBr : Hid (Below _ _ wr) := hBr; (first | (have Y5 : Hid (Blk wr V.heap.size #[.int .i64 0, .string ⟨#[]⟩, .int .i64 0, .slice none 0 0, .int .i64 0] 28) := Blk.below (by first | exact Z5.out | exact (Z5.out).alloc _ | exact ((Z5.out).alloc _).alloc _) hBr; obtain ⟨z0, z1, z2, z3, z4, y0, y1, y2, y3, y4⟩ := Y5.out.cells5F; have lz := Y5.out.lt) | (have Y5 : Hid (Blk wr (V.heap.size + 1) #[.int .i64 0, .string ⟨#[]⟩, .int .i64 0, .slice none 0 0, .int .i64 0] 28) := Blk.below (by first | exact Z5.out | exact (Z5.out).alloc _ | exact ((Z5.out).alloc _).alloc _) hBr; obtain ⟨z0, z1, z2, z3, z4, y0, y1, y2, y3, y4⟩ := Y5.out.cells5F; have lz := Y5.out.lt) | (have Y5 : Hid (Blk wr wb.heap.size #[.int .i64 0, .string ⟨#[]⟩, .int .i64 0, .slice none 0 0, .int .i64 0] 28) := Blk.below (by first | exact Blk.new _ _ _ | exact (Blk.new _ _ _).drew | exact (Blk.new _ _ _).alloc _ | exact ((Blk.new _ _ _).alloc _).drew | exact ((Blk.new _ _ _).drew).alloc _) hBr; obtain ⟨z0, z1, z2, z3, z4, y0, y1, y2, y3, y4⟩ := Y5.out.cells5F; have lz := Y5.out.lt) | (have Y5 : Hid (Blk wr (wb.heap.size + 1) #[.int .i64 0, .string ⟨#[]⟩, .int .i64 0, .slice none 0 0, .int .i64 0] 28) := Blk.below (by first | exact Blk.new2 _ _ _ _ | exact (Blk.new2 _ _ _ _).drew) hBr; obtain ⟨z0, z1, z2, z3, z4, y0, y1, y2, y3, y4⟩ := Y5.out.cells5F; have lz := Y5.out.lt) | skip); (first | (have Y6 : Hid (Blk wr V.heap.size #[.int .i64 0, .int .i64 0] 33) := Blk.below (by first | exact Z6.out | exact (Z6.out).alloc _ | exact ((Z6.out).alloc _).alloc _) hBr; obtain ⟨p0, p1, f0, f1⟩ := Y6.out.all2; have lp := Y6.out.lt) | (have Y6 : Hid (Blk wr (V.heap.size + 1) #[.int .i64 0, .int .i64 0] 33) := Blk.below (by first | exact Z6.out | exact (Z6.out).alloc _ | exact ((Z6.out).alloc _).alloc _) hBr; obtain ⟨p0, p1, f0, f1⟩ := Y6.out.all2; have lp := Y6.out.lt) | (have Y6 : Hid (Blk wr wb.heap.size #[.int .i64 0, .int .i64 0] 33) := Blk.below (by first | exact Blk.new _ _ _ | exact (Blk.new _ _ _).drew | exact (Blk.new _ _ _).alloc _ | exact ((Blk.new _ _ _).alloc _).drew | exact ((Blk.new _ _ _).drew).alloc _) hBr; obtain ⟨p0, p1, f0, f1⟩ := Y6.out.all2; have lp := Y6.out.lt) | (have Y6 : Hid (Blk wr (wb.heap.size + 1) #[.int .i64 0, .int .i64 0] 33) := Blk.below (by first | exact Blk.new2 _ _ _ _ | exact (Blk.new2 _ _ _ _).drew) hBr; obtain ⟨p0, p1, f0, f1⟩ := Y6.out.all2; have lp := Y6.out.lt) | skip); (first | (have n65 := blk_ne25 Y6.out Y5.out) | skip)))
    all_goals (rename_i J K2 hJ hK; refine hK _ _ (Met.intro (hJ _ _ ⟨_, _, _, _, _, _, _, _, ⟨_, _, ox, cx, rfl, rfl, ?_⟩, rfl⟩)); first | with_reducible exact isPP (B5 := 0) (B6 := 0) HVX HBr HFr | with_reducible exact isPQ (B5 := 0) (B6 := 0) HVX HBr HFr | with_reducible exact isOP (B6 := 0) HVX HBr HFr Y5 (by have := Bb.out.size; first | exact Z5.out.lt | (simp; done) | (simp; omega) | (have := Z5.out.lt; simp; omega)) (by have := Bb.out.size; omega) | with_reducible exact isPO (B5 := 0) HVX HBr HFr Y6 (by have := Bb.out.size; first | exact Z6.out.lt | (simp; done) | (simp; omega) | (have := Z6.out.lt; simp; omega)) (by have := Bb.out.size; omega) | with_reducible exact isOO HVX HBr HFr Y5 (by have := Bb.out.size; first | exact Z5.out.lt | (simp; done) | (simp; omega) | (have := Z5.out.lt; simp; omega)) (by have := Bb.out.size; omega) Y6 (by have := Bb.out.size; first | exact Z6.out.lt | (simp; done) | (simp; omega) | (have := Z6.out.lt; simp; omega)) (by have := Bb.out.size; omega) n65.symm)
  case rest =>
    obtain ⟨B5, B6, ox, cx, rfl, rfl, hR⟩ := hcut
    obtain ⟨r1, r2, r3, r4⟩ := hR.out
    have HCs : Hid (Calls Tryz.prog 10 #[.agg #[.int .i64 x.kind, .string (bs x.name), .int .i64 x.num, .slice ox x.kids.length cx, .int .i64 x.pos], .agg #[.int .i64 want.kind, .string (bs want.name), .int .i64 want.num, .slice ow want.kids.length cw, .int .i64 want.pos]] wc fun e w' => e = .returned (.bool (sameM 256 x want)) ∧ Below wc.heap.size wc w') := sameS_c x want ox ow cx cw wc r4 (nin_mono (HWn.out.below (HB.out.trans (r1.mono HB.out.size))) (Nat.le_trans HB.out.size r1.size))
    have HBc : Hid (Below w.heap.size w wc) := HB.out.trans (r1.mono HB.out.size)
    obtain ⟨a0, a1, a2, a3, a4, -, -, -, -, -⟩ := r2.cells5F
    have la := r2.lt
    obtain ⟨b0, b1, _, _⟩ := r3.all2
    have lb := r3.lt
    obtain ⟨d0, d1, d2, d3, d4, -, -, -, -, -⟩ := (HB1.out.below r1).cells5F
    have ld := (HB1.out.below r1).lt
    clear hR r1 r2 r3 r4
    go_wp2_with (go_at_call 10; fail)
    refine HCs.out.mono ?_
    rintro e w9 ⟨rfl, hb9⟩
    have HB9 : Hid (Below w.heap.size w w9) := HBc.out.trans (hb9.mono HBc.out.size)
    clear hb9
    go_wp2
    go_ret
    exact ⟨rfl, HB9.out⟩
end Go.Proofs.YtppnhaacmhfenabGreatDoor
