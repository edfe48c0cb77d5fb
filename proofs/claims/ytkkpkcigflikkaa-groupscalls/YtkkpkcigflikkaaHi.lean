/-
  Package groups: part, by a contract.
-/
import Derived.Test.YtkkpkcigflikkaaHg
import Derived.Test.YtkkpkcigflikkaaHh
namespace Go.Proofs.Ytkkpkcigflikkaa
open Go.RowKit Go.Shelf Go.Maps G
set_option linter.unusedVariables false

theorem RowsAt.mono {W : World} {b b' B n : Nat} {adj : Nat → List Nat} (h : RowsAt W b B n adj) (hb : b ≤ b') : RowsAt W b' B n adj := by
  obtain ⟨h0, u, h1, h2⟩ := h
  exact ⟨by omega, u, h1, fun i hi => (h2 i hi).move (fun g _ h3 h4 => ⟨by omega, h4, rfl⟩)⟩
/-- How the search stands where it begins. -/
theorem sr_start {W : World} {b P L G U M n : Nat} {adj : Nat → List Nat} (hP : Blk W P #[.slice (some ⟨L, 0, none⟩) n n, .slice (some ⟨G, 0, none⟩) n n, .slice (some ⟨U, 0, none⟩) n n, .slice (some ⟨M, 0, none⟩) n n, .slice none 0 0, .slice none 0 0, .int .i64 0] 65) (hL : FB W L n (fun _ => neg1) 3) (hG : FB W G n (fun _ => .slice none 0 0) 30) (hM : FB W M n (fun _ => .int .i64 0) 3) (hU : RowsAt W b U n adj) (h1 : b ≤ M) (h2 : M < P) (h3 : P < L) (h4 : P < G) (h5 : L ≠ G) :
    SrAt W ⟨b, W.heap.size, P, L, G, U, M⟩ n adj (.slice none 0 0) (.slice none 0 0) (fun _ => 0) (fun _ => none) (fun _ => []) [] [] 0 := by
  refine ⟨hP, hL, hM, hU, ⟨fun _ => .slice none 0 0, hG, fun i hi => ⟨.inl ⟨rfl, rfl⟩, fun g hg => (by cases hg), ⟨fun _ => rfl, fun _ => rfl⟩⟩⟩, owns_nil _ _ _ _, owns_nil _ _ _ _, fun g hg => (by cases hg), ⟨?_, ?_, ?_, ?_, hP.lt, hL.lt, hG.lt, hM.lt, ?_, ?_, ?_, h5, ?_, ?_⟩, Nat.le_refl _⟩ <;> show _ <;> simp only [] <;> omega
/-- What part answers. -/
def PtPost (w : World) (n : Nat) (adj : Nat → List Nat) (r : Ending) (W' : World) : Prop :=
  ∃ (L G : Nat) (low : Nat → Nat) (grp : Nat → List Nat) (gv : Nat → Value), r = .returned (.agg #[.slice (some ⟨L, 0, none⟩) n n, .slice (some ⟨G, 0, none⟩) n n]) ∧ Parted n adj low grp ∧ w.heap.size ≤ L ∧ w.heap.size ≤ G ∧ FB W' L n (fun i => nv (low i)) 3 ∧ FB W' G n gv 30 ∧ (∀ i, i < n → RowAt W' W'.heap.size (gv i) (grp i) ∧ (∀ g, (gv i).ownBlock = some g → w.heap.size ≤ g) ∧ (gv i = .slice none 0 0 ↔ grp i = [])) ∧ Below w.heap.size w W'
theorem pt_post {w W : World} {n : Nat} {adj : Nat → List Nat} {Y : Lay} {wv ov : Value} {met : Nat → Nat} {low : Nat → Option Nat} {grp : Nat → List Nat} {opn : List Nat} {now : Nat} (h : SrAt W Y n adj wv ov met low grp [] opn now) (hI : Inv n adj met low grp [] opn now) (hm : ∀ x, x < n → 0 < met x) (hY : w.heap.size + 1 ≤ Y.b) (hB : Below w.heap.size w W) : ∃ W0 : World, W0 = W ∧ ∃ (low : Nat → Nat) (gv : Nat → Value), Parted n adj low grp ∧ w.heap.size + 1 ≤ Y.L ∧ w.heap.size + 1 ≤ Y.G ∧ FB W Y.L n (fun i => nv (low i)) 3 ∧ FB W Y.G n gv 30 ∧ (∀ i, i < n → RowAt W W.heap.size (gv i) (grp i) ∧ (∀ g, (gv i).ownBlock = some g → w.heap.size + 1 ≤ g) ∧ (gv i = .slice none 0 0 ↔ grp i = [])) := by
  obtain ⟨h1, h2⟩ := hI.done hm
  obtain ⟨gv, g1, g2⟩ := h.gr
  have ho := h.ok
  refine ⟨W, rfl, _, gv, h2, Nat.le_trans hY ho.bL, Nat.le_trans hY ho.bG, h.lw.congr (fun j hj => ?_), g1, fun i hi => ?_⟩
  · cases e : low j with
    | none => exact absurd e (h1 j hj)
    | some g => rfl
  · obtain ⟨g3, g4, g5⟩ := g2 i hi
    exact ⟨g3, fun g hg => by have := (g4 g hg).1; have := ho.bP; have := ho.PF; omega, g5⟩
/-- What lies there where the search begins. -/
structure PtB (w : World) (b n Ub : Nat) (adj : Nat → List Nat) (gL gG : Nat) (W : World) : Prop where
  p : Blk W (w.heap.size + 1 + 1) #[.slice (some ⟨gL, 0, none⟩) n n, .slice (some ⟨gG, 0, none⟩) n n, .slice (some ⟨Ub, 0, none⟩) n n, .slice (some ⟨w.heap.size + 1, 0, none⟩) n n, .slice none 0 0, .slice none 0 0, .int .i64 0] 65
  l : FB W gL n (fun _ => neg1) 3
  m : FB W (w.heap.size + 1) n (fun _ => .int .i64 0) 3
  u : RowsAt W b Ub n adj
  r : Blk W w.heap.size #[.slice none 0 0, .slice none 0 0] 44
  bl : Below w.heap.size w W
  lg : w.heap.size + 3 ≤ gL
theorem PtB.alloc {w W : World} {b n Ub : Nat} {adj : Nat → List Nat} {gL gG : Nat} (h : PtB w b n Ub adj gL gG W) (hb : b ≤ w.heap.size) (o : Obj) : PtB w b n Ub adj gL gG (W.alloc o) :=
  ⟨h.p.alloc o, h.l.alloc o, h.m.alloc o, h.u.below (below1 W o) (by have := h.bl.size; omega), h.r.alloc o, h.bl.alloc h.bl.size o, h.lg⟩
theorem pt_base {w V0 w2 : World} {b n Ub : Nat} {adj : Nat → List Nat} {gL gG : Nat} (hP : Blk V0 (w.heap.size + 1 + 1) #[.slice none 0 0, .slice none 0 0, .slice (some ⟨Ub, 0, none⟩) n n, .slice (some ⟨w.heap.size + 1, 0, none⟩) n n, .slice none 0 0, .slice none 0 0, .int .i64 0] 65) (hM : FB V0 (w.heap.size + 1) n (fun _ => .int .i64 0) 3) (hR : Blk V0 w.heap.size #[.slice none 0 0, .slice none 0 0] 44) (hB : Below w.heap.size w V0) (hS : V0.heap.size = w.heap.size + 3) (hU : RowsAt w b Ub n adj) (hb : b ≤ w.heap.size) (hL : FB w2 gL n (fun _ => neg1) 3) (hg : V0.heap.size ≤ gL) (h2 : Below V0.heap.size V0 w2) :
    PtB w b n Ub adj gL gG ((w2.setCell ⟨w.heap.size + 1 + 1, 0, none⟩ (.slice (some ⟨gL, 0, none⟩) n n)).setCell ⟨w.heap.size + 1 + 1, 1, none⟩ (.slice (some ⟨gG, 0, none⟩) n n)) := by
  have hbb : Below w.heap.size w ((w2.setCell ⟨w.heap.size + 1 + 1, 0, none⟩ (.slice (some ⟨gL, 0, none⟩) n n)).setCell ⟨w.heap.size + 1 + 1, 1, none⟩ (.slice (some ⟨gG, 0, none⟩) n n)) := ((hB.trans (h2.mono (by omega))).setCell (p := ⟨w.heap.size + 1 + 1, 0, none⟩) (by show w.heap.size ≤ w.heap.size + 1 + 1; omega) _).setCell (p := ⟨w.heap.size + 1 + 1, 1, none⟩) (by show w.heap.size ≤ w.heap.size + 1 + 1; omega) _
  refine ⟨?_, (hL.setOther _ (by omega)).setOther _ (by omega), ((hM.below h2 (by omega)).setOther _ (by omega)).setOther _ (by omega), hU.below hbb hb, ?_, hbb, by omega⟩
  · exact ((hP.below h2).set 0 _).set 1 _
  · exact (hR.below h2).same ((heap_set_other _ _ _ _ _ (by omega)).trans (heap_set_other _ _ _ _ _ (by omega)))
theorem PtB.start {w W : World} {b n Ub : Nat} {adj : Nat → List Nat} {gL gG : Nat} (h : PtB w b n Ub adj gL gG W) (hb : b ≤ w.heap.size) (hG : FB W gG n (fun _ => .slice none 0 0) 30) (h1 : w.heap.size + 3 ≤ gG) (h2 : gL ≠ gG) : SrAt W ⟨w.heap.size + 1, W.heap.size, w.heap.size + 1 + 1, gL, gG, Ub, w.heap.size + 1⟩ n adj (.slice none 0 0) (.slice none 0 0) (fun _ => 0) (fun _ => none) (fun _ => []) [] [] 0 :=
  sr_start h.p h.l hG h.m (h.u.mono (by omega)) (by omega) (by omega) (by have := h.lg; omega) (by omega) h2
set_option maxHeartbeats 8000000 in
set_option maxRecDepth 100000 in
theorem part_c (n b Ub U : Nat) (adj : Nat → List Nat) (hn : n ≤ 20000) (hU : ∀ x, x < n → (adj x).length ≤ U) (hU2 : U ≤ 1000000) (hadj : ∀ x, x < n → ∀ y ∈ adj x, y < n) (w : World) (hus : RowsAt w b Ub n adj) (hb : b ≤ w.heap.size) :
    Calls Try.prog 23 #[.slice (some ⟨Ub, 0, none⟩) n n] w fun r W' => PtPost w n adj r W' := by
  have hdep : Try.prog.follows Departure.mixedOrders = true := by kernel_rfl
  have hni : (n : Int) ≤ 20000 := by omega
  have hmk : ∀ W : World, (Instr.makeSlice 30 (.int .i64 (n : Int)) (.int .i64 (n : Int))).run Try.prog W = .ok (.slice (some ⟨W.heap.size, 0, none⟩) n n) (W.alloc (.cells (madeCells #[.int .i64 0] n) 3)) := fun W => run_make_row' 30 3 (.int .i64 0) 8 Try.underlying30 infoInt rfl .i64 .i64 n (by omega) (by omega) W
  have hmk2 : ∀ W : World, (Instr.makeSlice 22 (.int .i64 (n : Int)) (.int .i64 (n : Int))).run Try.prog W = .ok (.slice (some ⟨W.heap.size, 0, none⟩) n n) (W.alloc (.cells (madeCells #[.slice none 0 0] n) 30)) := fun W => run_make_row' 22 30 (.slice none 0 0) 24 Try.underlying22 infoInts rfl .i64 .i64 n (by omega) (by omega) W
  have HR : Hid (∀ (xb : Nat) (X : World), X.cell? ⟨xb, 0, none⟩ = some neg1 → xb < X.heap.size → Calls Try.prog 35 #[.slice (some ⟨xb, 0, none⟩) 1 1, .int .i64 (n : Int)] X fun r W' => ∃ g, r = .returned (.slice (some ⟨g, 0, none⟩) n n) ∧ X.heap.size ≤ g ∧ FB W' g n (fun _ => neg1) 3 ∧ Below X.heap.size X W') := fun xb X h1 h2 => repeat_c n xb hn X h1 h2
  have HU : Hid (RowsAt w b Ub n adj ∧ b ≤ w.heap.size) := ⟨hus, hb⟩
  have HN : Hid (n ≤ 20000 ∧ (∀ x, x < n → (adj x).length ≤ U) ∧ U ≤ 1000000 ∧ (∀ x, x < n → ∀ y ∈ adj x, y < n)) := ⟨hn, hU, hU2, hadj⟩
  clear hus hb hn hU hU2 hadj
  go_enter Try.func23, Try.ntmps23
  go_wp2
  have hV : ∃ V0, ((w.alloc (.cells #[.slice none 0 0, .slice none 0 0] 44)).alloc (.cells (madeCells #[.int .i64 0] n) 3)).alloc (.cells #[.slice none 0 0, .slice none 0 0, .slice (some ⟨Ub, 0, none⟩) n n, .slice (some ⟨w.heap.size + 1, 0, none⟩) n n, .slice none 0 0, .slice none 0 0, .int .i64 0] 65) = V0 := ⟨_, rfl⟩
  obtain ⟨V0, hV0⟩ := hV
  have hP0 : Blk V0 (w.heap.size + 1 + 1) #[.slice none 0 0, .slice none 0 0, .slice (some ⟨Ub, 0, none⟩) n n, .slice (some ⟨w.heap.size + 1, 0, none⟩) n n, .slice none 0 0, .slice none 0 0, .int .i64 0] 65 := by
    rw [← hV0]
    have := Blk.new ((w.alloc (.cells #[.slice none 0 0, .slice none 0 0] 44)).alloc (.cells (madeCells #[.int .i64 0] n) 3)) #[.slice none 0 0, .slice none 0 0, .slice (some ⟨Ub, 0, none⟩) n n, .slice (some ⟨w.heap.size + 1, 0, none⟩) n n, .slice none 0 0, .slice none 0 0, .int .i64 0] 65
    simpa using this
  have hM0 : FB V0 (w.heap.size + 1) n (fun _ => .int .i64 0) 3 := by
    rw [← hV0]
    have := (fb_made (w.alloc (.cells #[.slice none 0 0, .slice none 0 0] 44)) (.int .i64 0) n 3).alloc (.cells #[.slice none 0 0, .slice none 0 0, .slice (some ⟨Ub, 0, none⟩) n n, .slice (some ⟨w.heap.size + 1, 0, none⟩) n n, .slice none 0 0, .slice none 0 0, .int .i64 0] 65)
    simpa using this
  have hR0 : Blk V0 w.heap.size #[.slice none 0 0, .slice none 0 0] 44 := by
    rw [← hV0]
    exact ((Blk.new w _ _).alloc _).alloc _
  have hB0 : Below w.heap.size w V0 := by
    rw [← hV0]
    exact (((Below.refl _ w).alloc (Nat.le_refl _) _).alloc (by simp) _).alloc (by simp; omega) _
  have hS0 : V0.heap.size = w.heap.size + 3 := by rw [← hV0]; simp
  have HV0 : Hid (((w.alloc (.cells #[.slice none 0 0, .slice none 0 0] 44)).alloc (.cells (madeCells #[.int .i64 0] n) 3)).alloc (.cells #[.slice none 0 0, .slice none 0 0, .slice (some ⟨Ub, 0, none⟩) n n, .slice (some ⟨w.heap.size + 1, 0, none⟩) n n, .slice none 0 0, .slice none 0 0, .int .i64 0] 65) = V0) := hV0
  have H0 : Hid (Blk V0 (w.heap.size + 1 + 1) #[.slice none 0 0, .slice none 0 0, .slice (some ⟨Ub, 0, none⟩) n n, .slice (some ⟨w.heap.size + 1, 0, none⟩) n n, .slice none 0 0, .slice none 0 0, .int .i64 0] 65 ∧ FB V0 (w.heap.size + 1) n (fun _ => .int .i64 0) 3 ∧ Blk V0 w.heap.size #[.slice none 0 0, .slice none 0 0] 44 ∧ Below w.heap.size w V0 ∧ V0.heap.size = w.heap.size + 3) := ⟨hP0, hM0, hR0, hB0, hS0⟩
  have HR1 : Hid (Calls Try.prog 35 #[.slice (some ⟨V0.heap.size, 0, none⟩) 1 1, .int .i64 (n : Int)] (V0.alloc (.cells #[.int .i64 (-1)] 3)).drew fun r W' => ∃ g, r = .returned (.slice (some ⟨g, 0, none⟩) n n) ∧ V0.heap.size ≤ g ∧ FB W' g n (fun _ => neg1) 3 ∧ Below V0.heap.size V0 W') := by
    have hbx : Below V0.heap.size V0 (V0.alloc (.cells #[.int .i64 (-1)] 3)).drew := (below1 V0 _).drew
    refine (HR.out V0.heap.size (V0.alloc (.cells #[.int .i64 (-1)] 3)).drew ((Blk.new V0 #[.int .i64 (-1)] 3).drew.cell 0 _ rfl) (by show _ < (V0.alloc _).heap.size; simp)).mono ?_
    rintro e W' ⟨g, rfl, h1, h2, h3⟩
    exact ⟨g, rfl, Nat.le_trans hbx.size h1, h2, hbx.trans (h3.mono hbx.size)⟩
  have HR2 : Hid (Calls Try.prog 35 #[.slice (some ⟨V0.heap.size, 0, none⟩) 1 1, .int .i64 (n : Int)] ((V0.alloc (.cells #[.int .i64 (-1)] 3)).alloc (.cells (madeCells #[.slice none 0 0] n) 30)).drew fun r W' => ∃ g, r = .returned (.slice (some ⟨g, 0, none⟩) n n) ∧ V0.heap.size + 2 ≤ g ∧ FB W' g n (fun _ => neg1) 3 ∧ Below V0.heap.size V0 W' ∧ FB W' (V0.heap.size + 1) n (fun _ => .slice none 0 0) 30) := by
    have hbx : Below V0.heap.size V0 ((V0.alloc (.cells #[.int .i64 (-1)] 3)).alloc (.cells (madeCells #[.slice none 0 0] n) 30)).drew := (((below1 V0 _).alloc (by simp) _)).drew
    have hsz : ((V0.alloc (.cells #[.int .i64 (-1)] 3)).alloc (.cells (madeCells #[.slice none 0 0] n) 30)).drew.heap.size = V0.heap.size + 2 := by show ((V0.alloc _).alloc _).heap.size = _; simp
    refine (HR.out V0.heap.size _ (((Blk.new V0 #[.int .i64 (-1)] 3).alloc _).drew.cell 0 _ rfl) (by rw [hsz]; omega)).mono ?_
    rintro e W' ⟨g, rfl, h1, h2, h3⟩
    rw [hsz] at h1 h3
    refine ⟨g, rfl, h1, h2, hbx.trans (h3.mono (by omega)), ?_⟩
    have hf := fb_made (V0.alloc (.cells #[.int .i64 (-1)] 3)) (.slice none 0 0) n 30
    rw [show (V0.alloc (.cells #[.int .i64 (-1)] 3)).heap.size = V0.heap.size + 1 by simp] at hf
    exact hf.drew.below h3 (by omega)
  have HR3 : Hid (Calls Try.prog 35 #[.slice (some ⟨V0.heap.size + 1, 0, none⟩) 1 1, .int .i64 (n : Int)] ((V0.alloc (.cells (madeCells #[.slice none 0 0] n) 30)).alloc (.cells #[.int .i64 (-1)] 3)).drew fun r W' => ∃ g, r = .returned (.slice (some ⟨g, 0, none⟩) n n) ∧ V0.heap.size + 2 ≤ g ∧ FB W' g n (fun _ => neg1) 3 ∧ Below V0.heap.size V0 W' ∧ FB W' V0.heap.size n (fun _ => .slice none 0 0) 30) := by
    have hbx : Below V0.heap.size V0 ((V0.alloc (.cells (madeCells #[.slice none 0 0] n) 30)).alloc (.cells #[.int .i64 (-1)] 3)).drew := (((below1 V0 _).alloc (by simp) _)).drew
    have hsz : ((V0.alloc (.cells (madeCells #[.slice none 0 0] n) 30)).alloc (.cells #[.int .i64 (-1)] 3)).drew.heap.size = V0.heap.size + 2 := by show ((V0.alloc _).alloc _).heap.size = _; simp
    have hcx : Blk ((V0.alloc (.cells (madeCells #[.slice none 0 0] n) 30)).alloc (.cells #[.int .i64 (-1)] 3)) (V0.heap.size + 1) #[.int .i64 (-1)] 3 := by
      have := Blk.new (V0.alloc (.cells (madeCells #[.slice none 0 0] n) 30)) #[.int .i64 (-1)] 3
      simpa using this
    refine (HR.out (V0.heap.size + 1) _ (hcx.drew.cell 0 _ rfl) (by rw [hsz]; omega)).mono ?_
    rintro e W' ⟨g, rfl, h1, h2, h3⟩
    rw [hsz] at h1 h3
    refine ⟨g, rfl, h1, h2, hbx.trans (h3.mono (by omega)), ?_⟩
    exact ((fb_made V0 (.slice none 0 0) n 30).alloc _).drew.below h3 (by omega)
  clear hP0 hM0 hR0 hB0 HR
  have hlV : w.heap.size + 1 + 1 < V0.heap.size := by omega
  clear hS0
  rw [hV0]
  clear hV0 HV0
  go_region_with (go_at_call 35; first | ((with_reducible refine HR1.out.mono ?_); rintro e w2 ⟨gL, rfl, q1, q2, q3⟩; have Q : Hid (V0.heap.size ≤ gL ∧ FB w2 gL n (fun _ => neg1) 3 ∧ Below V0.heap.size V0 w2) := ⟨q1, q2, q3⟩; have x0 := (H0.out.1.below q3).cell 0 _ rfl; have x1 := (H0.out.1.below q3).cell 1 _ rfl; have y0 := (H0.out.1.below q3).frozen 0; have y1 := (H0.out.1.below q3).frozen 1; have z0 := (H0.out.1.below q3).lt; clear q1 q2 q3) | ((with_reducible refine HR2.out.mono ?_); rintro e w2 ⟨gL, rfl, q1, q2, q3, q4⟩; have Q : Hid (V0.heap.size + 2 ≤ gL ∧ FB w2 gL n (fun _ => neg1) 3 ∧ Below V0.heap.size V0 w2 ∧ FB w2 (V0.heap.size + 1) n (fun _ => .slice none 0 0) 30) := ⟨q1, q2, q3, q4⟩; have x0 := (H0.out.1.below q3).cell 0 _ rfl; have x1 := (H0.out.1.below q3).cell 1 _ rfl; have y0 := (H0.out.1.below q3).frozen 0; have y1 := (H0.out.1.below q3).frozen 1; have z0 := (H0.out.1.below q3).lt; clear q1 q2 q3 q4) | ((with_reducible refine HR3.out.mono ?_); rintro e w2 ⟨gL, rfl, q1, q2, q3, q4⟩; have Q : Hid (V0.heap.size + 2 ≤ gL ∧ FB w2 gL n (fun _ => neg1) 3 ∧ Below V0.heap.size V0 w2 ∧ FB w2 V0.heap.size n (fun _ => .slice none 0 0) 30) := ⟨q1, q2, q3, q4⟩; have x0 := (H0.out.1.below q3).cell 0 _ rfl; have x1 := (H0.out.1.below q3).cell 1 _ rfl; have y0 := (H0.out.1.below q3).frozen 0; have y1 := (H0.out.1.below q3).frozen 1; have z0 := (H0.out.1.below q3).lt; clear q1 q2 q3 q4))
  · -- goal 1
    have hst : ∃ Y : Lay, Y.b = w.heap.size + 1 ∧ Y.P = w.heap.size + 1 + 1 ∧ SrAt (((w2.setCell ⟨w.heap.size + 1 + 1, 0, none⟩ (.slice (some ⟨gL, 0, none⟩) n n)).setCell ⟨w.heap.size + 1 + 1, 1, none⟩ (.slice (some ⟨w2.heap.size, 0, none⟩) n n)).alloc (.cells (madeCells #[.slice none 0 0] n) 30)) Y n adj (.slice none 0 0) (.slice none 0 0) (fun _ => 0) (fun _ => none) (fun _ => []) [] [] 0 ∧ Blk (((w2.setCell ⟨w.heap.size + 1 + 1, 0, none⟩ (.slice (some ⟨gL, 0, none⟩) n n)).setCell ⟨w.heap.size + 1 + 1, 1, none⟩ (.slice (some ⟨w2.heap.size, 0, none⟩) n n)).alloc (.cells (madeCells #[.slice none 0 0] n) 30)) w.heap.size #[.slice none 0 0, .slice none 0 0] 44 ∧ Below w.heap.size w (((w2.setCell ⟨w.heap.size + 1 + 1, 0, none⟩ (.slice (some ⟨gL, 0, none⟩) n n)).setCell ⟨w.heap.size + 1 + 1, 1, none⟩ (.slice (some ⟨w2.heap.size, 0, none⟩) n n)).alloc (.cells (madeCells #[.slice none 0 0] n) 30)) := by
        obtain ⟨a1, a2, a3, a4, a5⟩ := H0.out
        have hb := pt_base (gG := w2.heap.size) a1 a2 a3 a4 a5 HU.out.1 HU.out.2 Q.out.2.1 Q.out.1 Q.out.2.2
        have hb2 := hb.alloc HU.out.2 (.cells (madeCells #[.slice none 0 0] n) 30)
        have hf := fb_made ((w2.setCell ⟨w.heap.size + 1 + 1, 0, none⟩ (.slice (some ⟨gL, 0, none⟩) n n)).setCell ⟨w.heap.size + 1 + 1, 1, none⟩ (.slice (some ⟨w2.heap.size, 0, none⟩) n n)) (.slice none 0 0) n 30
        rw [size_set, size_set] at hf
        have hsz := Q.out.2.2.size
        have hlt := Q.out.2.1.lt
        exact ⟨_, rfl, rfl, hb2.start HU.out.2 hf (by omega) (by omega), hb2.r, hb2.bl⟩
    obtain ⟨Y, hYb, hYP, hs1, hr1, hb1⟩ := hst
    generalize (((w2.setCell ⟨w.heap.size + 1 + 1, 0, none⟩ (.slice (some ⟨gL, 0, none⟩) n n)).setCell ⟨w.heap.size + 1 + 1, 1, none⟩ (.slice (some ⟨w2.heap.size, 0, none⟩) n n)).alloc (.cells (madeCells #[.slice none 0 0] n) 30)) = W1 at hs1 hr1 hb1 ⊢
    clear x0 x1 y0 y1 z0 Q HR1 HR2 HR3 H0 hmk hmk2
    rw [← hYP]
    have HS1 : Hid (SrAt W1 Y n adj (.slice none 0 0) (.slice none 0 0) (fun _ => 0) (fun _ => none) (fun _ => []) [] [] 0) := hs1
    have HB1 : Hid (Blk W1 w.heap.size #[.slice none 0 0, .slice none 0 0] 44 ∧ Below w.heap.size w W1 ∧ Y.b = w.heap.size + 1 ∧ Y.P = w.heap.size + 1 + 1) := ⟨hr1, hb1, hYb, hYP⟩
    clear hs1 hr1 hb1 hYb hYP hlV
    go_wp2
    go_loopw [21] (fun v wr => ∃ k : Nat, v = .int .i64 (k : Int) ∧ Hid (∃ wv ov met low grp opn now, k ≤ n ∧ SrAt wr Y n adj wv ov met low grp [] opn now ∧ Inv n adj met low grp [] opn now ∧ (∀ x, x < k → 0 < met x) ∧ Below Y.b W1 wr)) (fun v _ => n - (intOf v).toNat)
    case atStart => exact ⟨0, rfl, ⟨_, _, _, _, _, _, _, Nat.zero_le _, HS1.out, inv_start n adj, fun x hx => absurd hx (Nat.not_lt_zero _), Below.refl _ _⟩⟩
    case round =>
      obtain ⟨k, rfl, HK⟩ := hrel
      clear HS1
      obtain ⟨wv, ov, met, low, grp, opn, now, hk, hs, hI, hm, hb⟩ := HK.out
      obtain ⟨c0, c1, c2, c3, c4, c5, c6, f4, f5, f6, lP⟩ := hs.cells
      by_cases hlt : k < n
      · have hki : (k : Int) < (n : Int) := by omega
        have mk : wr.cell? ⟨Y.M, k, none⟩ = some (.int .i64 (met k : Int)) := hs.mt.cell hlt
        have lM := hs.mt.lt
        have HI : Hid (SrAt wr Y n adj wv ov met low grp [] opn now ∧ Inv n adj met low grp [] opn now ∧ (∀ x, x < k → 0 < met x) ∧ Below Y.b W1 wr ∧ k < n) := ⟨hs, hI, hm, hb, hlt⟩
        by_cases h0 : met k = 0
        · have h0i : (met k : Int) = 0 := by omega
          rw [h0i] at mk
          have hC := from_c Y n U adj wv ov met low grp opn now k HN.out.1 HN.out.2.1 HN.out.2.2.1 HN.out.2.2.2 hlt h0 wr hs hI
          have HC : Hid (Calls Try.prog 36 #[.pointer (some ⟨Y.P, 0, none⟩), .int .i64 (k : Int)] wr fun r W' => r = .returned (.tuple #[]) ∧ FrPost wr Y n adj met k W') := hC
          clear hC HK hs hI hm hb hlt hk h0
          go_wp2_with (go_at_call 36; fail)
          refine HC.out.mono ?_
          rintro e W2 ⟨rfl, hF⟩
          have HF : Hid (FrPost wr Y n adj met k W2) := hF
          clear hF HC
          go_wp2
          refine ⟨⟨k + 1, by congr 1, ?_⟩, by show n - ((k : Int) + 1).toNat < n - ((k : Int)).toNat; have := HI.out.2.2.2.2; omega⟩
          obtain ⟨wv2, ov2, met2, low2, grp2, opn2, now2, g1, g2, g3, g4, g5⟩ := HF.out
          exact ⟨wv2, ov2, met2, low2, grp2, opn2, now2, HI.out.2.2.2.2, g1, g2, fun x hx => by
            by_cases e : x = k
            · subst e; exact g4
            · exact g3 x (HI.out.2.2.1 x (by omega)), HI.out.2.2.2.1.trans g5⟩
        · have h0i : ((met k : Int) == 0) = false := by simp; omega
          have H0 : Hid (0 < met k) := by show _ < _; omega
          clear HK hs hI hm hb hlt hk h0
          go_wp2
          refine ⟨⟨k + 1, by congr 1, ?_⟩, by show n - ((k : Int) + 1).toNat < n - ((k : Int)).toNat; have := HI.out.2.2.2.2; omega⟩
          exact ⟨wv, ov, met, low, grp, opn, now, HI.out.2.2.2.2, HI.out.1, HI.out.2.1, fun x hx => by
            by_cases e : x = k
            · subst e; exact H0.out
            · exact HI.out.2.2.1 x (by omega), HI.out.2.2.2.1⟩
      · have hki : ¬ (k : Int) < (n : Int) := by omega
        have hbb : Below w.heap.size w wr := HB1.out.2.1.trans (hb.mono (by rw [HB1.out.2.2.1]; omega))
        have hrr : Blk wr w.heap.size #[.slice none 0 0, .slice none 0 0] 44 := HB1.out.1.same (hb.block _ (by rw [HB1.out.2.2.1]; omega))
        have r0 := hrr.cell 0 _ rfl
        have r1 := hrr.cell 1 _ rfl
        have s0 := hrr.frozen 0
        have s1 := hrr.frozen 1
        have lr := hrr.lt
        obtain ⟨_, -, lowN, gv, p1, p2, p3, p4, p5, p6⟩ := pt_post (w := w) hs hI (fun x hx => hm x (by omega)) (by rw [HB1.out.2.2.1]; omega) hbb
        have HP : Hid (Parted n adj lowN grp ∧ w.heap.size + 1 ≤ Y.L ∧ w.heap.size + 1 ≤ Y.G ∧ FB wr Y.L n (fun i => nv (lowN i)) 3 ∧ FB wr Y.G n gv 30 ∧ (∀ i, i < n → RowAt wr wr.heap.size (gv i) (grp i) ∧ (∀ g, (gv i).ownBlock = some g → w.heap.size + 1 ≤ g) ∧ (gv i = .slice none 0 0 ↔ grp i = [])) ∧ Below w.heap.size w wr ∧ Blk wr w.heap.size #[.slice none 0 0, .slice none 0 0] 44) := ⟨p1, p2, p3, p4, p5, p6, hbb, hrr⟩
        clear hs hI hm hb p1 p2 p3 p4 p5 p6 hbb hrr hlt hk HK
        go_wp2
        obtain ⟨p1, p2, p3, p4, p5, p6, p7, p8⟩ := HP.out
        have hK := (p8.set 0 (.slice (some ⟨Y.L, 0, none⟩) n n)).set 1 (.slice (some ⟨Y.G, 0, none⟩) n n)
        have hf : PtPost w n adj (.returned (.agg #[.slice (some ⟨Y.L, 0, none⟩) n n, .slice (some ⟨Y.G, 0, none⟩) n n])) ((wr.setCell ⟨w.heap.size, 0, none⟩ (.slice (some ⟨Y.L, 0, none⟩) n n)).setCell ⟨w.heap.size, 1, none⟩ (.slice (some ⟨Y.G, 0, none⟩) n n)) := by
          refine ⟨Y.L, Y.G, lowN, grp, gv, rfl, p1, by omega, by omega, (p4.setOther _ (by omega)).setOther _ (by omega), (p5.setOther _ (by omega)).setOther _ (by omega), fun i hi => ?_, (p7.setCell (p := ⟨w.heap.size, 0, none⟩) (Nat.le_refl _) _).setCell (p := ⟨w.heap.size, 1, none⟩) (Nat.le_refl _) _⟩
          obtain ⟨q1, q2, q3⟩ := p6 i hi
          refine ⟨q1.move (fun g hg h1 h2 => ⟨?_, ?_, ?_⟩), fun g hg => by have := q2 g hg; omega, q3⟩
          · rw [size_set, size_set]; exact h2
          · rw [size_set, size_set]; exact h2
          · have := q2 g hg
            exact (heap_set_other _ _ _ _ _ (by omega)).trans (heap_set_other _ _ _ _ _ (by omega))
        generalize ((wr.setCell ⟨w.heap.size, 0, none⟩ (.slice (some ⟨Y.L, 0, none⟩) n n)).setCell ⟨w.heap.size, 1, none⟩ (.slice (some ⟨Y.G, 0, none⟩) n n)) = WF at hK hf ⊢
        have g0 := hK.cell 0 (.slice (some ⟨Y.L, 0, none⟩) n n) rfl
        have g1 := hK.cell 1 (.slice (some ⟨Y.G, 0, none⟩) n n) rfl
        exact bodyPost_ret (v := .agg #[.slice (some ⟨Y.L, 0, none⟩) n n, .slice (some ⟨Y.G, 0, none⟩) n n]) (by simp [results, Try.results23, go_sem, g0, g1]) rfl hf
  · -- goal 2
    have hst : ∃ Y : Lay, Y.b = w.heap.size + 1 ∧ Y.P = w.heap.size + 1 + 1 ∧ SrAt ((w2.setCell ⟨w.heap.size + 1 + 1, 0, none⟩ (.slice (some ⟨gL, 0, none⟩) n n)).setCell ⟨w.heap.size + 1 + 1, 1, none⟩ (.slice (some ⟨V0.heap.size + 1, 0, none⟩) n n)) Y n adj (.slice none 0 0) (.slice none 0 0) (fun _ => 0) (fun _ => none) (fun _ => []) [] [] 0 ∧ Blk ((w2.setCell ⟨w.heap.size + 1 + 1, 0, none⟩ (.slice (some ⟨gL, 0, none⟩) n n)).setCell ⟨w.heap.size + 1 + 1, 1, none⟩ (.slice (some ⟨V0.heap.size + 1, 0, none⟩) n n)) w.heap.size #[.slice none 0 0, .slice none 0 0] 44 ∧ Below w.heap.size w ((w2.setCell ⟨w.heap.size + 1 + 1, 0, none⟩ (.slice (some ⟨gL, 0, none⟩) n n)).setCell ⟨w.heap.size + 1 + 1, 1, none⟩ (.slice (some ⟨V0.heap.size + 1, 0, none⟩) n n)) := by
        obtain ⟨a1, a2, a3, a4, a5⟩ := H0.out
        have hq1 := Q.out.1
        have hb := pt_base (gG := V0.heap.size + 1) a1 a2 a3 a4 a5 HU.out.1 HU.out.2 Q.out.2.1 (by omega) Q.out.2.2.1
        exact ⟨_, rfl, rfl, hb.start HU.out.2 ((Q.out.2.2.2.setOther _ (by omega)).setOther _ (by omega)) (by omega) (by omega), hb.r, hb.bl⟩
    obtain ⟨Y, hYb, hYP, hs1, hr1, hb1⟩ := hst
    generalize ((w2.setCell ⟨w.heap.size + 1 + 1, 0, none⟩ (.slice (some ⟨gL, 0, none⟩) n n)).setCell ⟨w.heap.size + 1 + 1, 1, none⟩ (.slice (some ⟨V0.heap.size + 1, 0, none⟩) n n)) = W1 at hs1 hr1 hb1 ⊢
    clear x0 x1 y0 y1 z0 Q HR1 HR2 HR3 H0 hmk hmk2
    rw [← hYP]
    have HS1 : Hid (SrAt W1 Y n adj (.slice none 0 0) (.slice none 0 0) (fun _ => 0) (fun _ => none) (fun _ => []) [] [] 0) := hs1
    have HB1 : Hid (Blk W1 w.heap.size #[.slice none 0 0, .slice none 0 0] 44 ∧ Below w.heap.size w W1 ∧ Y.b = w.heap.size + 1 ∧ Y.P = w.heap.size + 1 + 1) := ⟨hr1, hb1, hYb, hYP⟩
    clear hs1 hr1 hb1 hYb hYP hlV
    go_wp2
    go_loopw [21] (fun v wr => ∃ k : Nat, v = .int .i64 (k : Int) ∧ Hid (∃ wv ov met low grp opn now, k ≤ n ∧ SrAt wr Y n adj wv ov met low grp [] opn now ∧ Inv n adj met low grp [] opn now ∧ (∀ x, x < k → 0 < met x) ∧ Below Y.b W1 wr)) (fun v _ => n - (intOf v).toNat)
    case atStart => exact ⟨0, rfl, ⟨_, _, _, _, _, _, _, Nat.zero_le _, HS1.out, inv_start n adj, fun x hx => absurd hx (Nat.not_lt_zero _), Below.refl _ _⟩⟩
    case round =>
      obtain ⟨k, rfl, HK⟩ := hrel
      clear HS1
      obtain ⟨wv, ov, met, low, grp, opn, now, hk, hs, hI, hm, hb⟩ := HK.out
      obtain ⟨c0, c1, c2, c3, c4, c5, c6, f4, f5, f6, lP⟩ := hs.cells
      by_cases hlt : k < n
      · have hki : (k : Int) < (n : Int) := by omega
        have mk : wr.cell? ⟨Y.M, k, none⟩ = some (.int .i64 (met k : Int)) := hs.mt.cell hlt
        have lM := hs.mt.lt
        have HI : Hid (SrAt wr Y n adj wv ov met low grp [] opn now ∧ Inv n adj met low grp [] opn now ∧ (∀ x, x < k → 0 < met x) ∧ Below Y.b W1 wr ∧ k < n) := ⟨hs, hI, hm, hb, hlt⟩
        by_cases h0 : met k = 0
        · have h0i : (met k : Int) = 0 := by omega
          rw [h0i] at mk
          have hC := from_c Y n U adj wv ov met low grp opn now k HN.out.1 HN.out.2.1 HN.out.2.2.1 HN.out.2.2.2 hlt h0 wr hs hI
          have HC : Hid (Calls Try.prog 36 #[.pointer (some ⟨Y.P, 0, none⟩), .int .i64 (k : Int)] wr fun r W' => r = .returned (.tuple #[]) ∧ FrPost wr Y n adj met k W') := hC
          clear hC HK hs hI hm hb hlt hk h0
          go_wp2_with (go_at_call 36; fail)
          refine HC.out.mono ?_
          rintro e W2 ⟨rfl, hF⟩
          have HF : Hid (FrPost wr Y n adj met k W2) := hF
          clear hF HC
          go_wp2
          refine ⟨⟨k + 1, by congr 1, ?_⟩, by show n - ((k : Int) + 1).toNat < n - ((k : Int)).toNat; have := HI.out.2.2.2.2; omega⟩
          obtain ⟨wv2, ov2, met2, low2, grp2, opn2, now2, g1, g2, g3, g4, g5⟩ := HF.out
          exact ⟨wv2, ov2, met2, low2, grp2, opn2, now2, HI.out.2.2.2.2, g1, g2, fun x hx => by
            by_cases e : x = k
            · subst e; exact g4
            · exact g3 x (HI.out.2.2.1 x (by omega)), HI.out.2.2.2.1.trans g5⟩
        · have h0i : ((met k : Int) == 0) = false := by simp; omega
          have H0 : Hid (0 < met k) := by show _ < _; omega
          clear HK hs hI hm hb hlt hk h0
          go_wp2
          refine ⟨⟨k + 1, by congr 1, ?_⟩, by show n - ((k : Int) + 1).toNat < n - ((k : Int)).toNat; have := HI.out.2.2.2.2; omega⟩
          exact ⟨wv, ov, met, low, grp, opn, now, HI.out.2.2.2.2, HI.out.1, HI.out.2.1, fun x hx => by
            by_cases e : x = k
            · subst e; exact H0.out
            · exact HI.out.2.2.1 x (by omega), HI.out.2.2.2.1⟩
      · have hki : ¬ (k : Int) < (n : Int) := by omega
        have hbb : Below w.heap.size w wr := HB1.out.2.1.trans (hb.mono (by rw [HB1.out.2.2.1]; omega))
        have hrr : Blk wr w.heap.size #[.slice none 0 0, .slice none 0 0] 44 := HB1.out.1.same (hb.block _ (by rw [HB1.out.2.2.1]; omega))
        have r0 := hrr.cell 0 _ rfl
        have r1 := hrr.cell 1 _ rfl
        have s0 := hrr.frozen 0
        have s1 := hrr.frozen 1
        have lr := hrr.lt
        obtain ⟨_, -, lowN, gv, p1, p2, p3, p4, p5, p6⟩ := pt_post (w := w) hs hI (fun x hx => hm x (by omega)) (by rw [HB1.out.2.2.1]; omega) hbb
        have HP : Hid (Parted n adj lowN grp ∧ w.heap.size + 1 ≤ Y.L ∧ w.heap.size + 1 ≤ Y.G ∧ FB wr Y.L n (fun i => nv (lowN i)) 3 ∧ FB wr Y.G n gv 30 ∧ (∀ i, i < n → RowAt wr wr.heap.size (gv i) (grp i) ∧ (∀ g, (gv i).ownBlock = some g → w.heap.size + 1 ≤ g) ∧ (gv i = .slice none 0 0 ↔ grp i = [])) ∧ Below w.heap.size w wr ∧ Blk wr w.heap.size #[.slice none 0 0, .slice none 0 0] 44) := ⟨p1, p2, p3, p4, p5, p6, hbb, hrr⟩
        clear hs hI hm hb p1 p2 p3 p4 p5 p6 hbb hrr hlt hk HK
        go_wp2
        obtain ⟨p1, p2, p3, p4, p5, p6, p7, p8⟩ := HP.out
        have hK := (p8.set 0 (.slice (some ⟨Y.L, 0, none⟩) n n)).set 1 (.slice (some ⟨Y.G, 0, none⟩) n n)
        have hf : PtPost w n adj (.returned (.agg #[.slice (some ⟨Y.L, 0, none⟩) n n, .slice (some ⟨Y.G, 0, none⟩) n n])) ((wr.setCell ⟨w.heap.size, 0, none⟩ (.slice (some ⟨Y.L, 0, none⟩) n n)).setCell ⟨w.heap.size, 1, none⟩ (.slice (some ⟨Y.G, 0, none⟩) n n)) := by
          refine ⟨Y.L, Y.G, lowN, grp, gv, rfl, p1, by omega, by omega, (p4.setOther _ (by omega)).setOther _ (by omega), (p5.setOther _ (by omega)).setOther _ (by omega), fun i hi => ?_, (p7.setCell (p := ⟨w.heap.size, 0, none⟩) (Nat.le_refl _) _).setCell (p := ⟨w.heap.size, 1, none⟩) (Nat.le_refl _) _⟩
          obtain ⟨q1, q2, q3⟩ := p6 i hi
          refine ⟨q1.move (fun g hg h1 h2 => ⟨?_, ?_, ?_⟩), fun g hg => by have := q2 g hg; omega, q3⟩
          · rw [size_set, size_set]; exact h2
          · rw [size_set, size_set]; exact h2
          · have := q2 g hg
            exact (heap_set_other _ _ _ _ _ (by omega)).trans (heap_set_other _ _ _ _ _ (by omega))
        generalize ((wr.setCell ⟨w.heap.size, 0, none⟩ (.slice (some ⟨Y.L, 0, none⟩) n n)).setCell ⟨w.heap.size, 1, none⟩ (.slice (some ⟨Y.G, 0, none⟩) n n)) = WF at hK hf ⊢
        have g0 := hK.cell 0 (.slice (some ⟨Y.L, 0, none⟩) n n) rfl
        have g1 := hK.cell 1 (.slice (some ⟨Y.G, 0, none⟩) n n) rfl
        exact bodyPost_ret (v := .agg #[.slice (some ⟨Y.L, 0, none⟩) n n, .slice (some ⟨Y.G, 0, none⟩) n n]) (by simp [results, Try.results23, go_sem, g0, g1]) rfl hf
  · -- goal 3
    have hst : ∃ Y : Lay, Y.b = w.heap.size + 1 ∧ Y.P = w.heap.size + 1 + 1 ∧ SrAt ((w2.setCell ⟨w.heap.size + 1 + 1, 0, none⟩ (.slice (some ⟨gL, 0, none⟩) n n)).setCell ⟨w.heap.size + 1 + 1, 1, none⟩ (.slice (some ⟨V0.heap.size, 0, none⟩) n n)) Y n adj (.slice none 0 0) (.slice none 0 0) (fun _ => 0) (fun _ => none) (fun _ => []) [] [] 0 ∧ Blk ((w2.setCell ⟨w.heap.size + 1 + 1, 0, none⟩ (.slice (some ⟨gL, 0, none⟩) n n)).setCell ⟨w.heap.size + 1 + 1, 1, none⟩ (.slice (some ⟨V0.heap.size, 0, none⟩) n n)) w.heap.size #[.slice none 0 0, .slice none 0 0] 44 ∧ Below w.heap.size w ((w2.setCell ⟨w.heap.size + 1 + 1, 0, none⟩ (.slice (some ⟨gL, 0, none⟩) n n)).setCell ⟨w.heap.size + 1 + 1, 1, none⟩ (.slice (some ⟨V0.heap.size, 0, none⟩) n n)) := by
        obtain ⟨a1, a2, a3, a4, a5⟩ := H0.out
        have hq1 := Q.out.1
        have hb := pt_base (gG := V0.heap.size) a1 a2 a3 a4 a5 HU.out.1 HU.out.2 Q.out.2.1 (by omega) Q.out.2.2.1
        exact ⟨_, rfl, rfl, hb.start HU.out.2 ((Q.out.2.2.2.setOther _ (by omega)).setOther _ (by omega)) (by omega) (by omega), hb.r, hb.bl⟩
    obtain ⟨Y, hYb, hYP, hs1, hr1, hb1⟩ := hst
    generalize ((w2.setCell ⟨w.heap.size + 1 + 1, 0, none⟩ (.slice (some ⟨gL, 0, none⟩) n n)).setCell ⟨w.heap.size + 1 + 1, 1, none⟩ (.slice (some ⟨V0.heap.size, 0, none⟩) n n)) = W1 at hs1 hr1 hb1 ⊢
    clear x0 x1 y0 y1 z0 Q HR1 HR2 HR3 H0 hmk hmk2
    rw [← hYP]
    have HS1 : Hid (SrAt W1 Y n adj (.slice none 0 0) (.slice none 0 0) (fun _ => 0) (fun _ => none) (fun _ => []) [] [] 0) := hs1
    have HB1 : Hid (Blk W1 w.heap.size #[.slice none 0 0, .slice none 0 0] 44 ∧ Below w.heap.size w W1 ∧ Y.b = w.heap.size + 1 ∧ Y.P = w.heap.size + 1 + 1) := ⟨hr1, hb1, hYb, hYP⟩
    clear hs1 hr1 hb1 hYb hYP hlV
    go_wp2
    go_loopw [21] (fun v wr => ∃ k : Nat, v = .int .i64 (k : Int) ∧ Hid (∃ wv ov met low grp opn now, k ≤ n ∧ SrAt wr Y n adj wv ov met low grp [] opn now ∧ Inv n adj met low grp [] opn now ∧ (∀ x, x < k → 0 < met x) ∧ Below Y.b W1 wr)) (fun v _ => n - (intOf v).toNat)
    case atStart => exact ⟨0, rfl, ⟨_, _, _, _, _, _, _, Nat.zero_le _, HS1.out, inv_start n adj, fun x hx => absurd hx (Nat.not_lt_zero _), Below.refl _ _⟩⟩
    case round =>
      obtain ⟨k, rfl, HK⟩ := hrel
      clear HS1
      obtain ⟨wv, ov, met, low, grp, opn, now, hk, hs, hI, hm, hb⟩ := HK.out
      obtain ⟨c0, c1, c2, c3, c4, c5, c6, f4, f5, f6, lP⟩ := hs.cells
      by_cases hlt : k < n
      · have hki : (k : Int) < (n : Int) := by omega
        have mk : wr.cell? ⟨Y.M, k, none⟩ = some (.int .i64 (met k : Int)) := hs.mt.cell hlt
        have lM := hs.mt.lt
        have HI : Hid (SrAt wr Y n adj wv ov met low grp [] opn now ∧ Inv n adj met low grp [] opn now ∧ (∀ x, x < k → 0 < met x) ∧ Below Y.b W1 wr ∧ k < n) := ⟨hs, hI, hm, hb, hlt⟩
        by_cases h0 : met k = 0
        · have h0i : (met k : Int) = 0 := by omega
          rw [h0i] at mk
          have hC := from_c Y n U adj wv ov met low grp opn now k HN.out.1 HN.out.2.1 HN.out.2.2.1 HN.out.2.2.2 hlt h0 wr hs hI
          have HC : Hid (Calls Try.prog 36 #[.pointer (some ⟨Y.P, 0, none⟩), .int .i64 (k : Int)] wr fun r W' => r = .returned (.tuple #[]) ∧ FrPost wr Y n adj met k W') := hC
          clear hC HK hs hI hm hb hlt hk h0
          go_wp2_with (go_at_call 36; fail)
          refine HC.out.mono ?_
          rintro e W2 ⟨rfl, hF⟩
          have HF : Hid (FrPost wr Y n adj met k W2) := hF
          clear hF HC
          go_wp2
          refine ⟨⟨k + 1, by congr 1, ?_⟩, by show n - ((k : Int) + 1).toNat < n - ((k : Int)).toNat; have := HI.out.2.2.2.2; omega⟩
          obtain ⟨wv2, ov2, met2, low2, grp2, opn2, now2, g1, g2, g3, g4, g5⟩ := HF.out
          exact ⟨wv2, ov2, met2, low2, grp2, opn2, now2, HI.out.2.2.2.2, g1, g2, fun x hx => by
            by_cases e : x = k
            · subst e; exact g4
            · exact g3 x (HI.out.2.2.1 x (by omega)), HI.out.2.2.2.1.trans g5⟩
        · have h0i : ((met k : Int) == 0) = false := by simp; omega
          have H0 : Hid (0 < met k) := by show _ < _; omega
          clear HK hs hI hm hb hlt hk h0
          go_wp2
          refine ⟨⟨k + 1, by congr 1, ?_⟩, by show n - ((k : Int) + 1).toNat < n - ((k : Int)).toNat; have := HI.out.2.2.2.2; omega⟩
          exact ⟨wv, ov, met, low, grp, opn, now, HI.out.2.2.2.2, HI.out.1, HI.out.2.1, fun x hx => by
            by_cases e : x = k
            · subst e; exact H0.out
            · exact HI.out.2.2.1 x (by omega), HI.out.2.2.2.1⟩
      · have hki : ¬ (k : Int) < (n : Int) := by omega
        have hbb : Below w.heap.size w wr := HB1.out.2.1.trans (hb.mono (by rw [HB1.out.2.2.1]; omega))
        have hrr : Blk wr w.heap.size #[.slice none 0 0, .slice none 0 0] 44 := HB1.out.1.same (hb.block _ (by rw [HB1.out.2.2.1]; omega))
        have r0 := hrr.cell 0 _ rfl
        have r1 := hrr.cell 1 _ rfl
        have s0 := hrr.frozen 0
        have s1 := hrr.frozen 1
        have lr := hrr.lt
        obtain ⟨_, -, lowN, gv, p1, p2, p3, p4, p5, p6⟩ := pt_post (w := w) hs hI (fun x hx => hm x (by omega)) (by rw [HB1.out.2.2.1]; omega) hbb
        have HP : Hid (Parted n adj lowN grp ∧ w.heap.size + 1 ≤ Y.L ∧ w.heap.size + 1 ≤ Y.G ∧ FB wr Y.L n (fun i => nv (lowN i)) 3 ∧ FB wr Y.G n gv 30 ∧ (∀ i, i < n → RowAt wr wr.heap.size (gv i) (grp i) ∧ (∀ g, (gv i).ownBlock = some g → w.heap.size + 1 ≤ g) ∧ (gv i = .slice none 0 0 ↔ grp i = [])) ∧ Below w.heap.size w wr ∧ Blk wr w.heap.size #[.slice none 0 0, .slice none 0 0] 44) := ⟨p1, p2, p3, p4, p5, p6, hbb, hrr⟩
        clear hs hI hm hb p1 p2 p3 p4 p5 p6 hbb hrr hlt hk HK
        go_wp2
        obtain ⟨p1, p2, p3, p4, p5, p6, p7, p8⟩ := HP.out
        have hK := (p8.set 0 (.slice (some ⟨Y.L, 0, none⟩) n n)).set 1 (.slice (some ⟨Y.G, 0, none⟩) n n)
        have hf : PtPost w n adj (.returned (.agg #[.slice (some ⟨Y.L, 0, none⟩) n n, .slice (some ⟨Y.G, 0, none⟩) n n])) ((wr.setCell ⟨w.heap.size, 0, none⟩ (.slice (some ⟨Y.L, 0, none⟩) n n)).setCell ⟨w.heap.size, 1, none⟩ (.slice (some ⟨Y.G, 0, none⟩) n n)) := by
          refine ⟨Y.L, Y.G, lowN, grp, gv, rfl, p1, by omega, by omega, (p4.setOther _ (by omega)).setOther _ (by omega), (p5.setOther _ (by omega)).setOther _ (by omega), fun i hi => ?_, (p7.setCell (p := ⟨w.heap.size, 0, none⟩) (Nat.le_refl _) _).setCell (p := ⟨w.heap.size, 1, none⟩) (Nat.le_refl _) _⟩
          obtain ⟨q1, q2, q3⟩ := p6 i hi
          refine ⟨q1.move (fun g hg h1 h2 => ⟨?_, ?_, ?_⟩), fun g hg => by have := q2 g hg; omega, q3⟩
          · rw [size_set, size_set]; exact h2
          · rw [size_set, size_set]; exact h2
          · have := q2 g hg
            exact (heap_set_other _ _ _ _ _ (by omega)).trans (heap_set_other _ _ _ _ _ (by omega))
        generalize ((wr.setCell ⟨w.heap.size, 0, none⟩ (.slice (some ⟨Y.L, 0, none⟩) n n)).setCell ⟨w.heap.size, 1, none⟩ (.slice (some ⟨Y.G, 0, none⟩) n n)) = WF at hK hf ⊢
        have g0 := hK.cell 0 (.slice (some ⟨Y.L, 0, none⟩) n n) rfl
        have g1 := hK.cell 1 (.slice (some ⟨Y.G, 0, none⟩) n n) rfl
        exact bodyPost_ret (v := .agg #[.slice (some ⟨Y.L, 0, none⟩) n n, .slice (some ⟨Y.G, 0, none⟩) n n]) (by simp [results, Try.results23, go_sem, g0, g1]) rfl hf
end Go.Proofs.Ytkkpkcigflikkaa
