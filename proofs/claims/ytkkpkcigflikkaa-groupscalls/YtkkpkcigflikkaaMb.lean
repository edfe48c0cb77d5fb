/-
  Package groups: what inOrder holds in memory.
-/
import Derived.Test.YtkkpkcigflikkaaKg
import Derived.Test.YtkkpkcigflikkaaMa
import Derived.Test.YtkkpkcigflikkaaHi
import Derived.WalkSpells
namespace Go.Proofs.Ytkkpkcigflikkaa
open Go.RowKit Go.Shelf Go.Maps G
set_option linter.unusedVariables false

structure IoL where
  s : Nat
  L : Nat
  G : Nat
  B0 : Nat
  B1 : Nat
  B2 : Nat
  T : Nat
structure IoI (w : World) (Z : IoL) (n : Nat) (E : List (Nat × Nat)) (gv : Nat → Value) (grp : Nat → List Nat) (wa : Nat → Nat) (tv : Value) (H : List Nat) (av : Value) (S : List Nat) (W : World) : Prop where
  box : Blk W Z.B0 #[.slice (some ⟨Z.L, 0, none⟩) n n, .slice (some ⟨Z.G, 0, none⟩) n n] 44
  us : ∃ u : Nat → Value, FB W Z.B1 n u 30 ∧ ∀ i, i < n → RowAt W Z.T (u i) (usF E i) ∧ (∀ g, (u i).ownBlock = some g → Z.s + 2 ≤ g)
  gr : FB W Z.G n gv 30
  gw : ∀ i, i < n → RowAt W Z.s (gv i) (grp i)
  wt : FB W Z.B2 n (fun u => nv (wa u)) 3
  tn : TurnAt W Z.T tv H
  hp : Hp H H.length
  al : W.ownsRow (Z.T + 1) 30 1 av S.length (S.map gv)
  se : ∀ g, av.ownBlock = some g → tv.ownBlock ≠ some g
  bl : Below w.heap.size w W
  o0 : Z.B0 < Z.s
  oG : Z.G < Z.s
  oL : Z.L < Z.s
  o1 : Z.B1 ≠ Z.B2
  o2 : Z.s ≤ Z.B1
  o3 : Z.s ≤ Z.B2
  o4 : Z.B1 < Z.s + 2
  o5 : Z.B2 < Z.s + 2
  o6 : Z.s + 2 ≤ Z.T
  o7 : w.heap.size ≤ Z.s
section
variable {w W W' : World} {Z : IoL} {n : Nat} {E : List (Nat × Nat)} {gv : Nat → Value} {grp : Nat → List Nat} {wa wa' : Nat → Nat} {tv tv' : Value} {H H' : List Nat} {av av' : Value} {S S' : List Nat}
theorem IoI.drew (h : IoI w Z n E gv grp wa tv H av S W) : IoI w Z n E gv grp wa tv H av S W.drew := ⟨h.box, h.us, h.gr, h.gw, h.wt, h.tn.drew, h.hp, h.al, h.se, h.bl.drew, h.o0, h.oG, h.oL, h.o1, h.o2, h.o3, h.o4, h.o5, h.o6, h.o7⟩
/-- All below the heap stays. -/
theorem IoI.low (h : IoI w Z n E gv grp wa tv H av S W) (hs : W.heap.size ≤ W'.heap.size) (hk : ∀ k, k < Z.T → W'.heap[k]? = W.heap[k]?) (ht : TurnAt W' Z.T tv' H') (hp : Hp H' H'.length) (ha : W'.ownsRow (Z.T + 1) 30 1 av' S'.length (S'.map gv)) (hse : ∀ g, av'.ownBlock = some g → tv'.ownBlock ≠ some g) (hb : Below w.heap.size w W') : IoI w Z n E gv grp wa tv' H' av' S' W' := by
  have o0 := h.o0; have oG := h.oG; have o2 := h.o2; have o3 := h.o3; have o4 := h.o4; have o5 := h.o5; have o6 := h.o6
  refine ⟨h.box.same (hk _ (by omega)), ?_, h.gr.same (hk _ (by omega)), fun i hi => (h.gw i hi).move (fun g _ h1 h2 => ⟨h1, by omega, hk g (by omega)⟩), h.wt.same (hk _ (by omega)), ht, hp, ha, hse, hb, o0, oG, h.oL, h.o1, o2, o3, o4, o5, o6, h.o7⟩
  obtain ⟨u, h1, h2⟩ := h.us
  exact ⟨u, h1.same (hk _ (by omega)), fun i hi => ⟨(h2 i hi).1.move (fun g _ h3 h4 => ⟨h3, by omega, hk g h3⟩), (h2 i hi).2⟩⟩
theorem IoI.heap (h : IoI w Z n E gv grp wa tv H av S W) (ht : TurnAt W' Z.T tv' H') (hp : Hp H' H'.length) (hf : Fr Z.T tv W W' tv') (hb : Below Z.T W W') : IoI w Z n E gv grp wa tv' H' av S W' := by
  have o6 := h.o6; have o7 := h.o7
  have lT := h.tn.b.lt
  refine h.low hf.size (fun k hk => hb.block k hk) ht hp (owns_same h.al (fun g hg => hf.blk g (owns_lt h.al hg).2 (by have := (owns_lt h.al hg).1; omega) (h.se g hg))) (fun g hg e => ?_) (h.bl.trans (hb.mono (by omega)))
  rcases hf.own g e with h1 | h1
  · exact h.se g hg h1
  · have := (owns_lt h.al hg).2; omega
theorem IoI.app {o : Obj} (h : IoI w Z n E gv grp wa tv H av S W) (hg : (W.alloc o).grownBy W' av.ownBlock) (ha : W'.ownsRow (Z.T + 1) 30 1 av' S'.length (S'.map gv)) (hn : ∀ g, av'.ownBlock = some g → av.ownBlock = some g ∨ W.heap.size ≤ g) : IoI w Z n E gv grp wa tv H av' S' W' := by
  have o6 := h.o6; have o7 := h.o7
  have lT := h.tn.b.lt
  have hsz : W.heap.size + 1 ≤ W'.heap.size := by have := hg.size; simpa using this
  have oth : ∀ k, k < W.heap.size → av.ownBlock ≠ some k → W'.heap[k]? = W.heap[k]? := fun k hk hne => (grown_block hg (by simp; omega) hne).trans (Below.heap_alloc W _ k hk)
  have hT : ∀ k, k ≤ Z.T → av.ownBlock ≠ some k := fun k hk e => by have := (owns_lt h.al e).1; omega
  refine h.low (by omega) (fun k hk => oth k (by omega) (hT k (by omega))) ⟨h.tn.b.same (oth _ lT (hT _ (Nat.le_refl _))), owns_same h.tn.r (fun g hg2 => oth g (owns_lt h.tn.r hg2).2 (fun e => h.se g e hg2))⟩ h.hp ha (fun g hg2 e => ?_) ((h.bl.alloc h.bl.size _).grown hg (by have := h.bl.size; simp; omega) (fun g hg2 => by have := (owns_lt h.al hg2).1; omega))
  rcases hn g hg2 with h1 | h1
  · exact h.se g h1 e
  · have := (owns_lt h.tn.r e).2; omega
theorem IoI.wait (h : IoI w Z n E gv grp wa tv H av S W) (u x : Nat) : IoI w Z n E gv grp (upd wa u x) tv H av S (W.setCell ⟨Z.B2, u, none⟩ (nv x)) := by
  have o0 := h.o0; have oG := h.oG; have o2 := h.o2; have o3 := h.o3; have o4 := h.o4; have o5 := h.o5; have o6 := h.o6; have o7 := h.o7; have o1 := h.o1
  have oth : ∀ k, k ≠ Z.B2 → (W.setCell ⟨Z.B2, u, none⟩ (nv x)).heap[k]? = W.heap[k]? := fun k hk => heap_set_other _ _ _ _ _ hk
  have sz := size_set W Z.B2 u (nv x)
  refine ⟨h.box.same (oth _ (by omega)), ?_, h.gr.same (oth _ (by omega)), fun i hi => (h.gw i hi).move (fun g _ h1 h2 => ⟨h1, by omega, oth g (by omega)⟩), h.wt.setEq _ (fun j hj => ?_), ⟨h.tn.b.same (oth _ (by omega)), owns_same h.tn.r (fun g hg => oth g (by have := (owns_lt h.tn.r hg).1; omega))⟩, h.hp, owns_same h.al (fun g hg => oth g (by have := (owns_lt h.al hg).1; omega)), h.se, h.bl.setCell (p := ⟨Z.B2, u, none⟩) (by show w.heap.size ≤ Z.B2; omega) _, o0, oG, h.oL, o1, o2, o3, o4, o5, o6, o7⟩
  · obtain ⟨v, h1, h2⟩ := h.us
    exact ⟨v, h1.same (oth _ (by omega)), fun i hi => ⟨(h2 i hi).1.move (fun g hg h3 h4 => ⟨h3, by omega, oth g (by have := (h2 i hi).2 g hg; omega)⟩), (h2 i hi).2⟩⟩
  · unfold upd; split <;> rfl
end
theorem neqSome (a : Addr) (n c : Nat) (w : World) : (binOp .neq 30 (.slice (some a) n c) (.slice none 0 0)).run Try.prog w = .ok (.bool true) w := run_neq_slice_nil_any w 30 3 (some a) n c 0 0 Try.underlying30
theorem neqNone (n c : Nat) (w : World) : (binOp .neq 30 (.slice none n c) (.slice none 0 0)).run Try.prog w = .ok (.bool false) w := run_neq_slice_nil_any w 30 3 none n c 0 0 Try.underlying30
def isFree (low : Nat → Nat) (E : List (Nat × Nat)) (p : Nat) : Bool := decide (low p = p) && (waF E p == 0)
theorem ki_start {n : Nat} {low : Nat → Nat} {E : List (Nat × Nat)} {H : List Nat} (hp : H.Perm ((List.range n).filter (isFree low E))) : KI n low E [] H (waF E) := by
  have hmem : ∀ g, g ∈ H ↔ (g < n ∧ low g = g ∧ waF E g = 0) := fun g => by
    rw [hp.mem_iff, List.mem_filter, List.mem_range]
    simp [isFree]
  refine ⟨?_, fun g hg => ?_, fun u hu => (cnt_nil E u).symm, fun g h1 h2 h3 => ?_, fun A g B e => ?_⟩
  · rw [List.nil_append, hp.nodup_iff]
    exact List.Pairwise.filter _ List.nodup_range
  · rw [List.nil_append] at hg
    have := (hmem g).1 hg
    exact ⟨this.1, this.2.1⟩
  · rw [hmem]; exact ⟨fun h => h.2.2, fun h => ⟨h1, h2, h⟩⟩
  · have := congrArg List.length e; simp at this
theorem ki_len {n : Nat} {low : Nat → Nat} {E : List (Nat × Nat)} {S H : List Nat} {wa : Nat → Nat} (h : KI n low E S H wa) : S.length + H.length ≤ n := by
  have := nodup_lt n (S ++ H) h.nd (fun x hx => (h.hd x hx).1)
  simpa using this
theorem kj_len {n : Nat} {low : Nat → Nat} {E : List (Nat × Nat)} {S H : List Nat} {s j : Nat} {wa : Nat → Nat} (h : KJ n low E S H s j wa) : S.length + 1 + H.length ≤ n := by
  have := nodup_lt n ((S ++ [s]) ++ H) h.nd (fun x hx => (h.hd x hx).1)
  simp at this; omega
theorem head_iff {n : Nat} {adj : Nat → List Nat} {low : Nat → Nat} {grp : Nat → List Nat} (hP : Parted n adj low grp) {p : Nat} (hp : p < n) : grp p = [] ↔ ¬ low p = p := by
  constructor
  · intro h e
    have := ((hP.gr p hp e).2 p).2 ⟨hp, e⟩
    rw [h] at this; simp at this
  · exact hP.ge p hp
theorem range_filter_next (P : Nat → Bool) (k : Nat) : (List.range (k + 1)).filter P = (List.range k).filter P ++ (if P k = true then [k] else []) := by
  rw [List.range_succ, List.filter_append]
  congr 1
  by_cases h : P k = true <;> simp [h]
/-- What inOrder answers. -/
def IoPost (w : World) (n : Nat) (adj : Nat → List Nat) (low : Nat → Nat) (grp : Nat → List Nat) (r : Ending) (W' : World) : Prop := ∃ (S : List Nat) (av : Value) (gv : Nat → Value), r = .returned av ∧ Ordered n adj low S ∧ W'.ownsRow w.heap.size 30 1 av S.length (S.map gv) ∧ (∀ i, i < n → RowAt W' W'.heap.size (gv i) (grp i)) ∧ Below w.heap.size w W'
set_option maxHeartbeats 8000000 in
set_option maxRecDepth 100000 in
theorem inOrder_c (n b Ub L G U : Nat) (adj : Nat → List Nat) (low : Nat → Nat) (grp : Nat → List Nat) (gv : Nat → Value) (hP : Parted n adj low grp) (hn : n ≤ 20000) (hU : ∀ x, x < n → (adj x).length ≤ U) (hU2 : U ≤ 1000000) (hadj : ∀ x, x < n → ∀ y ∈ adj x, y < n) (w : World) (hus : RowsAt w b Ub n adj) (hb : b ≤ w.heap.size) (hL : FB w L n (fun i => nv (low i)) 3) (hG : FB w G n gv 30) (hgw : ∀ i, i < n → RowAt w w.heap.size (gv i) (grp i) ∧ (gv i = .slice none 0 0 ↔ grp i = [])) :
    Calls Try.prog 22 #[.slice (some ⟨Ub, 0, none⟩) n n, .agg #[.slice (some ⟨L, 0, none⟩) n n, .slice (some ⟨G, 0, none⟩) n n]] w fun r W' => IoPost w n adj low grp r W' := by
  have hni : (n : Int) ≤ 20000 := by omega
  have nq1 := neqSome
  have nq2 := neqNone
  have HN : Hid (n ≤ 20000 ∧ (∀ x, x < n → (adj x).length ≤ U) ∧ U ≤ 1000000 ∧ (∀ x, x < n → ∀ y ∈ adj x, y < n) ∧ Parted n adj low grp) := ⟨hn, hU, hU2, hadj, hP⟩
  have HW : Hid (RowsAt w b Ub n adj ∧ b ≤ w.heap.size ∧ FB w L n (fun i => nv (low i)) 3 ∧ FB w G n gv 30 ∧ (∀ i, i < n → RowAt w w.heap.size (gv i) (grp i) ∧ (gv i = .slice none 0 0 ↔ grp i = []))) := ⟨hus, hb, hL, hG, hgw⟩
  obtain ⟨V0, hV0⟩ : ∃ V0, w.alloc (.cells #[.slice (some ⟨L, 0, none⟩) n n, .slice (some ⟨G, 0, none⟩) n n] 44) = V0 := ⟨_, rfl⟩
  have hb0 : Below w.heap.size w V0 := by rw [← hV0]; exact below1 w _
  have hk0 : Blk V0 w.heap.size #[.slice (some ⟨L, 0, none⟩) n n, .slice (some ⟨G, 0, none⟩) n n] 44 := by rw [← hV0]; exact Blk.new w _ _
  have hs0 : V0.heap.size = w.heap.size + 1 := by rw [← hV0]; simp
  have HV : Hid (w.alloc (.cells #[.slice (some ⟨L, 0, none⟩) n n, .slice (some ⟨G, 0, none⟩) n n] 44) = V0) := hV0
  have HB := between_c n b Ub L U adj low hn hU hU2 hadj (fun x hx => by have := (hP.lo x hx).2.1; omega) V0 (hus.below hb0 hb) (by omega) (hL.below hb0 hL.lt)
  have HBt : Hid (Calls Try.prog 31 #[.slice (some ⟨Ub, 0, none⟩) n n, .slice (some ⟨L, 0, none⟩) n n] V0 fun r W' => BtPost V0 n (edL low adj n) r W') := HB
  have H0 : Hid (Below w.heap.size w V0 ∧ Blk V0 w.heap.size #[.slice (some ⟨L, 0, none⟩) n n, .slice (some ⟨G, 0, none⟩) n n] 44 ∧ V0.heap.size = w.heap.size + 1) := ⟨hb0, hk0, hs0⟩
  have l0 := hk0.cell 0 _ rfl
  have lw := hk0.lt
  clear HB hV0 hb0 hk0 hs0 hus hb hL hG hgw hn hU hU2 hadj hP
  go_enter Try.func22, Try.ntmps22
  go_wp2_with (go_at_call 31; fail)
  rw [HV.out]
  refine HBt.out.mono ?_
  rintro e w1 ⟨B1, B2, rfl, hBt⟩
  have HB1 : Hid (BtI V0 n (edL low adj n) B1 B2 w1) := hBt
  obtain ⟨V1, hV1⟩ : ∃ V1, w1.alloc (.cells #[.slice none 0 0] 60) = V1 := ⟨_, rfl⟩
  have HV1 : Hid (w1.alloc (.cells #[.slice none 0 0] 60) = V1) := hV1
  obtain ⟨Z, hZ⟩ : ∃ Z : IoL, Z = ⟨V0.heap.size, L, G, w.heap.size, B1, B2, w1.heap.size⟩ := ⟨_, rfl⟩
  have hI : IoI w Z n (edL low adj n) gv grp (waF (edL low adj n)) (.slice none 0 0) [] (.slice none 0 0) [] V1 := by
    have hsz := hBt.b.size
    have hs0 := H0.out.2.2
    have hb1 : Below V0.heap.size V0 V1 := by rw [← hV1]; exact hBt.b.alloc hBt.b.size _
    have hbw : Below w.heap.size w V1 := H0.out.1.trans (hb1.mono (by omega))
    have hb11 : Below w1.heap.size w1 V1 := by rw [← hV1]; exact below1 w1 _
    obtain ⟨u, u1, u2, u3, u4, u5⟩ := hBt.g
    rw [hZ]
    refine ⟨H0.out.2.1.below hb1, ⟨u, u1.below hb11 u1.lt, fun i hi => ⟨(owns_row (u2 i hi) (fun g hg => (owns_lt (u2 i hi) hg).2)).move (fun g _ h1 h2 => ⟨h1, Nat.lt_of_lt_of_le h2 hb11.size, hb11.block g h2⟩), fun g hg => (owns_lt (u2 i hi) hg).1⟩⟩, HW.out.2.2.2.1.below hbw HW.out.2.2.2.1.lt, fun i hi => (HW.out.2.2.2.2 i hi).1.move (fun g _ h1 h2 => ⟨by show g < V0.heap.size; omega, Nat.lt_of_lt_of_le h2 hbw.size, hbw.block g h2⟩), hBt.f.below hb11 hBt.f.lt, ⟨?_, owns_nil _ _ _ _⟩, fun j _ h => absurd h (Nat.not_lt_zero _), owns_nil _ _ _ _, fun g hg => (by cases hg), hbw, by show w.heap.size < V0.heap.size; omega, by show G < V0.heap.size; have := HW.out.2.2.2.1.lt; omega, by show L < V0.heap.size; have := HW.out.2.2.1.lt; omega, hBt.ne, hBt.l1, hBt.l2, hBt.h1, hBt.h2, u5, by show w.heap.size ≤ V0.heap.size; omega⟩
    rw [← hV1]; exact Blk.new w1 _ _
  have HI : Hid (IoI w Z n (edL low adj n) gv grp (waF (edL low adj n)) (.slice none 0 0) [] (.slice none 0 0) [] V1) := hI
  have z0 : Z.B0 = w.heap.size := by rw [hZ]
  have zG : Z.G = G := by rw [hZ]
  have z1 : Z.B1 = B1 := by rw [hZ]
  have z2 : Z.B2 = B2 := by rw [hZ]
  have zT : Z.T = w1.heap.size := by rw [hZ]
  have x1 := hI.box.cell 1 _ rfl
  have xl := hI.box.lt
  rw [z0] at x1 xl
  rw [zG] at x1
  clear hV1 hZ hBt HBt HB1 l0 lw HV hI
  go_upto_region 3 with fail
  rw [HV1.out, ← z1, ← z2, ← zT]
  have HZ : Hid (Z.G = G ∧ Z.B0 = w.heap.size) := ⟨zG, z0⟩
  clear HV1 z0 zG z1 z2 zT
  go_wp2
  go_loopw [24] (fun v8 wr => ∃ k : Nat, v8 = .int .i64 (k : Int) ∧ Hid (∃ tv H, k ≤ n ∧ IoI w Z n (edL low adj n) gv grp (waF (edL low adj n)) tv H (.slice none 0 0) [] wr ∧ H.Perm ((List.range k).filter (isFree low (edL low adj n))))) (fun v _ => n - (intOf v).toNat)
  case atStart => exact ⟨0, rfl, ⟨_, _, Nat.zero_le _, HI.out, by simp⟩⟩
  case round =>
    clear HI
    obtain ⟨k, rfl, HK⟩ := hrel
    obtain ⟨tv, H, hk, hI, hp⟩ := HK.out
    have HIk : Hid (IoI w Z n (edL low adj n) gv grp (waF (edL low adj n)) tv H (.slice none 0 0) [] wr ∧ H.Perm ((List.range k).filter (isFree low (edL low adj n))) ∧ k ≤ n) := ⟨hI, hp, hk⟩
    clear HK
    by_cases hlt : k < n
    · have hki : (k : Int) < (n : Int) := by omega
      have gk := hI.gr.cell hlt
      have lG := hI.gr.lt
      rw [HZ.out.1] at gk lG
      have HH := head_iff HN.out.2.2.2.2 hlt
      have hiff := (HW.out.2.2.2.2 k hlt).2
      have wk : wr.cell? ⟨Z.B2, k, none⟩ = some (.int .i64 (waF (edL low adj n) k : Int)) := hI.wt.cell hlt
      have lB2 := hI.wt.lt
      have HKn : Hid (k < n) := hlt
      have hHl : H.length ≤ 20000 := by have := hp.length_eq; have h2 := List.length_filter_le (isFree low (edL low adj n)) (List.range k); simp at h2; have := HN.out.1; omega
      by_cases hhd : low k = k
      · have hne : grp k ≠ [] := fun e => (HH.1 e) hhd
        obtain ⟨gg, gc, hgv⟩ : ∃ gg gc, gv k = .slice (some ⟨gg, 0, none⟩) (grp k).length gc := by
          rcases hI.gw k hlt with ⟨h1, h2⟩ | ⟨gg, gc, h1, _⟩
          · exact absurd h2 hne
          · exact ⟨gg, gc, h1⟩
        rw [hgv] at gk
        by_cases hw : waF (edL low adj n) k = 0
        · have hw0 : (waF (edL low adj n) k : Int) = 0 := by omega
          rw [hw0] at wk
          have hA := add_c Z.T tv H k (by omega) hI.hp wr hI.tn
          have HA : Hid (Calls Try.prog 32 #[.pointer (some ⟨Z.T, 0, none⟩), .int .i64 (k : Int)] wr fun r W' => r = .returned (.tuple #[]) ∧ (∃ v' l', TurnAt W' Z.T v' l' ∧ l'.Perm (H ++ [k]) ∧ Hp l' l'.length ∧ Fr Z.T tv wr W' v') ∧ Below Z.T wr W') := hA
          have HF : Hid (isFree low (edL low adj n) k = true) := by show _ = _; simp [isFree, hhd, hw]
          clear hA hI hp hk hlt HH hiff hne hHl hhd hw hgv
          go_wp2_with (go_at_call 32; fail)
          refine HA.out.mono ?_
          rintro e w2 ⟨rfl, ⟨v2, l2, q1, q2, q3, q4⟩, q5⟩
          have HR : Hid (IoI w Z n (edL low adj n) gv grp (waF (edL low adj n)) v2 l2 (.slice none 0 0) [] w2 ∧ l2.Perm ((List.range (k + 1)).filter (isFree low (edL low adj n)))) := ⟨HIk.out.1.heap q1 q3 q4 q5, by rw [range_filter_next, if_pos HF.out]; exact q2.trans (HIk.out.2.1.append_right _)⟩
          clear q1 q2 q3 q4 q5 HA
          go_wp2
          refine ⟨⟨k + 1, by congr 1, ⟨v2, l2, HKn.out, HR.out.1, HR.out.2⟩⟩, ?_⟩
          show n - ((k : Int) + 1).toNat < n - ((k : Int)).toNat
          have := HKn.out; omega
        · have hw0 : ((waF (edL low adj n) k : Int) == 0) = false := by simp; omega
          have HF : Hid (isFree low (edL low adj n) k = false) := by show _ = _; simp [isFree, hhd, hw]
          clear hI hp hk hlt HH hiff hne hHl hhd hw hgv
          go_wp2
          refine ⟨⟨k + 1, by congr 1, ⟨tv, H, HKn.out, HIk.out.1, by rw [range_filter_next, HF.out]; simpa using HIk.out.2.1⟩⟩, ?_⟩
          show n - ((k : Int) + 1).toNat < n - ((k : Int)).toNat
          have := HKn.out; omega
      · have hgv : gv k = .slice none 0 0 := hiff.2 (HH.2 hhd)
        rw [hgv] at gk
        have HF : Hid (isFree low (edL low adj n) k = false) := by show _ = _; simp [isFree, hhd]
        clear hI hp hk hlt HH hiff hHl hhd hgv
        go_wp2
        refine ⟨⟨k + 1, by congr 1, ⟨tv, H, HKn.out, HIk.out.1, by rw [range_filter_next, HF.out]; simpa using HIk.out.2.1⟩⟩, ?_⟩
        show n - ((k : Int) + 1).toNat < n - ((k : Int)).toNat
        have := HKn.out; omega
    · have hki : ¬ (k : Int) < (n : Int) := by omega
      have hkn : k = n := by omega
      have HK2 : Hid (IoI w Z n (edL low adj n) gv grp (waF (edL low adj n)) tv H (.slice none 0 0) [] wr ∧ KI n low (edL low adj n) [] H (waF (edL low adj n))) := ⟨hI, ki_start (by rw [hkn] at hp; exact hp)⟩
      clear hI hp hk hlt hkn HIk
      obtain ⟨i0, hi0, hz0, hz1, hz2⟩ := info_parts infoInts
      have HI0 : Hid (Try.prog.info? 30 = some i0 ∧ i0.zero = some (.slice none 0 0) ∧ i0.size = 1 ∧ i0.bytes = 24) := ⟨hi0, hz0, hz1, hz2⟩
      clear hi0 hz0 hz1 hz2 x1 xl
      obtain ⟨wp, hwp⟩ : ∃ wp, wp = wr := ⟨_, rfl⟩
      subst hwp
      go_wp2
      go_loopg [10] (n + 1) (fun g v10 wr => Hid (∃ wa tv H S, IoI w Z n (edL low adj n) gv grp wa tv H v10 S wr ∧ KI n low (edL low adj n) S H wa ∧ n + 1 - S.length ≤ g))
      case atStart => exact ⟨_, _, _, _, HK2.out.1, HK2.out.2, Nat.le_refl _⟩
      case round =>
        clear HK2
        obtain ⟨wa, tv, H, S, hI, hK, hg⟩ := hrel.out
        clear hrel
        obtain ⟨ao, ac, hav, hac1, hac2⟩ := owns_form hI.al
        subst hav
        obtain ⟨to, tc, htv, htc1, htc2⟩ := owns_form hI.tn.r
        subst htv
        have hlen := ki_len hK
        have tT := hI.tn.b.cell 0 _ rfl
        have tl := hI.tn.b.lt
        obtain ⟨hlH, hhl⟩ : ∃ hlH, H.length = hlH := ⟨_, rfl⟩
        have HLn : Hid (∀ X : World, Calls Try.prog 33 #[.slice to hlH tc] X fun r W' => r = .returned (.int .i64 (hlH : Int)) ∧ W' = X) := fun X => hLen_c to hlH tc (by have := HN.out.1; omega) X
        have HR : Hid (IoI w Z n (edL low adj n) gv grp wa (.slice to H.length tc) H (.slice ao S.length ac) S wr ∧ KI n low (edL low adj n) S H wa ∧ n + 1 - S.length ≤ gk ∧ S.length + H.length ≤ n ∧ H.length = hlH) := ⟨hI, hK, hg, hlen, hhl⟩
        rw [hhl] at tT
        have hli : (hlH : Int) ≤ 20000 := by have := HN.out.1; omega
        clear hI hK hg hac1 hac2 htc1 htc2 hlen
        by_cases hH : H = []
        · have hl0 : hlH = 0 := by rw [← hhl, hH]; rfl
          have hl1 : (hlH : Int) = 0 := by omega
          have HH : Hid (H = []) := hH
          clear hH hhl hl0
          go_wp2_with (go_at_call 33; fail)
          refine (HLn.out _).mono ?_
          rintro e w2 ⟨rfl, hw2⟩
          have hw3 := hw2.symm
          subst hw3
          clear hw2
          go_wp2
          go_ret
          have hK := HR.out.2.1
          rw [HH.out] at hK
          have hI := HR.out.1
          refine ⟨S, _, gv, rfl, hK.all HN.out.2.2.2.2 HN.out.2.2.2.1, owns_mono hI.al (by have := hI.o6; have := hI.o7; omega), fun i hi => (hI.gw i hi).move (fun g _ h1 h2 => ⟨h2, h2, rfl⟩), hI.bl⟩
        · have hl0 : 0 < hlH := by rw [← hhl]; exact List.length_pos_iff.2 hH
          have hl1 : (0 : Int) < (hlH : Int) := by omega
          have hTk := take_c Z.T (.slice to H.length tc) H (by have := HR.out.2.2.2.1; have := HN.out.1; omega) hH HR.out.1.hp wr HR.out.1.tn
          have HTk : Hid (Calls Try.prog 34 #[.pointer (some ⟨Z.T, 0, none⟩)] wr fun r W' => ∃ x v' l', r = .returned (.int .i64 ((x : Nat) : Int)) ∧ TurnAt W' Z.T v' l' ∧ (x :: l').Perm H ∧ Hp l' l'.length ∧ (∀ y ∈ l', x ≤ y) ∧ Below Z.T wr W' ∧ Fr Z.T (.slice to H.length tc) wr W' v') := hTk
          clear hTk hH hhl hl0
          go_wp2_with (go_at_call 33; fail)
          refine (HLn.out _).mono ?_
          rintro e w2 ⟨rfl, hw2⟩
          have hw3 := hw2.symm
          subst hw3
          clear hw2
          go_wp2_with (go_at_call 34; fail)
          refine HTk.out.mono ?_
          rintro e w2 ⟨st, tv2, H2, rfl, q1, q2, q3, q4, q5, q6⟩
          have hI2 := HR.out.1.heap q1 q3 q6 q5
          have hK2 := (HR.out.2.1.perm q2).take q4
          have hstn : st < n ∧ low st = st := hK2.hd st (by simp)
          have HR2 : Hid (IoI w Z n (edL low adj n) gv grp wa tv2 H2 (.slice ao S.length ac) S w2 ∧ KJ n low (edL low adj n) S H2 st 0 wa ∧ st < n ∧ low st = st ∧ S.length < n ∧ n + 1 - S.length ≤ gk) := ⟨hI2, hK2, hstn.1, hstn.2, by have := kj_len hK2; omega, HR.out.2.2.1⟩
          have x1 := hI2.box.cell 1 _ rfl
          have xl := hI2.box.lt
          rw [HZ.out.2] at x1 xl
          rw [HZ.out.1] at x1
          have gs := hI2.gr.cell hstn.1
          have lG := hI2.gr.lt
          rw [HZ.out.1] at gs lG
          obtain ⟨gg, gc, hgv⟩ : ∃ gg gc, gv st = .slice (some ⟨gg, 0, none⟩) (grp st).length gc := by
            rcases hI2.gw st hstn.1 with ⟨h1, h2⟩ | ⟨gg, gc, h1, _⟩
            · exact absurd hstn.2 ((head_iff HN.out.2.2.2.2 hstn.1).1 h2)
            · exact ⟨gg, gc, h1⟩
          have HGV : Hid (gv st = .slice (some ⟨gg, 0, none⟩) (grp st).length gc) := hgv
          rw [hgv] at gs
          obtain ⟨SL, hSL⟩ : ∃ SL, S.length = SL := ⟨_, rfl⟩
          have HSL : Hid (S.length = SL) := hSL
          have hSn : SL ≤ 20000 := by have := HR2.out.2.2.2.2.1; have := HN.out.1; omega
          have HO : Hid (w2.ownsRow (Z.T + 1) 30 1 (.slice ao SL ac) SL (S.map gv)) := by
            have := hI2.al
            rw [hSL] at this
            exact this
          have HTl : Hid (Z.T < w2.heap.size) := hI2.tn.b.lt
          have hsti : (st : Int) < (n : Int) := by have := hstn.1; omega
          rw [hSL]
          clear q1 q2 q3 q4 q5 q6 hI2 hK2 hstn hgv hSL HTk HR tT tl hl1 hli HLn
          go_wp2_with (at_builtin; refine wpList_append_lies _ rfl _ _ 22 rfl (Z.T + 1) 30 i0 (.slice none 0 0) 1 24 Try.underlying22 HI0.out.1 HI0.out.2.1 HI0.out.2.2.1 HI0.out.2.2.2 rfl (by decide) _ _ _ rfl (HO.out.alloc _) ⟨w2.heap.size, 0, none⟩ 1 1 [.slice (some ⟨gg, 0, none⟩) (grp st).length gc] rfl rfl (cell_one_new _ _ _) (by simp [Value.oneCell']) (by decide) (by unfold maxLen; omega) (by omega) (by simp; have := HTl.out; omega) (w2.heap.size + 1) (by simp) ?_; intro o8 c8 w8 hown8 hgrow8 hat8 hlt8; have H8 : Hid ((w2.alloc (.cells #[.slice (some ⟨gg, 0, none⟩) (grp st).length gc] 30)).grownBy w8 (Value.slice ao SL ac).ownBlock ∧ w8.ownsRow (Z.T + 1) 30 1 (.slice (some ⟨o8, 0, none⟩) (SL + 1) c8) (SL + 1) (S.map gv ++ [.slice (some ⟨gg, 0, none⟩) (grp st).length gc]) ∧ ((Value.slice ao SL ac).ownBlock = some o8 ∨ o8 = w2.heap.size + 1)) := ⟨hgrow8, hown8, hat8⟩; clear hown8 hgrow8 hat8 hlt8; have hI8 : Hid (IoI w Z n (edL low adj n) gv grp wa tv2 H2 (.slice (some ⟨o8, 0, none⟩) (SL + 1) c8) (S ++ [st]) w8) := ((show IoI w Z n (edL low adj n) gv grp wa tv2 H2 (.slice ao SL ac) S w2 from HSL.out ▸ HR2.out.1).app H8.out.1 (by have h9 := H8.out.2.1; rw [List.length_append, HSL.out, List.map_append]; simp only [List.map_cons, List.map_nil, HGV.out]; exact h9) (fun g hg => by (have e : o8 = g := by simpa [Value.ownBlock] using hg); subst e; rcases H8.out.2.2 with h7 | h7; exact .inl h7; right; omega)); obtain ⟨uu, u1, u2⟩ := hI8.out.us; obtain ⟨us, u3⟩ : ∃ us, uu st = us := ⟨_, rfl⟩; obtain ⟨uo, uc, hue, hu1, hu2⟩ := (u2 st HR2.out.2.2.1).1.slice; have uc1 := u1.cell HR2.out.2.2.1; have uc2 := u1.lt; rw [hue] at uc1; clear u3 hu1 hu2)
          obtain ⟨m, hm⟩ : ∃ m, (usF (edL low adj n) st).length = m := ⟨_, rfl⟩
          have HM : Hid ((usF (edL low adj n) st).length = m) := hm
          have hmE : m ≤ 20000000000 := by
            rw [← hm]
            have h1 := usF_le (edL low adj n) st
            have h2 := edL_len low adj n U HN.out.2.1 n (Nat.le_refl _)
            have h3 : n * U ≤ 20000 * 1000000 := Nat.mul_le_mul HN.out.1 HN.out.2.2.1
            omega
          have hmi : (m : Int) ≤ 20000000000 := by omega
          have HRw : Hid (RowAt w8 Z.T (.slice uo m uc) (usF (edL low adj n) st) ∧ (∀ g, (Value.slice uo m uc).ownBlock = some g → Z.s + 2 ≤ g)) := by
            have h9 := u2 st HR2.out.2.2.1
            rw [hue, hm] at h9
            exact h9
          rw [hm]
          clear uc1 uc2 hue u1 u2 hm hmE gs lG x1 xl HO H8
          go_loopw [59] (fun v59 wr => ∃ j : Nat, v59 = .int .i64 (j : Int) ∧ Hid (∃ tv H wa, j ≤ m ∧ IoI w Z n (edL low adj n) gv grp wa tv H (.slice (some ⟨o8, 0, none⟩) (SL + 1) c8) (S ++ [st]) wr ∧ KJ n low (edL low adj n) S H st j wa ∧ RowAt wr Z.T (.slice uo m uc) (usF (edL low adj n) st))) (fun v _ => m - (intOf v).toNat)
          case atStart => exact ⟨0, rfl, ⟨tv2, H2, wa, Nat.zero_le _, hI8.out, HR2.out.2.1, HRw.out.1⟩⟩
          case round =>
            clear hI8
            obtain ⟨j, rfl, HJ⟩ := hrel
            obtain ⟨tvj, Hj, waj, hj0, hIj, hKj, hRj⟩ := HJ.out
            clear HJ
            by_cases hj : j < m
            · have hjl : j < (usF (edL low adj n) st).length := by rw [HM.out]; exact hj
              obtain ⟨st1, st2, st3, st4⟩ := hKj.step (edOK_of HN.out.2.2.2.2 HN.out.2.2.2.1) hjl
              obtain ⟨rg, rc, re, _, _, _, rl, rcell⟩ := hRj.at hjl
              obtain ⟨us, hus⟩ : ∃ us, (usF (edL low adj n) st)[j] = us := ⟨_, rfl⟩
              rw [hus] at st1 st2 st3 st4 rcell
              obtain ⟨rfl, -⟩ : uo = some ⟨rg, 0, none⟩ ∧ True := by cases re; exact ⟨rfl, trivial⟩
              have cj : wr.cell? ⟨rg, j, none⟩ = some (.int .i64 (us : Int)) := rcell
              have wu : wr.cell? ⟨Z.B2, us, none⟩ = some (.int .i64 (waj us : Int)) := hIj.wt.cell st1
              have wf := hIj.wt.frozen us
              have wl := hIj.wt.lt
              have hwb : waj us ≤ 40000000000 := by
                have h1 := hKj.we us st1
                have h2 : cnt (edL low adj n) (S ++ [st]) us ≤ (edL low adj n).length := List.length_filter_le _ _
                have h3 : List.count us ((usF (edL low adj n) st).drop j) ≤ (edL low adj n).length := Nat.le_trans List.count_le_length (Nat.le_trans (by rw [List.length_drop]; omega) (usF_le (edL low adj n) st))
                have h4 := edL_len low adj n U HN.out.2.1 n (Nat.le_refl _)
                have h5 : n * U ≤ 20000 * 1000000 := Nat.mul_le_mul HN.out.1 HN.out.2.2.1
                omega
              have hwi : (waj us : Int) ≤ 40000000000 := by omega
              have hw1 : (1 : Int) ≤ (waj us : Int) := by omega
              obtain ⟨y, hy⟩ : ∃ y, waj us - 1 = y := ⟨_, rfl⟩
              have hyi : (waj us : Int) - 1 = (y : Int) := by omega
              rw [hy] at st3 st4
              have hji : (j : Int) < (m : Int) := by omega
              have husn : (us : Int) < (n : Int) := by omega
              have HIw : Hid (IoI w Z n (edL low adj n) gv grp (upd waj us y) tvj Hj (.slice (some ⟨o8, 0, none⟩) (SL + 1) c8) (S ++ [st]) (wr.setCell ⟨Z.B2, us, none⟩ (.int .i64 (y : Int))) ∧ RowAt (wr.setCell ⟨Z.B2, us, none⟩ (.int .i64 (y : Int))) Z.T (.slice (some ⟨rg, 0, none⟩) m uc) (usF (edL low adj n) st) ∧ j < m ∧ Hj.length ≤ 20000) := ⟨hIj.wait us y, hRj.move (fun g hg h1 h2 => by
                have h9 := HRw.out.2 g hg
                have := hIj.o5
                refine ⟨h1, by rw [size_set]; exact h2, heap_set_other _ _ _ _ _ (by omega)⟩), hj, by have := kj_len hKj; have := HN.out.1; omega⟩
              by_cases hy0 : y = 0
              · have hy1 : (y : Int) = 0 := by omega
                have hK3 := st3 hy0
                have HK3 : Hid (KJ n low (edL low adj n) S (Hj ++ [us]) st (j + 1) (upd waj us y)) := hK3
                have hA := add_c Z.T tvj Hj us (by have := HIw.out.2.2.2; omega) HIw.out.1.hp _ HIw.out.1.tn
                have HA : Hid (Calls Try.prog 32 #[.pointer (some ⟨Z.T, 0, none⟩), .int .i64 (us : Int)] (wr.setCell ⟨Z.B2, us, none⟩ (.int .i64 (y : Int))) fun r W' => r = .returned (.tuple #[]) ∧ (∃ v' l', TurnAt W' Z.T v' l' ∧ l'.Perm (Hj ++ [us]) ∧ Hp l' l'.length ∧ Fr Z.T tvj (wr.setCell ⟨Z.B2, us, none⟩ (.int .i64 (y : Int))) W' v') ∧ Below Z.T (wr.setCell ⟨Z.B2, us, none⟩ (.int .i64 (y : Int))) W') := hA
                rw [hy1] at HA HIw
                rw [hy1] at hyi
                clear hA hK3 st3 st4 hIj hKj hRj hj hjl rl rcell re hj0 hwb hus st1 st2 hy hy0 hy1
                go_wp2_with (go_at_call 32; fail)
                refine HA.out.mono ?_
                rintro e w9 ⟨rfl, ⟨v9, l9, q1, q2, q3, q4⟩, q5⟩
                have H9 : Hid (IoI w Z n (edL low adj n) gv grp (upd waj us y) v9 l9 (.slice (some ⟨o8, 0, none⟩) (SL + 1) c8) (S ++ [st]) w9 ∧ KJ n low (edL low adj n) S l9 st (j + 1) (upd waj us y) ∧ RowAt w9 Z.T (.slice (some ⟨rg, 0, none⟩) m uc) (usF (edL low adj n) st) ∧ j < m) := ⟨HIw.out.1.heap q1 q3 q4 q5, HK3.out.perm q2, HIw.out.2.1.below q5 (Nat.le_refl _), HIw.out.2.2.1⟩
                clear q1 q2 q3 q4 q5 HA
                go_wp2
                refine ⟨⟨j + 1, by congr 1, ⟨v9, l9, _, H9.out.2.2.2, H9.out.1, H9.out.2.1, H9.out.2.2.1⟩⟩, ?_⟩
                show m - ((j : Int) + 1).toNat < m - ((j : Int)).toNat
                have := H9.out.2.2.2; omega
              · have hy1 : ((y : Int) == 0) = false := by simp; omega
                have HK3 : Hid (KJ n low (edL low adj n) S Hj st (j + 1) (upd waj us y)) := st4 hy0
                clear st3 st4 hIj hKj hRj hj hjl rl rcell re hj0 hwb hus st1 st2 hy hy0
                go_wp2
                refine ⟨⟨j + 1, by congr 1, ⟨tvj, Hj, _, HIw.out.2.2.1, HIw.out.1, HK3.out, HIw.out.2.1⟩⟩, ?_⟩
                show m - ((j : Int) + 1).toNat < m - ((j : Int)).toNat
                have := HIw.out.2.2.1; omega
            · have hji : ¬ (j : Int) < (m : Int) := by omega
              have H9 : Hid (IoI w Z n (edL low adj n) gv grp waj tvj Hj (.slice (some ⟨o8, 0, none⟩) (SL + 1) c8) (S ++ [st]) wr ∧ KI n low (edL low adj n) (S ++ [st]) Hj waj) := ⟨hIj, hKj.done (by rw [HM.out]; omega)⟩
              have HG : Hid (n + 1 - (SL + 1) < gk) := by
                show _ < _
                have h1 := HR2.out.2.2.2.2
                have h2 := HSL.out
                omega
              clear hIj hKj hRj hj hj0
              go_wp2
              go_roundg (n + 1 - (SL + 1))
              case measure => exact HG.out
              case rel => exact ⟨waj, tvj, Hj, S ++ [st], H9.out.1, H9.out.2, by rw [List.length_append, HSL.out]; exact Nat.le_refl _⟩
end Go.Proofs.Ytkkpkcigflikkaa
