/-
  The document's reach, by a contract.
-/
import Derived.Test.YtkkpkcigflikkaaQa
namespace Go.Proofs.Ytkkpkcigflikkaa
open Go.RowKit Go.Shelf Go.Maps G
set_option linter.unusedVariables false

theorem infoBool : (Try.prog.info? 4).map (fun i => (i.zero, i.size, i.bytes)) = some (some (.bool false), 1, 1) := by kernel_rfl
theorem snoc_nat (l : List Nat) : l = [] ∨ ∃ l' x, l = l' ++ [x] := by
  rcases List.eq_nil_or_concat l with h | ⟨l', x, h⟩
  · exact .inl h
  · exact .inr ⟨l', x, by rw [h]; simp⟩
section
variable {w W W' : World} {n : Nat} {adj : Nat → List Nat} {src : Nat} {ex : Nat → Prop} {B : Nat} {O : Nat → Bool} {td : List Nat} {tv : Value} {G : Nat}
theorem RrI.len (h : RrI w W n adj src ex B O td tv G) : td.length ≤ n + 1 := by have := h.m; have := h.g; omega
/-- One is marked and waits. -/
theorem RrI.push {y : Nat} {o8 c8 : Nat} (h : RrI w W n adj src ex B O td tv G) (hy : y < n) (hO : O y = false) (hL : Ln adj src y)
    (hg : ((W.setCell ⟨B, y, none⟩ (.bool true)).alloc (.cells #[.int .i64 (y : Int)] 3)).grownBy W' tv.ownBlock) (ho : W'.ownsRow (B + 1) 3 1 (.slice (some ⟨o8, 0, none⟩) (td.length + 1) c8) (td.length + 1) (td.map nv ++ [.int .i64 (y : Int)])) :
    RrI w W' n adj src ex B (upd O y true) (td ++ [y]) (.slice (some ⟨o8, 0, none⟩) (td.length + 1) c8) G := by
  have hB := h.ob.lt
  have hne : tv.ownBlock ≠ some B := fun e => by have := (owns_lt h.own e).1; omega
  refine ⟨?_, by rw [List.map_append, List.length_append]; exact ho, fun z hz hzo => ?_, fun x hx => ?_, fun x hx hxo => ?_, ?_, h.g, ?_⟩
  · have h1 : FB (W.setCell ⟨B, y, none⟩ (.bool true)) B n (fun i => .bool (upd O y true i)) 4 := h.ob.setEq (.bool true) (fun j hj => by unfold upd; split <;> rfl)
    refine (h1.alloc (.cells #[.int .i64 (y : Int)] 3)).same (grown_block hg ?_ hne)
    have := (h1.alloc (.cells #[.int .i64 (y : Int)] 3)).lt
    exact this
  · by_cases e : z = y
    · subst e; exact hL
    · rw [upd_ne _ _ e] at hzo; exact h.a z hz hzo
  · rcases List.mem_append.1 hx with hx | hx
    · obtain ⟨b1, b2⟩ := h.b x hx
      refine ⟨b1, b2.imp id (fun b3 => ?_)⟩
      unfold upd; split
      · rfl
      · exact b3
    · simp at hx; subst hx
      exact ⟨hy, .inr (upd_at _ _ _)⟩
  · have mono : ∀ z, O z = true → upd O y true z = true := fun z hz => by unfold upd; split; rfl; exact hz
    by_cases e : x = y
    · left; subst e; simp
    · rw [upd_ne _ _ e] at hxo
      rcases h.c x hx hxo with h1 | h1 | h1
      · exact .inl (List.mem_append_left _ h1)
      · exact .inr (.inl h1)
      · exact .inr (.inr (fun z hz => mono z (h1 z hz)))
  · have h1 := filter_upd hy hO
    have h2 := h.m
    rw [List.length_append]; simp only [List.length_cons, List.length_nil]; omega
  · have hbs := h.bl.size
    exact ((h.bl.setCell (p := ⟨B, y, none⟩) (Nat.le_refl _) _).alloc (by rw [size_set]; omega) _).grown hg (by simp; omega) (fun k hk => by have := (owns_lt h.own hk).1; omega)
theorem RrI.pop {ts : List Nat} {x g cap : Nat} (h : RrI w W n adj src (fun _ => False) B O (ts ++ [x]) (.slice (some ⟨g, 0, none⟩) (ts.length + 1) cap) G) : RrI w W n adj src (fun z => z = x) B O ts (.slice (some ⟨g, 0, none⟩) ts.length cap) (G - 1) := by
  have hm := h.m
  have hg := h.g
  rw [List.length_append] at hm
  simp only [List.length_cons, List.length_nil] at hm
  refine ⟨h.ob, ?_, h.a, fun z hz => h.b z (List.mem_append_left _ hz), fun z hz hzo => ?_, by omega, by omega, h.bl⟩
  · have h1 := h.own
    rw [List.map_append, List.length_append] at h1
    exact owns_cut h1 (by simp) (by simp)
  · rcases h.c z hz hzo with h1 | h1 | h1
    · rcases List.mem_append.1 h1 with h1 | h1
      · exact .inl h1
      · simp at h1; exact .inr (.inl h1)
    · cases h1
    · exact .inr (.inr h1)
end
/-- What reach answers. -/
def RrP (w : World) (n : Nat) (adj : Nat → List Nat) (src : Nat) (r : Ending) (W' : World) : Prop := ∃ O : Nat → Bool, r = .returned (.slice (some ⟨w.heap.size, 0, none⟩) n n) ∧ FB W' w.heap.size n (fun i => .bool (O i)) 4 ∧ (∀ y, y < n → (O y = true ↔ Ln adj src y)) ∧ Below w.heap.size w W'
set_option maxHeartbeats 8000000 in
set_option maxRecDepth 100000 in
theorem rreach_c (n b B0 src : Nat) (adj : Nat → List Nat) (hn : n ≤ 20000) (hu : ∀ x, x < n → (adj x).length ≤ 200000) (hadj : ∀ x, x < n → ∀ y ∈ adj x, y < n) (hs : src < n) (w : World) (h : RowsAt w b B0 n adj) (hb : b ≤ w.heap.size) : Calls Try.prog 26 #[.slice (some ⟨B0, 0, none⟩) n n, .int .i64 (src : Int)] w fun r W' => RrP w n adj src r W' := by
  have hmk : ∀ W : World, (Instr.makeSlice 49 (.int .i64 (n : Int)) (.int .i64 (n : Int))).run Try.prog W = .ok (.slice (some ⟨W.heap.size, 0, none⟩) n n) (W.alloc (.cells (madeCells #[.bool false] n) 4)) := fun W => run_make_row' 49 4 (.bool false) 1 Try.underlying49 infoBool rfl .i64 .i64 n (by omega) (by omega) W
  have HR : Hid (RowsAt w b B0 n adj ∧ b ≤ w.heap.size ∧ (∀ x, x < n → (adj x).length ≤ 200000) ∧ (∀ x, x < n → ∀ y ∈ adj x, y < n) ∧ src < n ∧ n ≤ 20000) := ⟨h, hb, hu, hadj, hs, hn⟩
  have hni : (n : Int) ≤ 20000 := by omega
  have hsi : (src : Int) < (n : Int) := by omega
  obtain ⟨i0, hi0, hz0, hz1, hz2⟩ := info_parts infoInt
  have HI0 : Hid (Try.prog.info? 3 = some i0 ∧ i0.zero = some (.int .i64 0) ∧ i0.size = 1 ∧ i0.bytes = 8) := ⟨hi0, hz0, hz1, hz2⟩
  clear hi0 hz0 hz1 hz2
  have H0 : Hid (RrI w ((w.alloc (.cells (madeCells #[.bool false] n) 4)).alloc (.cells #[.int .i64 (src : Int)] 3)) n adj src (fun _ => False) w.heap.size (fun _ => false) [src] (.slice (some ⟨w.heap.size + 1, 0, none⟩) 1 1) (n + 1)) := by
    refine ⟨(fb_made w (.bool false) n 4).alloc _, ?_, fun y _ h9 => (by cases h9), fun x hx => by simp at hx; subst hx; exact ⟨hs, .inl rfl⟩, fun x hx hxo => ?_, ?_, Nat.le_refl _, (below1 w _).alloc (by simp) _⟩
    · have hbk : Blk ((w.alloc (.cells (madeCells #[.bool false] n) 4)).alloc (.cells #[.int .i64 (src : Int)] 3)) (w.heap.size + 1) #[.int .i64 (src : Int)] 3 := by
        have := Blk.new (w.alloc (.cells (madeCells #[.bool false] n) 4)) #[.int .i64 (src : Int)] 3
        simpa using this
      exact ⟨rfl, .inr ⟨w.heap.size + 1, 1, #[.int .i64 (src : Int)], rfl, Nat.le_refl _, hbk, Nat.le_refl _, by decide, rfl, rfl⟩⟩
    · rcases hxo with rfl | hxo
      · left; simp
      · cases hxo
    · exact Nat.succ_le_succ (by have h9 := List.length_filter_le (fun y => !(fun (_ : Nat) => false) y) (List.range n); rwa [List.length_range] at h9)
  clear h hb hu hadj hs hn
  go_enter Try.func26, Try.ntmps26
  go_wp2
  clear hmk
  go_loopg [6] (n + 1) (fun g v6 wr => Hid (∃ O td, RrI w wr n adj src (fun _ => False) w.heap.size O td v6 g))
  case atStart => exact ⟨_, _, H0.out⟩
  case round =>
    clear H0
    obtain ⟨O, td, hI⟩ := hrel.out
    clear hrel
    rcases snoc_nat td with rfl | ⟨ts, x, rfl⟩
    · obtain ⟨o0, k0, rfl, hk0, hk1⟩ := owns_form hI.own
      have HP : Hid (RrP w n adj src (.returned (.slice (some ⟨w.heap.size, 0, none⟩) n n)) wr) := by
        refine ⟨O, rfl, hI.ob, fun y hy => ⟨hI.a y hy, fun ⟨c, hc, hr⟩ => ?_⟩, hI.bl⟩
        have hcl : ∀ z, z < n → (z = src ∨ O z = true) → ∀ y ∈ adj z, O y = true := fun z hz hzo => by
          rcases hI.c z hz hzo with h1 | h1 | h1
          · cases h1
          · cases h1
          · exact h1
        have hcn := HR.out.2.2.2.1 src HR.out.2.2.2.2.1 c hc
        have := Rch.closed (fun z => z < n ∧ O z = true) (fun z hz y hy => ⟨HR.out.2.2.2.1 z hz.1 y hy, hcl z hz.1 (.inr hz.2) y hy⟩) hr ⟨hcn, hcl src HR.out.2.2.2.2.1 (.inl rfl) c hc⟩
        exact this.2
      clear hI
      go_wp2
      go_ret
      exact HP.out
    · obtain ⟨o0, k0, rfl, hk0, hk1⟩ := owns_form hI.own
      have hlen : (ts ++ [x]).length = ts.length + 1 := by simp
      rw [hlen] at hI hk0 ⊢
      have hrow := owns_row (b' := wr.heap.size) (l := ts ++ [x]) hI.own (fun g hg => (owns_lt hI.own hg).2)
      obtain ⟨g, cg, eg, -, -, -, hg, hcx⟩ := hrow.at (j := ts.length) (by simp)
      rw [hlen] at eg
      obtain ⟨rfl, -⟩ : o0 = some ⟨g, 0, none⟩ ∧ True := by cases eg; exact ⟨rfl, trivial⟩
      have hcx2 : wr.cell? ⟨g, ts.length, none⟩ = some (.int .i64 (x : Int)) := by rw [hcx]; simp [nv]
      have hxn := (hI.b x (by simp)).1
      have hsx := (hI.b x (by simp)).2
      have HJ : Hid (RrI w wr n adj src (fun z => z = x) w.heap.size O ts (.slice (some ⟨g, 0, none⟩) ts.length k0) (gk - 1)) := hI.pop
      have hL : src = x ∨ Ln adj src x := by
        rcases hsx with h1 | h1
        · exact .inl h1.symm
        · exact .inr (hI.a x hxn h1)
      have hgk : 0 < gk := by have := hI.m; rw [hlen] at this; omega
      obtain ⟨m, hm⟩ : ∃ m, ts.length = m := ⟨_, rfl⟩
      have HX : Hid (x < n ∧ (∀ y ∈ adj x, Ln adj src y) ∧ 0 < gk ∧ ts.length = m) := ⟨hxn, fun y hy => by
        rcases hL with h1 | ⟨c, h1, h2⟩
        · subst h1; exact ⟨y, hy, .refl y⟩
        · exact ⟨c, h1, h2.trans (.edge hy)⟩, hgk, hm⟩
      have hmn := hI.len
      rw [hlen] at hmn
      rw [hm] at hcx2 HJ hk0 hmn ⊢
      have hm1 : ((m + 1 : Nat) : Int) = (m : Int) + 1 := by omega
      have hmi : (m : Int) ≤ 20000 := by have := HR.out.2.2.2.2.2; omega
      have hk0i : (m : Int) + 1 ≤ (k0 : Int) := by omega
      have hk1i : (k0 : Int) ≤ 9223372036854775807 := by omega
      have hxi : (x : Int) < (n : Int) := by omega
      clear hI hrow eg hcx hlen hsx hL hm hgk hmn
      go_wp2
      obtain ⟨p, hp⟩ : ∃ p, (adj x).length = p := ⟨_, rfl⟩
      have HPp : Hid ((adj x).length = p ∧ p ≤ 200000) := ⟨hp, by have := HR.out.2.2.1 x hxn; omega⟩
      have hpi : (p : Int) ≤ 200000 := by have := HPp.out.2; omega
      clear hp hcx2 hg hk0 hk0i
      go_loopw [6, 8] (fun v6 v8 wr => ∃ (j : Nat) (O : Nat → Bool) (td : List Nat), v8 = .int .i64 (j : Int) ∧ (∃ o6 c6, v6 = .slice o6 td.length c6) ∧ Hid (j ≤ p ∧ RrI w wr n adj src (fun z => z = x) w.heap.size O td v6 (gk - 1) ∧ ∀ y ∈ (adj x).take j, O y = true)) (fun _ v _ => p - (intOf v).toNat)
      case atStart => exact ⟨0, O, ts, rfl, ⟨_, _, by rw [HX.out.2.2.2]⟩, ⟨Nat.zero_le _, HJ.out, fun y hy => by simp at hy⟩⟩
      case round =>
        clear HJ
        obtain ⟨j, O, td, rfl, ⟨o6, c6, rfl⟩, HJ⟩ := hrel
        obtain ⟨q, hq⟩ : ∃ q, td.length = q := ⟨_, rfl⟩
        have HQ : Hid (td.length = q ∧ q ≤ n + 1) := ⟨hq, by rw [← hq]; exact HJ.out.2.1.len⟩
        rw [hq] at HJ ⊢
        have hqn : q ≤ 20001 := by have := HQ.out; have := HR.out.2.2.2.2.2; omega
        have hrows : RowsAt wr b B0 n adj := HR.out.1.below HJ.out.2.1.bl HR.out.2.1
        obtain ⟨ro, rc, rcell, -, -⟩ := hrows.len hxn
        have hB0 : B0 < wr.heap.size := by obtain ⟨_, u, h1, _⟩ := hrows; exact h1.lt
        rw [HPp.out.1] at rcell
        by_cases hj : j < p
        · have hjl : j < (adj x).length := by rw [HPp.out.1]; exact hj
          have hji : (j : Int) < (p : Int) := by omega
          obtain ⟨g2, cg2, rcell2, -, -, -, hg2, hcy⟩ := hrows.at hxn hjl
          rw [HPp.out.1] at rcell2
          rw [rcell2] at rcell
          obtain ⟨y, hy⟩ : ∃ y, (adj x)[j] = y := ⟨_, rfl⟩
          have hcy2 : wr.cell? ⟨g2, j, none⟩ = some (.int .i64 (y : Int)) := by rw [hcy, hy]; rfl
          have hyn : y < n := HR.out.2.2.2.1 x hxn y (by rw [← hy]; exact List.getElem_mem hjl)
          have hyi : (y : Int) < (n : Int) := by omega
          have HY : Hid (j < p ∧ (adj x).take (j + 1) = (adj x).take j ++ [y] ∧ y < n ∧ Ln adj src y) := ⟨hj, by rw [List.take_succ_eq_append_getElem hjl, hy], hyn, HX.out.2.1 y (by rw [← hy]; exact List.getElem_mem hjl)⟩
          have hco : wr.cell? ⟨w.heap.size, y, none⟩ = some (.bool (O y)) := HJ.out.2.1.ob.cell hyn
          have hfo : wr.frozen? ⟨w.heap.size, y, none⟩ = false := HJ.out.2.1.ob.frozen y
          have hBo : w.heap.size < wr.heap.size := HJ.out.2.1.ob.lt
          obtain ⟨b0, hb0⟩ : ∃ b0, O y = b0 := ⟨_, rfl⟩
          have HO : Hid (O y = b0) := hb0
          rw [hb0] at hco
          clear rcell hy hcy hjl hj hb0 hrows hyn
          cases b0 with
          | true =>
            go_wp2
            refine ⟨⟨j + 1, O, td, by congr 1, ⟨_, _, by rw [HQ.out.1]⟩, ⟨HY.out.1, HJ.out.2.1, fun z hz => ?_⟩⟩, ?_⟩
            · rw [HY.out.2.1] at hz
              rcases List.mem_append.1 hz with hz | hz
              · exact HJ.out.2.2 z hz
              · simp at hz; subst hz; exact HO.out
            · show p - ((j : Int) + 1).toNat < p - ((j : Int)).toNat
              have := HY.out.1; omega
          | false =>
            have HOw : Hid ((wr.setCell ⟨w.heap.size, y, none⟩ (.bool true)).ownsRow (w.heap.size + 1) 3 1 (.slice o6 q c6) q (td.map nv)) := by
              have h := HJ.out.2.1.own
              rw [HQ.out.1] at h
              exact owns_same h (fun g hg => heap_set_other _ _ _ _ _ (by have := (owns_lt h hg).1; omega))
            have hsz : (wr.setCell ⟨w.heap.size, y, none⟩ (.bool true)).heap.size = wr.heap.size := size_set _ _ _ _
            go_wp2_with (at_builtin; refine wpList_append_lies _ rfl _ _ 30 rfl (w.heap.size + 1) 3 i0 (.int .i64 0) 1 8 Try.underlying30 HI0.out.1 HI0.out.2.1 HI0.out.2.2.1 HI0.out.2.2.2 rfl (by decide) _ _ _ rfl (HOw.out.alloc _) ⟨wr.heap.size, 0, none⟩ 1 1 [.int .i64 (y : Int)] rfl rfl (by have h9 := cell_one_new (wr.setCell ⟨w.heap.size, y, none⟩ (.bool true)) (.int .i64 (y : Int)) 3; rw [hsz] at h9; exact h9) (by simp [Value.oneCell']) (by decide) (by unfold maxLen; omega) (by omega) (by simp; omega) (wr.heap.size + 1) (by simp) ?_; intro o8 c8 w8 hown8 hgrow8 hat8 hlt8; have H8 : Hid (((wr.setCell ⟨w.heap.size, y, none⟩ (.bool true)).alloc (.cells #[.int .i64 (y : Int)] 3)).grownBy w8 (Value.slice o6 q c6).ownBlock ∧ w8.ownsRow (w.heap.size + 1) 3 1 (.slice (some ⟨o8, 0, none⟩) (q + 1) c8) (q + 1) (td.map nv ++ [.int .i64 (y : Int)])) := ⟨hgrow8, hown8⟩; clear hown8 hgrow8 hat8 hlt8)
            have H9 : Hid (RrI w w8 n adj src (fun z => z = x) w.heap.size (upd O y true) (td ++ [y]) (.slice (some ⟨o8, 0, none⟩) (q + 1) c8) (gk - 1)) := by
              have h := HJ.out.2.1.push (W' := w8) (o8 := o8) (c8 := c8) HY.out.2.2.1 HO.out HY.out.2.2.2 H8.out.1 (by rw [HQ.out.1]; exact H8.out.2)
              rw [HQ.out.1] at h
              exact h
            refine ⟨⟨j + 1, upd O y true, td ++ [y], by congr 1, ⟨_, _, by rw [List.length_append, HQ.out.1]; rfl⟩, ⟨HY.out.1, H9.out, fun z hz => ?_⟩⟩, ?_⟩
            · rw [HY.out.2.1] at hz
              rcases List.mem_append.1 hz with hz | hz
              · unfold upd; split
                · rfl
                · exact HJ.out.2.2 z hz
              · simp at hz; subst hz; exact upd_at _ _ _
            · show p - ((j : Int) + 1).toNat < p - ((j : Int)).toNat
              have := HY.out.1; omega
        · have hji : ¬ (j : Int) < (p : Int) := by omega
          have HK : Hid (∀ y ∈ adj x, O y = true) := by
            have h1 := HJ.out.2.2
            rw [List.take_of_length_le (by have := HPp.out.1; omega)] at h1
            exact h1
          clear hj hrows
          go_wp2
          go_roundg (gk - 1)
          case measure => have := HX.out.2.2.1; omega
          case rel =>
            have h := HJ.out.2.1
            refine ⟨O, td, h.ob, h.own, h.a, h.b, fun z hz hzo => ?_, h.m, h.g, h.bl⟩
            rcases h.c z hz hzo with h1 | h1 | h1
            · exact .inl h1
            · subst h1; exact .inr (.inr HK.out)
            · exact .inr (.inr h1)
end Go.Proofs.Ytkkpkcigflikkaa
