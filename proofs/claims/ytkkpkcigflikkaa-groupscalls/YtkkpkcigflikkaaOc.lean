/-
  The laws' reach and whole, by contracts.
-/
import Derived.Test.YtkkpkcigflikkaaOa
import Derived.Test.YtkkpkcigflikkaaOb
import Derived.Test.YtkkpkcigflikkaaLc
namespace Go.Proofs.Ytkkpkcigflikkaa
open Go.RowKit Go.Shelf Go.Maps G
set_option linter.unusedVariables false

/-- Does one use another, or (back) is it used by it? -/
def edB (ns : List (List UInt8)) (us : List (List (List UInt8))) (back : Bool) (x y : Nat) : Bool := if back then decide (ns.getD x [] ∈ us.getD y []) else decide (ns.getD y [] ∈ us.getD x [])
theorem edB_f {ns : List (List UInt8)} {us : List (List (List UInt8))} {x y : Nat} (hx : x < us.length) (hy : y < ns.length) : edB ns us false x y = decide (ns[y] ∈ us[x]) := by
  have h1 : ns.getD y [] = ns[y] := by rw [List.getD_eq_getElem?_getD, List.getElem?_eq_getElem hy, Option.getD_some]
  have h2 : us.getD x [] = us[x] := by rw [List.getD_eq_getElem?_getD, List.getElem?_eq_getElem hx, Option.getD_some]
  show decide (ns.getD y [] ∈ us.getD x []) = _
  rw [h1, h2]
theorem edB_t (ns : List (List UInt8)) (us : List (List (List UInt8))) (x y : Nat) : edB ns us true x y = edB ns us false y x := rfl
theorem edB_adj {ns : List (List UInt8)} {us : List (List (List UInt8))} (hn : ns.Nodup) (hl : ns.length = us.length) {x y : Nat} (hx : x < ns.length) (hy : y < ns.length) : (edB ns us false x y = true ↔ y ∈ adjF ns us x) ∧ (edB ns us true x y = true ↔ x ∈ adjF ns us y) := by
  rw [edB_t, edB_f (by omega) hy, edB_f (by omega) hx, mem_adjF hn (by omega) hy, mem_adjF hn (by omega) hx, decide_eq_true_iff, decide_eq_true_iff]
  exact ⟨Iff.rfl, Iff.rfl⟩
/-- What has been reached. -/
structure RcI (w W : World) (gl : List Nat) (f : Nat → Nat → Bool) (i : Nat) (out : List Nat) (v : Value) : Prop where
  own : W.ownsRow w.heap.size 3 1 v out.length (out.map nv)
  nd : out.Nodup
  sub : ∀ x ∈ out, x ∈ gl
  g0 : ∀ x, gl.head? = some x → x ∈ out
  cl : ∀ x ∈ out.take i, ∀ y ∈ gl, f x y = true → y ∈ out
  il : i ≤ out.length
  b : Below w.heap.size w W
theorem RcI.row {w W : World} {gl : List Nat} {f : Nat → Nat → Bool} {i : Nat} {out : List Nat} {v : Value} (h : RcI w W gl f i out v) : RowAt W W.heap.size v out := owns_row h.own (fun g hg => (owns_lt h.own hg).2)
theorem RcI.on {w W W' : World} {gl : List Nat} {f : Nat → Nat → Bool} {i : Nat} {out : List Nat} {v : Value} (h : RcI w W gl f i out v) (hb : Below W.heap.size W W') : RcI w W' gl f i out v := ⟨owns_same h.own (fun g hg => hb.block g (owns_lt h.own hg).2), h.nd, h.sub, h.g0, h.cl, h.il, h.b.trans (hb.mono h.b.size)⟩
theorem RcI.len {w W : World} {gl : List Nat} {f : Nat → Nat → Bool} {i : Nat} {out : List Nat} {v : Value} (h : RcI w W gl f i out v) : out.length ≤ gl.length := le_len _ _ h.nd h.sub
theorem RcI.push {w W W' : World} {gl : List Nat} {f : Nat → Nat → Bool} {i : Nat} {out : List Nat} {v v' : Value} {y : Nat} (h : RcI w W gl f i out v) (hi : i ≤ out.length) (hy : y ∈ gl) (hn : y ∉ out) (ho : W'.ownsRow w.heap.size 3 1 v' (out.length + 1) (out.map nv ++ [nv y])) (hb : Below w.heap.size w W') : RcI w W' gl f i (out ++ [y]) v' := ⟨by simpa using ho, List.nodup_append.2 ⟨h.nd, by simp, fun a ha b hb => by simp at hb; subst hb; intro e; exact hn (e ▸ ha)⟩, fun x hx => by rcases List.mem_append.1 hx with hx | hx; exact h.sub x hx; simp at hx; subst hx; exact hy, fun x hx => List.mem_append_left _ (h.g0 x hx), fun x hx z hz hf => by rw [List.take_append_of_le_length hi] at hx; exact List.mem_append_left _ (h.cl x hx z hz hf), by simp; omega, hb⟩
/-- What reach answers. -/
def RcP (w : World) (gl : List Nat) (f : Nat → Nat → Bool) (r : Ending) (W' : World) : Prop := ∃ out v, r = .returned v ∧ RcI w W' gl f out.length out v
set_option maxHeartbeats 8000000 in
set_option maxRecDepth 100000 in
theorem reach_c (v u z : Value) (ns : List (List UInt8)) (us : List (List (List UInt8))) (gl : List Nat) (back : Bool) (hnl : ns.length ≤ 20000) (hlu : ns.length = us.length) (ht : total us ≤ 200000) (hg : gl ≠ []) (hgl : gl.length ≤ 20000) (hgs : ∀ x ∈ gl, x < ns.length) (w : World) (hv : StrAt w v ns) (hu : UseAt w u us) (hz : RowAt w w.heap.size z gl) : Calls Try.prog 30 #[v, u, z, .bool back] w fun r W' => RcP w gl (edB ns us back) r W' := by
  have hdep : Try.prog.follows Departure.mixedOrders = true := by kernel_rfl
  have HF : Hid (∀ X x y, Below w.heap.size w X → x < ns.length → y < ns.length → Calls Try.prog 38 #[v, u, .int .i64 (x : Int), .int .i64 (y : Int)] X fun r W' => r = .returned (.bool (edB ns us false x y)) ∧ Below X.heap.size X W') := fun X x y hX hx hy => by
    refine (user_c v u ns us x y hnl (by omega) (by omega) hy ht X (hv.below hX (Nat.le_refl _)) (hu.below hX (Nat.le_refl _))).mono ?_
    rintro e W' ⟨rfl, h9⟩
    exact ⟨by rw [edB_f (by omega) hy], h9⟩
  have HT : Hid (∀ X x y, Below w.heap.size w X → x < ns.length → y < ns.length → Calls Try.prog 38 #[v, u, .int .i64 (y : Int), .int .i64 (x : Int)] X fun r W' => r = .returned (.bool (edB ns us true x y)) ∧ Below X.heap.size X W') := fun X x y hX hx hy => by rw [edB_t]; exact HF.out X y x hX hy hx
  have HM : Hid (∀ (X : World) (gv : Value) (out : List Nat) (y : Nat), RowAt X X.heap.size gv out → out.length ≤ 20000 → (∀ x ∈ out, x < 20000) → y ≤ 20000 → Calls Try.prog 39 #[gv, .int .i64 (y : Int)] X fun r W' => r = .returned (.bool (decide (y ∈ out))) ∧ W' = X) := fun X gv out y h1 h2 h3 h4 => member_c gv out y (by omega) (by omega) (fun x hx => by have := h3 x hx; omega) X h1
  obtain ⟨o, cap, ev, hc1, hc2⟩ := hv.slice
  obtain ⟨o2, cap2, eu, hd1, hd2⟩ := hu.slice
  have hpos : 0 < gl.length := List.length_pos_iff.2 hg
  obtain ⟨g, cg, eg, -, -, -, hgw, -⟩ := hz.at hpos
  obtain ⟨x0, hx0⟩ : ∃ x0, gl[0] = x0 := ⟨_, rfl⟩
  have HZ : Hid (RowAt w w.heap.size z gl ∧ gl.head? = some x0 ∧ x0 ∈ gl ∧ (∀ x ∈ gl, x < ns.length) ∧ ns.length ≤ 20000) := ⟨hz, by rw [List.head?_eq_getElem?, List.getElem?_eq_getElem hpos, hx0], by rw [← hx0]; exact List.getElem_mem hpos, hgs, hnl⟩
  have hc0 : w.cell? ⟨g, 0, none⟩ = some (.int .i64 (x0 : Int)) := by
    obtain ⟨g', c', e', -, -, -, -, h9⟩ := hz.at hpos
    rw [eg] at e'; cases e'
    rw [h9, hx0]; rfl
  obtain ⟨n, hn⟩ : ∃ n, ns.length = n := ⟨_, rfl⟩
  obtain ⟨p, hp⟩ : ∃ p, gl.length = p := ⟨_, rfl⟩
  rw [← hlu, hn] at eu
  rw [hn] at ev
  rw [hp] at eg
  have HL : Hid (ns.length = n ∧ gl.length = p) := ⟨hn, hp⟩
  subst ev eu eg
  have hni : (n : Int) ≤ 20000 := by omega
  have hpi : (p : Int) ≤ 20000 := by omega
  have hp0 : (0 : Int) < (p : Int) := by omega
  have hx0i : (x0 : Int) ≤ 20000 := by have := HZ.out.2.2.2.1 x0 HZ.out.2.2.1; have := HZ.out.2.2.2.2; omega
  clear hv hu hz hc1 hc2 hd1 hd2 hn hp hnl hlu ht hg hgl hgs hpos hx0
  obtain ⟨i0, hi0, hz0, hz1, hz2⟩ := info_parts infoInt
  have HI0 : Hid (Try.prog.info? 3 = some i0 ∧ i0.zero = some (.int .i64 0) ∧ i0.size = 1 ∧ i0.bytes = 8) := ⟨hi0, hz0, hz1, hz2⟩
  clear hi0 hz0 hz1 hz2
  have H0 : Hid (RcI w (w.alloc (.cells #[.int .i64 (x0 : Int)] 3)) gl (edB ns us back) 0 [x0] (.slice (some ⟨w.heap.size, 0, none⟩) 1 1)) := by
    refine ⟨⟨rfl, .inr ⟨w.heap.size, 1, #[.int .i64 (x0 : Int)], rfl, Nat.le_refl _, Blk.new _ _ _, Nat.le_refl _, by decide, rfl, rfl⟩⟩, by simp, fun x hx => by simp at hx; subst hx; exact HZ.out.2.2.1, fun x hx => by rw [HZ.out.2.1] at hx; cases hx; simp, fun x hx => by simp at hx, by simp, below1 w _⟩
  go_enter Try.func30, Try.ntmps30
  go_wp2
  go_loopw [9, 10] (fun v9 v10 wr => ∃ (i : Nat) (out : List Nat), v10 = .int .i64 (i : Int) ∧ (∃ o9 c9, v9 = .slice o9 out.length c9) ∧ Hid (RcI w wr gl (edB ns us back) i out v9)) (fun _ v _ => p + 1 - (intOf v).toNat)
  case atStart => exact ⟨0, [x0], rfl, ⟨_, _, rfl⟩, H0.out⟩
  case round =>
    clear H0 hc0
    obtain ⟨i, out, rfl, ⟨o9, c9, rfl⟩, HI⟩ := hrel
    obtain ⟨wo, hwo⟩ : ∃ wo, wo = wr := ⟨_, rfl⟩
    subst hwo
    obtain ⟨m, hm⟩ : ∃ m, out.length = m := ⟨_, rfl⟩
    have hmi : (m : Int) ≤ (p : Int) := by have := HI.out.len; have := HL.out.2; omega
    rw [hm] at HI ⊢
    by_cases hi : i < m
    · have hil : i < out.length := by omega
      obtain ⟨x, hx⟩ : ∃ x, out[i] = x := ⟨_, rfl⟩
      have HX : Hid (out[i]? = some x ∧ i < m ∧ out.length = m ∧ x ∈ gl) := ⟨by rw [List.getElem?_eq_getElem hil, hx], hi, hm, by rw [← hx]; exact HI.out.sub _ (List.getElem_mem hil)⟩
      have hii : (i : Int) < (m : Int) := by omega
      have hxi : (x : Int) ≤ 20000 := by have := HZ.out.2.2.2.1 x HX.out.2.2.2; have := HZ.out.2.2.2.2; omega
      clear hi hil hx hm
      go_wp2
      go_loopw [9, 11] (fun v9 v11 wr => ∃ (k : Nat) (out : List Nat), v11 = .int .i64 (k : Int) ∧ (∃ o9 c9, v9 = .slice o9 out.length c9) ∧ Hid (k ≤ p ∧ RcI w wr gl (edB ns us back) i out v9 ∧ out[i]? = some x ∧ (∀ y ∈ gl.take k, edB ns us back x y = true → y ∈ out))) (fun _ v _ => p - (intOf v).toNat)
      case atStart => exact ⟨0, out, rfl, ⟨_, _, by rw [HX.out.2.2.1]⟩, ⟨Nat.zero_le _, HI.out, HX.out.1, fun y hy => by simp at hy⟩⟩
      case round =>
        clear HI hmi hii
        obtain ⟨k, out, rfl, ⟨o9, c9, rfl⟩, HI⟩ := hrel
        obtain ⟨m, hm⟩ : ∃ m, out.length = m := ⟨_, rfl⟩
        have hil : i < out.length := (List.getElem?_eq_some_iff.1 HI.out.2.2.1).1
        have hmi : (m : Int) ≤ (p : Int) := by have := HI.out.2.1.len; have := HL.out.2; omega
        have hii : (i : Int) < (m : Int) := by omega
        have HMm : Hid (out.length = m ∧ i < m) := ⟨hm, by omega⟩
        rw [hm] at HI ⊢
        by_cases hk : k < p
        · have hkl : k < gl.length := by have := HL.out.2; omega
          have hki : (k : Int) < (p : Int) := by omega
          obtain ⟨y, hy⟩ : ∃ y, gl[k] = y := ⟨_, rfl⟩
          have hyg : y ∈ gl := by rw [← hy]; exact List.getElem_mem hkl
          have HY : Hid (k < p ∧ gl.take (k + 1) = gl.take k ++ [y] ∧ y ∈ gl ∧ y < ns.length ∧ x < ns.length) := ⟨hk, by rw [List.take_succ_eq_append_getElem hkl, hy], hyg, HZ.out.2.2.2.1 y hyg, HZ.out.2.2.2.1 x HX.out.2.2.2⟩
          have hyi : (y : Int) ≤ 20000 := by have := HY.out.2.2.2.1; have := HZ.out.2.2.2.2; omega
          obtain ⟨g1, cg1, eg1, -, -, -, hg1, hcy⟩ := HZ.out.1.at hkl
          obtain ⟨rfl, -⟩ : g = g1 ∧ True := by cases eg1; exact ⟨rfl, trivial⟩
          have hcy2 : wr.cell? ⟨g, k, none⟩ = some (.int .i64 (y : Int)) := (HI.out.2.1.b.cell (p := ⟨g, k, none⟩) hg1).trans (by rw [hcy, hy]; rfl)
          have hgr : g < wr.heap.size := Nat.lt_of_lt_of_le hg1 HI.out.2.1.b.size
          obtain ⟨g2, cg2, eg2, -, -, -, hg2, hcx⟩ := HI.out.2.1.row.at hil
          obtain ⟨rfl, -⟩ : o9 = some ⟨g2, 0, none⟩ ∧ True := by cases eg2; exact ⟨rfl, trivial⟩
          have hcx2 : wr.cell? ⟨g2, i, none⟩ = some (.int .i64 (x : Int)) := by
            rw [hcx]; congr 1
            have := HI.out.2.2.1
            rw [List.getElem?_eq_getElem hil] at this
            rw [Option.some.inj this]; rfl
          have HS : Hid (p ≤ 20000 ∧ out.length ≤ 20000 ∧ (∀ x ∈ out, x < 20000) ∧ y ≤ 20000) := ⟨by omega, by omega, fun a ha => by have := HZ.out.2.2.2.1 a (HI.out.2.1.sub a ha); have := HZ.out.2.2.2.2; omega, by omega⟩
          clear hy hyg hcy hcx eg1 eg2 hk hkl hil hm
          go_wp2
          go_region
          cases back with
          | false =>
            go_wp2_with (go_at_call 38; fail)
            refine (HF.out _ x y HI.out.2.1.b.drew HY.out.2.2.2.2 HY.out.2.2.2.1).mono ?_
            rintro e w2 ⟨rfl, hb2⟩
            have HI2 : Hid (RcI w w2 gl (edB ns us false) i out (.slice (some ⟨g2, 0, none⟩) m c9)) := HI.out.2.1.on ((Below.refl wr.heap.size wr).drew.trans hb2)
            have hcy3 : w2.cell? ⟨g, k, none⟩ = some (.int .i64 (y : Int)) := (hb2.cell (p := ⟨g, k, none⟩) hgr).trans hcy2
            have hgr3 : g < w2.heap.size := Nat.lt_of_lt_of_le hgr hb2.size
            obtain ⟨eb, heb⟩ : ∃ eb, edB ns us false x y = eb := ⟨_, rfl⟩
            have HE : Hid (edB ns us false x y = eb) := heb
            rw [heb]
            clear hcx2 hcy2 hgr hb2 heb HF HT
            cases eb with
            | false =>
              clear HM
              go_wp2
              refine ⟨⟨k + 1, out, by congr 1, ⟨_, _, by rw [HMm.out.1]⟩, ⟨HY.out.1, HI2.out, HI.out.2.2.1, fun z hz hf => ?_⟩⟩, ?_⟩
              · rw [HY.out.2.1] at hz
                rcases List.mem_append.1 hz with hz | hz
                · exact HI.out.2.2.2 z hz hf
                · simp at hz; subst hz; rw [HE.out] at hf; cases hf
              · show p - ((k : Int) + 1).toNat < p - ((k : Int)).toNat
                have := HY.out.1; omega
            | true =>
              go_wp2_with (go_at_call 39; fail)
              refine (HM.out _ _ out y HI2.out.row HS.out.2.1 HS.out.2.2.1 HS.out.2.2.2).mono ?_
              rintro e w3 ⟨rfl, hw3⟩
              have hw4 := hw3.symm
              subst hw4
              clear hw3 HM
              by_cases hyo : y ∈ out
              · have hd : decide (y ∈ out) = true := by simpa using hyo
                have HO : Hid (y ∈ out) := hyo
                rw [hd]
                clear hyo hd
                go_wp2
                refine ⟨⟨k + 1, out, by congr 1, ⟨_, _, by rw [HMm.out.1]⟩, ⟨HY.out.1, HI2.out, HI.out.2.2.1, fun z hz hf => ?_⟩⟩, ?_⟩
                · rw [HY.out.2.1] at hz
                  rcases List.mem_append.1 hz with hz | hz
                  · exact HI.out.2.2.2 z hz hf
                  · simp at hz; subst hz; exact HO.out
                · show p - ((k : Int) + 1).toNat < p - ((k : Int)).toNat
                  have := HY.out.1; omega
              · have hd : decide (y ∈ out) = false := by simpa using hyo
                have HO : Hid (y ∉ out) := hyo
                rw [hd]
                clear hyo hd
                have HOw : Hid (w2.ownsRow w.heap.size 3 1 (.slice (some ⟨g2, 0, none⟩) m c9) m (out.map nv)) := by have h := HI2.out.own; rw [HMm.out.1] at h; exact h
                have hmn : m ≤ 20000 := by have := HS.out.2.1; have := HMm.out.1; omega
                have hws : w.heap.size ≤ w2.heap.size := HI2.out.b.size
                go_wp2_with (at_builtin; refine wpList_append_lies _ rfl _ _ 30 rfl w.heap.size 3 i0 (.int .i64 0) 1 8 Try.underlying30 HI0.out.1 HI0.out.2.1 HI0.out.2.2.1 HI0.out.2.2.2 rfl (by decide) _ _ _ rfl (HOw.out.alloc _) ⟨w2.heap.size, 0, none⟩ 1 1 [.int .i64 (y : Int)] rfl rfl (cell_one_new _ _ _) (by simp [Value.oneCell']) (by decide) (by unfold maxLen; omega) (by omega) (by simp; omega) (w2.heap.size + 1) (by simp) ?_; intro o8 c8 w8 hown8 hgrow8 hat8 hlt8; have H8 : Hid ((w2.alloc (.cells #[.int .i64 (y : Int)] 3)).grownBy w8 (Value.slice (some ⟨g2, 0, none⟩) m c9).ownBlock ∧ w8.ownsRow w.heap.size 3 1 (.slice (some ⟨o8, 0, none⟩) (m + 1) c8) (m + 1) (out.map nv ++ [.int .i64 (y : Int)])) := ⟨hgrow8, hown8⟩; clear hown8 hgrow8 hat8 hlt8)
                refine ⟨⟨k + 1, out ++ [y], by congr 1, ⟨_, _, by rw [List.length_append, HMm.out.1]; rfl⟩, ⟨HY.out.1, ?_, ?_, fun z hz hf => ?_⟩⟩, ?_⟩
                · refine HI2.out.push (by have := HMm.out; omega) HY.out.2.2.1 HO.out (by rw [HMm.out.1]; exact H8.out.2) ?_
                  exact (HI2.out.b.alloc HI2.out.b.size _).grown H8.out.1 (by have := HI2.out.b.size; simp; omega) (fun q hq => (owns_lt HOw.out hq).1)
                · have h1 := HI.out.2.2.1
                  have h2 := (List.getElem?_eq_some_iff.1 h1).1
                  rw [List.getElem?_append_left h2]; exact h1
                · rw [HY.out.2.1] at hz
                  rcases List.mem_append.1 hz with hz | hz
                  · exact List.mem_append_left _ (HI.out.2.2.2 z hz hf)
                  · simp at hz; subst hz; simp
                · show p - ((k : Int) + 1).toNat < p - ((k : Int)).toNat
                  have := HY.out.1; omega
          | true =>
            go_wp2_with (go_at_call 38; fail)
            refine (HT.out _ x y HI.out.2.1.b.drew HY.out.2.2.2.2 HY.out.2.2.2.1).mono ?_
            rintro e w2 ⟨rfl, hb2⟩
            have HI2 : Hid (RcI w w2 gl (edB ns us true) i out (.slice (some ⟨g2, 0, none⟩) m c9)) := HI.out.2.1.on ((Below.refl wr.heap.size wr).drew.trans hb2)
            have hcy3 : w2.cell? ⟨g, k, none⟩ = some (.int .i64 (y : Int)) := (hb2.cell (p := ⟨g, k, none⟩) hgr).trans hcy2
            have hgr3 : g < w2.heap.size := Nat.lt_of_lt_of_le hgr hb2.size
            obtain ⟨eb, heb⟩ : ∃ eb, edB ns us true x y = eb := ⟨_, rfl⟩
            have HE : Hid (edB ns us true x y = eb) := heb
            rw [heb]
            clear hcx2 hcy2 hgr hb2 heb HF HT
            cases eb with
            | false =>
              clear HM
              go_wp2
              refine ⟨⟨k + 1, out, by congr 1, ⟨_, _, by rw [HMm.out.1]⟩, ⟨HY.out.1, HI2.out, HI.out.2.2.1, fun z hz hf => ?_⟩⟩, ?_⟩
              · rw [HY.out.2.1] at hz
                rcases List.mem_append.1 hz with hz | hz
                · exact HI.out.2.2.2 z hz hf
                · simp at hz; subst hz; rw [HE.out] at hf; cases hf
              · show p - ((k : Int) + 1).toNat < p - ((k : Int)).toNat
                have := HY.out.1; omega
            | true =>
              go_wp2_with (go_at_call 39; fail)
              refine (HM.out _ _ out y HI2.out.row HS.out.2.1 HS.out.2.2.1 HS.out.2.2.2).mono ?_
              rintro e w3 ⟨rfl, hw3⟩
              have hw4 := hw3.symm
              subst hw4
              clear hw3 HM
              by_cases hyo : y ∈ out
              · have hd : decide (y ∈ out) = true := by simpa using hyo
                have HO : Hid (y ∈ out) := hyo
                rw [hd]
                clear hyo hd
                go_wp2
                refine ⟨⟨k + 1, out, by congr 1, ⟨_, _, by rw [HMm.out.1]⟩, ⟨HY.out.1, HI2.out, HI.out.2.2.1, fun z hz hf => ?_⟩⟩, ?_⟩
                · rw [HY.out.2.1] at hz
                  rcases List.mem_append.1 hz with hz | hz
                  · exact HI.out.2.2.2 z hz hf
                  · simp at hz; subst hz; exact HO.out
                · show p - ((k : Int) + 1).toNat < p - ((k : Int)).toNat
                  have := HY.out.1; omega
              · have hd : decide (y ∈ out) = false := by simpa using hyo
                have HO : Hid (y ∉ out) := hyo
                rw [hd]
                clear hyo hd
                have HOw : Hid (w2.ownsRow w.heap.size 3 1 (.slice (some ⟨g2, 0, none⟩) m c9) m (out.map nv)) := by have h := HI2.out.own; rw [HMm.out.1] at h; exact h
                have hmn : m ≤ 20000 := by have := HS.out.2.1; have := HMm.out.1; omega
                have hws : w.heap.size ≤ w2.heap.size := HI2.out.b.size
                go_wp2_with (at_builtin; refine wpList_append_lies _ rfl _ _ 30 rfl w.heap.size 3 i0 (.int .i64 0) 1 8 Try.underlying30 HI0.out.1 HI0.out.2.1 HI0.out.2.2.1 HI0.out.2.2.2 rfl (by decide) _ _ _ rfl (HOw.out.alloc _) ⟨w2.heap.size, 0, none⟩ 1 1 [.int .i64 (y : Int)] rfl rfl (cell_one_new _ _ _) (by simp [Value.oneCell']) (by decide) (by unfold maxLen; omega) (by omega) (by simp; omega) (w2.heap.size + 1) (by simp) ?_; intro o8 c8 w8 hown8 hgrow8 hat8 hlt8; have H8 : Hid ((w2.alloc (.cells #[.int .i64 (y : Int)] 3)).grownBy w8 (Value.slice (some ⟨g2, 0, none⟩) m c9).ownBlock ∧ w8.ownsRow w.heap.size 3 1 (.slice (some ⟨o8, 0, none⟩) (m + 1) c8) (m + 1) (out.map nv ++ [.int .i64 (y : Int)])) := ⟨hgrow8, hown8⟩; clear hown8 hgrow8 hat8 hlt8)
                refine ⟨⟨k + 1, out ++ [y], by congr 1, ⟨_, _, by rw [List.length_append, HMm.out.1]; rfl⟩, ⟨HY.out.1, ?_, ?_, fun z hz hf => ?_⟩⟩, ?_⟩
                · refine HI2.out.push (by have := HMm.out; omega) HY.out.2.2.1 HO.out (by rw [HMm.out.1]; exact H8.out.2) ?_
                  exact (HI2.out.b.alloc HI2.out.b.size _).grown H8.out.1 (by have := HI2.out.b.size; simp; omega) (fun q hq => (owns_lt HOw.out hq).1)
                · have h1 := HI.out.2.2.1
                  have h2 := (List.getElem?_eq_some_iff.1 h1).1
                  rw [List.getElem?_append_left h2]; exact h1
                · rw [HY.out.2.1] at hz
                  rcases List.mem_append.1 hz with hz | hz
                  · exact List.mem_append_left _ (HI.out.2.2.2 z hz hf)
                  · simp at hz; subst hz; simp
                · show p - ((k : Int) + 1).toNat < p - ((k : Int)).toNat
                  have := HY.out.1; omega
        · have hki : ¬ (k : Int) < (p : Int) := by omega
          have HK : Hid (gl.take k = gl) := by show _ = _; exact List.take_of_length_le (by have := HL.out.2; omega)
          clear hk
          go_wp2
          refine ⟨⟨i + 1, out, by congr 1, ⟨_, _, by rw [HMm.out.1]⟩, ?_⟩, ?_⟩
          · obtain ⟨q1, q2, q3, q4⟩ := HI.out
            rw [HK.out] at q4
            refine ⟨q2.own, q2.nd, q2.sub, q2.g0, fun a ha b hb hab => ?_, by have := HMm.out; omega, q2.b⟩
            have hil := (List.getElem?_eq_some_iff.1 q3)
            rw [List.take_succ_eq_append_getElem hil.1, hil.2] at ha
            rcases List.mem_append.1 ha with ha | ha
            · exact q2.cl a ha b hb hab
            · simp at ha; subst ha; exact q4 b hb hab
          · show p + 1 - ((i : Int) + 1).toNat < p + 1 - ((i : Int)).toNat
            omega
    · have hii : ¬ (i : Int) < (m : Int) := by omega
      have HX : Hid (RcI w wo gl (edB ns us back) out.length out (.slice o9 m c9)) := by
        have h1 := HI.out.il
        have h2 : i = out.length := by omega
        have h3 := HI.out
        rw [h2] at h3
        exact h3
      clear hi
      go_wp2
      go_ret
      exact ⟨out, _, rfl, HX.out⟩
end Go.Proofs.Ytkkpkcigflikkaa
