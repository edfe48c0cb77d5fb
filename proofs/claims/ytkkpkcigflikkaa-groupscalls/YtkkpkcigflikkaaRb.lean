/-
  Order, of the program and of the document, by contracts.
-/
import Derived.Test.YtkkpkcigflikkaaQg
namespace Go.Proofs.Ytkkpkcigflikkaa
open Go.RowKit Go.Shelf Go.Maps G
set_option linter.unusedVariables false

theorem low_eq {n : Nat} {adj : Nat → List Nat} {low low' : Nat → Nat} {grp grp' : Nat → List Nat} (hP : Parted n adj low grp) (hP' : Parted n adj low' grp') {x : Nat} (hx : x < n) : low x = low' x := by
  have a1 := hP.lo x hx
  have a2 := hP'.lo x hx
  have b1 : low (low' x) = low x := hP.ls x (low' x) hx (by omega) a2.1
  have b2 : low' (low x) = low' x := hP'.ls x (low x) hx (by omega) a1.1
  have c1 := (hP.lo (low' x) (by omega)).2.1
  have c2 := (hP'.lo (low x) (by omega)).2.1
  omega
/-- There is but one order. -/
theorem groups_eq {n : Nat} {adj : Nat → List Nat} {low low' : Nat → Nat} {grp grp' : Nat → List Nat} {S S' : List Nat} (hP : Parted n adj low grp) (hO : Ordered n adj low S) (hP' : Parted n adj low' grp') (hO' : Ordered n adj low' S') (hadj : ∀ x, x < n → ∀ y ∈ adj x, y < n) : S'.map grp' = S.map grp := by
  have hl : ∀ x, x < n → low x = low' x := fun x hx => low_eq hP hP' hx
  have hE := edL_congr hl hadj n (Nat.le_refl _)
  have hgd : Gd n low (edL low adj n) S' := by
    intro A g B e
    obtain ⟨a1, a2⟩ := hO'.gd A g B e
    rw [hE]
    exact ⟨a1, fun h hh hl2 => a2 h hh (by rw [← hl h hh]; exact hl2)⟩
  have hall : ∀ g, g ∈ S' ↔ (g < n ∧ low g = g) := fun g => by
    rw [hO'.all g]
    constructor
    · intro h; exact ⟨h.1, by rw [hl g h.1]; exact h.2⟩
    · intro h; exact ⟨h.1, by rw [← hl g h.1]; exact h.2⟩
  have hS : S = S' := gd_unique S S' [] (by simpa using hO.gd) (by simpa using hgd) (by simpa using hO.nd) (by simpa using hO'.nd) (fun g => by simpa using hO.all g) (fun g => by simpa using hall g)
  subst hS
  refine List.map_congr_left (fun g hg => ?_)
  have h1 := (hO.all g).1 hg
  have h2 := (hO'.all g).1 hg
  refine sorted_eq _ _ (hP'.gr g h2.1 h2.2).1 (hP.gr g h1.1 h1.2).1 (fun x => ?_)
  rw [(hP'.gr g h2.1 h2.2).2 x, (hP.gr g h1.1 h1.2).2 x]
  constructor
  · rintro ⟨a, b⟩; exact ⟨a, by rw [hl x a]; exact b⟩
  · rintro ⟨a, b⟩; exact ⟨a, by rw [← hl x a]; exact b⟩
/-- Names, group by group. -/
def nmG (ns : List (List UInt8)) (x : Nat) : List UInt8 := ns.getD x []
def ordL (ns : List (List UInt8)) (ll : List (List Nat)) : List (List UInt8) := ll.flatten.map (nmG ns)
def stv (x : List UInt8) : Value := .string (bs x)
theorem infoStr : (Try.prog.info? 9).map (fun i => (i.zero, i.size, i.bytes)) = some (some (.string ⟨#[]⟩), 1, 16) := by kernel_rfl
/-- Names gathered, in memory. -/
structure OrI (w2 W : World) (l : List (List UInt8)) (v : Value) : Prop where
  own : W.ownsRow w2.heap.size 9 1 v l.length (l.map stv)
  b : Below w2.heap.size w2 W
theorem OrI.str {w2 W : World} {l : List (List UInt8)} {v : Value} (h : OrI w2 W l v) (hl : ∀ x ∈ l, x.length ≤ 9223372036854775807) : StrAt W v l := by
  rcases h.own with ⟨hl, ⟨h1, h2⟩ | ⟨g, cap, cur, h1, h2, h3, h4, h5, h6, h7⟩⟩
  · have : l = [] := List.length_eq_zero_iff.1 h2
    subst this
    exact ⟨⟨none, 0, h1, Nat.le_refl _, by decide, .inl rfl⟩, fun x hx => (by cases hx)⟩
  · refine ⟨⟨_, cap, h1, h4, by unfold maxLen at h5; omega, .inr ⟨g, 0, rfl, (Array.getElem?_eq_some_iff.1 h3).1, fun j hj => ?_⟩⟩, by assumption⟩
    have h8 : (cur.toList.take (l.length * 1))[j]? = (l.map stv)[j]? := by rw [h7]
    rw [List.getElem?_take_of_lt (by omega), Array.getElem?_toList, List.getElem?_map, List.getElem?_eq_getElem hj] at h8
    rw [Nat.zero_add]
    exact Blk.cell (vs := cur) h3 j _ h8
theorem OrI.push {w2 W W' : World} {l : List (List UInt8)} {v : Value} {x : List UInt8} {o8 c8 : Nat} (h : OrI w2 W l v) (hg : (W.alloc (.cells #[.string (bs x)] 9)).grownBy W' v.ownBlock) (ho : W'.ownsRow w2.heap.size 9 1 (.slice (some ⟨o8, 0, none⟩) (l.length + 1) c8) (l.length + 1) (l.map stv ++ [.string (bs x)])) : OrI w2 W' (l ++ [x]) (.slice (some ⟨o8, 0, none⟩) (l.length + 1) c8) := ⟨by rw [List.map_append, List.length_append]; exact ho, (h.b.alloc h.b.size _).grown hg (by have := h.b.size; simp; omega) (fun g hg9 => (owns_lt h.own hg9).1)⟩
theorem flat_len (ll : List (List Nat)) (j : Nat) (hj : j < ll.length) : (ll.take j).flatten.length + ll[j].length ≤ lsum ll := by
  have h1 : (ll.take j).flatten.length = lsum (ll.take j) := by unfold lsum; rw [List.length_flatten]
  rw [h1, ← lsum_take ll j hj]
  exact lsum_le ll (j + 1)
theorem flat_next (ll : List (List Nat)) (j : Nat) (hj : j < ll.length) : (ll.take (j + 1)).flatten = (ll.take j).flatten ++ ll[j] := by
  rw [List.take_succ_eq_append_getElem hj, List.flatten_append, List.flatten_cons, List.flatten_nil, List.append_nil]
set_option maxHeartbeats 8000000 in
set_option maxRecDepth 100000 in
theorem order_c (v u : Value) (ns : List (List UInt8)) (us : List (List (List UInt8))) (low : Nat → Nat) (grp : Nat → List Nat) (S : List Nat) (hnl : ns.length ≤ 20000) (hul : us.length ≤ 20000) (ht : total us ≤ 200000) (hlu : ns.length = us.length) (hnd : ns.Nodup) (hP : Parted ns.length (adjF ns us) low grp) (hO : Ordered ns.length (adjF ns us) low S) (w : World) (hv : StrAt w v ns) (hu : UseAt w u us) : Calls Try.prog 11 #[v, u] w fun r W' => ∃ av, r = .returned (.tuple #[av, .int .i64 0]) ∧ StrAt W' av (ordL ns (S.map grp)) ∧ Below w.heap.size w W' := by
  have hadj : ∀ x, x < ns.length → ∀ y ∈ adjF ns us x, y < ns.length := fun x _ y hy => adjF_lt ns us x y hy
  have hsn := snOK_of hnd hlu hP hO
  have HC : Hid (Calls Try.prog 6 #[v, u] w fun r W' => ∃ ao ac, r = .returned (.tuple #[.slice ao (S.map grp).length ac, .int .i64 0]) ∧ IntsAt W' (.slice ao (S.map grp).length ac) (S.map grp) ∧ Below w.heap.size w W') := by
    refine (of_c v u ns us hnl hul ht w hv hu).mono ?_
    rintro e W' h
    rcases h with ⟨_, _, low', grp', S', av, gv, rfl, p1, p2, p3, p4, p5⟩ | ⟨h1, _⟩
    · have he := groups_eq hP hO p1 p2 hadj
      obtain ⟨ao, ac, rfl, -, -⟩ := owns_form p3
      have hSl : S'.length = (S.map grp).length := by rw [← he, List.length_map]
      have hia : IntsAt W' (.slice ao S'.length ac) (S.map grp) := ints_of p3 p4 (fun g hg => ((p2.all g).1 hg).1) he ⟨by have := hsn.len; omega, fun l hl => ⟨by have := (hsn.whl l hl).2.1; omega, fun x hx => by have := (hsn.whl l hl).2.2.1 x hx; omega⟩⟩
      rw [hSl] at hia ⊢
      exact ⟨ao, ac, rfl, hia, p5⟩
    · exact absurd ⟨hlu, hnd⟩ h1
  obtain ⟨ll, hll⟩ : ∃ ll, S.map grp = ll := ⟨_, rfl⟩
  rw [hll] at HC hsn
  have HV : Hid (StrAt w v ns ∧ (∀ x ∈ ns, x.length ≤ 9223372036854775807)) := ⟨hv, hv.2⟩
  obtain ⟨o, cap, ev, hc1, hc2⟩ := hv.slice
  obtain ⟨o2, cap2, eu, hd1, hd2⟩ := hu.slice
  obtain ⟨n, hn⟩ : ∃ n, ns.length = n := ⟨_, rfl⟩
  obtain ⟨m, hm⟩ : ∃ m, us.length = m := ⟨_, rfl⟩
  obtain ⟨q, hq⟩ : ∃ q, ll.length = q := ⟨_, rfl⟩
  have HL : Hid (ns.length = n ∧ ll.length = q ∧ S.map grp = ll ∧ lsum ll = n ∧ n ≤ 20000 ∧ (∀ l ∈ ll, l.length ≤ n ∧ ∀ x ∈ l, x < ns.length)) := ⟨hn, hq, hll, by rw [← hn]; exact hsn.sum, by omega, fun l hl => ⟨by rw [← hn]; exact (hsn.whl l hl).2.1, (hsn.whl l hl).2.2.1⟩⟩
  have hqi : (q : Int) ≤ 20000 := by have := hsn.len; omega
  rw [hn] at ev
  rw [hm] at eu
  rw [hq] at HC
  subst ev eu
  have hni : (n : Int) ≤ 20000 := by omega
  clear hv hu hc1 hc2 hd1 hd2 hn hm hq hnl hul ht hlu hnd hP hO hadj hsn hll
  obtain ⟨i0, hi0, hz0, hz1, hz2⟩ := info_parts infoStr
  have HI0 : Hid (Try.prog.info? 9 = some i0 ∧ i0.zero = some (.string ⟨#[]⟩) ∧ i0.size = 1 ∧ i0.bytes = 16) := ⟨hi0, hz0, hz1, hz2⟩
  clear hi0 hz0 hz1 hz2
  go_enter Try.func11, Try.ntmps11
  go_wp2_with (go_at_call 6; fail)
  refine HC.out.mono ?_
  rintro e w2 ⟨ao, ac, rfl, hia, hb2⟩
  have HA : Hid (IntsAt w2 (.slice ao q ac) ll ∧ Below w.heap.size w w2) := ⟨hia, hb2⟩
  have H0 : Hid (OrI w2 w2 [] (.slice none 0 0)) := ⟨owns_nil _ _ _ _, Below.refl _ _⟩
  clear hia hb2 HC
  go_wp2
  go_loopw [8, 24] (fun v8 v9 wr => ∃ (j : Nat) (l : List (List UInt8)), v9 = .int .i64 (j : Int) ∧ (∃ o8 c8, v8 = .slice o8 l.length c8) ∧ Hid (j ≤ q ∧ l = (ll.take j).flatten.map (nmG ns) ∧ OrI w2 wr l v8)) (fun _ v _ => q - (intOf v).toNat)
  case atStart => exact ⟨0, [], rfl, ⟨_, _, rfl⟩, ⟨Nat.zero_le _, rfl, H0.out⟩⟩
  case round =>
    clear H0
    obtain ⟨j, l, rfl, ⟨o8, c8, rfl⟩, HI⟩ := hrel
    obtain ⟨wo, hwo⟩ : ∃ wo, wo = wr := ⟨_, rfl⟩
    subst hwo
    obtain ⟨s, hs⟩ : ∃ s, l.length = s := ⟨_, rfl⟩
    have HS : Hid (l.length = s) := hs
    rw [hs] at HI ⊢
    clear hs
    by_cases hj : j < q
    · have hjl : j < ll.length := by rw [HL.out.2.1]; exact hj
      have hji : (j : Int) < (q : Int) := by omega
      obtain ⟨g1, c1, v1, e1, l1, r1, s1, t1⟩ := (HA.out.1).at hjl
      obtain ⟨rfl, -⟩ : ao = some ⟨g1, 0, none⟩ ∧ True := by cases e1; exact ⟨rfl, trivial⟩
      obtain ⟨o5, c5, rfl, -, -⟩ := s1.slice
      have hfl := flat_len ll j hjl
      have hfn := flat_next ll j hjl
      have hlm := HL.out.2.2.2.2.2 _ (List.getElem_mem hjl)
      obtain ⟨row, hrow⟩ : ∃ row, ll[j] = row := ⟨_, rfl⟩
      rw [hrow] at r1 s1 hfl hfn hlm
      obtain ⟨p, hp⟩ : ∃ p, row.length = p := ⟨_, rfl⟩
      rw [hp] at r1 s1 hfl
      have HR : Hid (j < q ∧ RowAt w2 w2.heap.size (.slice o5 p c5) row ∧ row.length = p ∧ (ll.take (j + 1)).flatten = (ll.take j).flatten ++ row ∧ (∀ x ∈ row, x < ns.length) ∧ (ll.take j).flatten.length + p ≤ 20000 ∧ g1 < w2.heap.size ∧ w2.cell? ⟨g1, j, none⟩ = some (.slice o5 p c5)) := ⟨hj, s1, hp, hfn, hlm.2, by have := HL.out; omega, l1, r1⟩
      have hpi : (p : Int) ≤ 20000 := by have := HR.out.2.2.2.2.2.1; omega
      have x1 : wo.cell? ⟨g1, j, none⟩ = some (.slice o5 p c5) := (HI.out.2.2.b.cell (p := ⟨g1, j, none⟩) l1).trans r1
      have y1 : g1 < wo.heap.size := Nat.lt_of_lt_of_le l1 HI.out.2.2.b.size
      clear e1 s1 t1 hfl hfn hlm hrow hp hj hjl r1 l1
      go_wp2
      clear x1 y1
      go_loopw [8, 30] (fun v8 v9 wr => ∃ (i : Nat) (l : List (List UInt8)), v9 = .int .i64 (i : Int) ∧ (∃ o8 c8, v8 = .slice o8 l.length c8) ∧ Hid (i ≤ p ∧ l = ((ll.take j).flatten ++ row.take i).map (nmG ns) ∧ OrI w2 wr l v8)) (fun _ v _ => p - (intOf v).toNat)
      case atStart => exact ⟨0, l, rfl, ⟨_, _, by rw [HS.out]⟩, ⟨Nat.zero_le _, by rw [HI.out.2.1]; simp, HI.out.2.2⟩⟩
      case round =>
        clear HI HS
        obtain ⟨i, l, rfl, ⟨o8, c8, rfl⟩, HI⟩ := hrel
        obtain ⟨s, hs⟩ : ∃ s, l.length = s := ⟨_, rfl⟩
        have HS : Hid (l.length = s) := hs
        have hsn : s ≤ 20000 := by
          rw [← hs, HI.out.2.1, List.length_map, List.length_append, List.length_take]
          have := HR.out; omega
        rw [hs] at HI ⊢
        clear hs
        have x1 : wr.cell? ⟨g1, j, none⟩ = some (.slice o5 p c5) := (HI.out.2.2.b.cell (p := ⟨g1, j, none⟩) HR.out.2.2.2.2.2.2.1).trans HR.out.2.2.2.2.2.2.2
        have y1 : g1 < wr.heap.size := Nat.lt_of_lt_of_le HR.out.2.2.2.2.2.2.1 HI.out.2.2.b.size
        by_cases hi : i < p
        · have hil : i < row.length := by rw [HR.out.2.2.1]; exact hi
          have hii : (i : Int) < (p : Int) := by omega
          obtain ⟨g2, cg2, eg2, -, -, -, hg2, hcx⟩ := HR.out.2.1.at hil
          obtain ⟨rfl, -⟩ : o5 = some ⟨g2, 0, none⟩ ∧ True := by cases eg2; exact ⟨rfl, trivial⟩
          obtain ⟨x, hx⟩ : ∃ x, row[i] = x := ⟨_, rfl⟩
          have hxn : x < ns.length := HR.out.2.2.2.2.1 x (by rw [← hx]; exact List.getElem_mem hil)
          have hxi : (x : Int) < (n : Int) := by have := HL.out.1; omega
          have hcx2 : wr.cell? ⟨g2, i, none⟩ = some (.int .i64 (x : Int)) := (HI.out.2.2.b.cell (p := ⟨g2, i, none⟩) hg2).trans (by rw [hcx, hx]; rfl)
          have hg2w : g2 < wr.heap.size := Nat.lt_of_lt_of_le hg2 HI.out.2.2.b.size
          obtain ⟨g3, off3, cp3, e3, hg3, hcell3, -⟩ := HV.out.1.at hxn
          obtain ⟨rfl, -⟩ : o = some ⟨g3, off3, none⟩ ∧ True := by cases e3; exact ⟨rfl, trivial⟩
          have hbw : Below w.heap.size w wr := HA.out.2.trans (HI.out.2.2.b.mono HA.out.2.size)
          obtain ⟨z, hz⟩ : ∃ z, ns[x] = z := ⟨_, rfl⟩
          have hcz : wr.cell? ⟨g3, off3 + x, none⟩ = some (.string (bs z)) := by rw [← hz]; exact (hbw.cell (p := ⟨g3, off3 + x, none⟩) hg3).trans hcell3
          have hg3w : g3 < wr.heap.size := Nat.lt_of_lt_of_le hg3 hbw.size
          have HX : Hid (i < p ∧ row.take (i + 1) = row.take i ++ [x] ∧ nmG ns x = z) := ⟨hi, by rw [List.take_succ_eq_append_getElem hil, hx], by unfold nmG; rw [List.getD_eq_getElem?_getD, List.getElem?_eq_getElem hxn, hz, Option.getD_some]⟩
          have HOw : Hid (wr.ownsRow w2.heap.size 9 1 (.slice o8 s c8) s (l.map stv)) := by have h := HI.out.2.2.own; rw [HS.out] at h; exact h
          have hws : w2.heap.size ≤ wr.heap.size := HI.out.2.2.b.size
          clear hi hil eg2 hcx hx hxn e3 hg3 hcell3 hbw hz hg2
          go_wp2_with (at_builtin; refine wpList_append_lies _ rfl _ _ 26 rfl w2.heap.size 9 i0 (.string ⟨#[]⟩) 1 16 Try.underlying26 HI0.out.1 HI0.out.2.1 HI0.out.2.2.1 HI0.out.2.2.2 rfl (by decide) _ _ _ rfl (HOw.out.alloc _) ⟨wr.heap.size, 0, none⟩ 1 1 [.string (bs z)] rfl rfl (cell_one_new _ _ _) (by simp [Value.oneCell']) (by decide) (by unfold maxLen; omega) (by omega) (by simp; omega) (wr.heap.size + 1) (by simp) ?_; intro oa ca w8 hown8 hgrow8 hat8 hlt8; have H8 : Hid ((wr.alloc (.cells #[.string (bs z)] 9)).grownBy w8 (Value.slice o8 s c8).ownBlock ∧ w8.ownsRow w2.heap.size 9 1 (.slice (some ⟨oa, 0, none⟩) (s + 1) ca) (s + 1) (l.map stv ++ [.string (bs z)])) := ⟨hgrow8, hown8⟩; clear hown8 hgrow8 hat8 hlt8)
          have H9 : Hid (OrI w2 w8 (l ++ [z]) (.slice (some ⟨oa, 0, none⟩) (s + 1) ca)) := by
            have h := HI.out.2.2.push (x := z) (W' := w8) (o8 := oa) (c8 := ca) H8.out.1 (by rw [HS.out]; exact H8.out.2)
            rw [HS.out] at h
            exact h
          refine ⟨⟨i + 1, l ++ [z], by congr 1, ⟨_, _, by rw [List.length_append, HS.out]; rfl⟩, ⟨HX.out.1, ?_, H9.out⟩⟩, ?_⟩
          · rw [HX.out.2.1, ← List.append_assoc, List.map_append, ← HI.out.2.1, List.map_cons, List.map_nil, HX.out.2.2]
          · show p - ((i : Int) + 1).toNat < p - ((i : Int)).toNat
            have := HX.out.1; omega
        · have hii : ¬ (i : Int) < (p : Int) := by omega
          have HK : Hid (row.take i = row) := by show _ = _; exact List.take_of_length_le (by have := HR.out.2.2.1; omega)
          clear hi
          go_wp2
          refine ⟨⟨j + 1, l, by congr 1, ⟨_, _, by rw [HS.out]⟩, ⟨HR.out.1, ?_, HI.out.2.2⟩⟩, ?_⟩
          · rw [HI.out.2.1, HK.out, HR.out.2.2.2.1]
          · show q - ((j : Int) + 1).toNat < q - ((j : Int)).toNat
            have := HR.out.1; omega
    · have hji : ¬ (j : Int) < (q : Int) := by omega
      have HX : Hid (StrAt wo (.slice o8 s c8) (ordL ns (S.map grp)) ∧ Below w.heap.size w wo) := by
        have e : l = ordL ns (S.map grp) := by
          rw [HI.out.2.1, List.take_of_length_le (by have := HL.out.2.1; omega), HL.out.2.2.1]; rfl
        refine ⟨?_, HA.out.2.trans (HI.out.2.2.b.mono HA.out.2.size)⟩
        rw [← e]
        refine HI.out.2.2.str (fun x hx => ?_)
        rw [HI.out.2.1] at hx
        obtain ⟨y, _, rfl⟩ := List.mem_map.1 hx
        unfold nmG
        rw [List.getD_eq_getElem?_getD]
        cases e9 : ns[y]? with
        | none => simp
        | some t => exact HV.out.2 t (List.mem_of_getElem? e9)
      clear hj
      go_wp2
      go_ret2
      exact ⟨_, rfl, HX.out.1, HX.out.2⟩
set_option maxHeartbeats 8000000 in
set_option maxRecDepth 100000 in
theorem rorder_c (v u : Value) (ns : List (List UInt8)) (us : List (List (List UInt8))) (low : Nat → Nat) (grp : Nat → List Nat) (S : List Nat) (hnl : ns.length ≤ 20000) (hul : us.length ≤ 20000) (ht : total us ≤ 200000) (hlu : ns.length = us.length) (hnd : ns.Nodup) (hP : Parted ns.length (adjF ns us) low grp) (hO : Ordered ns.length (adjF ns us) low S) (w : World) (hv : StrAt w v ns) (hu : UseAt w u us) : Calls Try.prog 12 #[v, u] w fun r W' => ∃ av, r = .returned (.tuple #[av, .int .i64 0]) ∧ StrAt W' av (ordL ns (S.map grp)) ∧ Below w.heap.size w W' := by
  have hadj : ∀ x, x < ns.length → ∀ y ∈ adjF ns us x, y < ns.length := fun x _ y hy => adjF_lt ns us x y hy
  have hsn := snOK_of hnd hlu hP hO
  have HC : Hid (Calls Try.prog 10 #[v, u] w fun r W' => ∃ ao ac, r = .returned (.tuple #[.slice ao (S.map grp).length ac, .int .i64 0]) ∧ IntsAt W' (.slice ao (S.map grp).length ac) (S.map grp) ∧ Below w.heap.size w W') := by
    refine (rOf_c v u ns us low grp S hnl hul ht hlu hnd hP hO w hv hu).mono ?_
    rintro e W' ⟨av, rfl, h1, h2⟩
    obtain ⟨ao, ac, rfl, h3⟩ := id h1
    exact ⟨ao, ac, rfl, h1, h2⟩
  obtain ⟨ll, hll⟩ : ∃ ll, S.map grp = ll := ⟨_, rfl⟩
  rw [hll] at HC hsn
  have HV : Hid (StrAt w v ns ∧ (∀ x ∈ ns, x.length ≤ 9223372036854775807)) := ⟨hv, hv.2⟩
  obtain ⟨o, cap, ev, hc1, hc2⟩ := hv.slice
  obtain ⟨o2, cap2, eu, hd1, hd2⟩ := hu.slice
  obtain ⟨n, hn⟩ : ∃ n, ns.length = n := ⟨_, rfl⟩
  obtain ⟨m, hm⟩ : ∃ m, us.length = m := ⟨_, rfl⟩
  obtain ⟨q, hq⟩ : ∃ q, ll.length = q := ⟨_, rfl⟩
  have HL : Hid (ns.length = n ∧ ll.length = q ∧ S.map grp = ll ∧ lsum ll = n ∧ n ≤ 20000 ∧ (∀ l ∈ ll, l.length ≤ n ∧ ∀ x ∈ l, x < ns.length)) := ⟨hn, hq, hll, by rw [← hn]; exact hsn.sum, by omega, fun l hl => ⟨by rw [← hn]; exact (hsn.whl l hl).2.1, (hsn.whl l hl).2.2.1⟩⟩
  have hqi : (q : Int) ≤ 20000 := by have := hsn.len; omega
  rw [hn] at ev
  rw [hm] at eu
  rw [hq] at HC
  subst ev eu
  have hni : (n : Int) ≤ 20000 := by omega
  clear hv hu hc1 hc2 hd1 hd2 hn hm hq hnl hul ht hlu hnd hP hO hadj hsn hll
  obtain ⟨i0, hi0, hz0, hz1, hz2⟩ := info_parts infoStr
  have HI0 : Hid (Try.prog.info? 9 = some i0 ∧ i0.zero = some (.string ⟨#[]⟩) ∧ i0.size = 1 ∧ i0.bytes = 16) := ⟨hi0, hz0, hz1, hz2⟩
  clear hi0 hz0 hz1 hz2
  go_enter Try.func12, Try.ntmps12
  go_wp2_with (go_at_call 10; fail)
  refine HC.out.mono ?_
  rintro e w2 ⟨ao, ac, rfl, hia, hb2⟩
  have HA : Hid (IntsAt w2 (.slice ao q ac) ll ∧ Below w.heap.size w w2) := ⟨hia, hb2⟩
  have H0 : Hid (OrI w2 w2 [] (.slice none 0 0)) := ⟨owns_nil _ _ _ _, Below.refl _ _⟩
  clear hia hb2 HC
  go_wp2
  go_loopw [8, 9] (fun v8 v9 wr => ∃ (j : Nat) (l : List (List UInt8)), v9 = .int .i64 (j : Int) ∧ (∃ o8 c8, v8 = .slice o8 l.length c8) ∧ Hid (j ≤ q ∧ l = (ll.take j).flatten.map (nmG ns) ∧ OrI w2 wr l v8)) (fun _ v _ => q - (intOf v).toNat)
  case atStart => exact ⟨0, [], rfl, ⟨_, _, rfl⟩, ⟨Nat.zero_le _, rfl, H0.out⟩⟩
  case round =>
    clear H0
    obtain ⟨j, l, rfl, ⟨o8, c8, rfl⟩, HI⟩ := hrel
    obtain ⟨wo, hwo⟩ : ∃ wo, wo = wr := ⟨_, rfl⟩
    subst hwo
    obtain ⟨s, hs⟩ : ∃ s, l.length = s := ⟨_, rfl⟩
    have HS : Hid (l.length = s) := hs
    rw [hs] at HI ⊢
    clear hs
    by_cases hj : j < q
    · have hjl : j < ll.length := by rw [HL.out.2.1]; exact hj
      have hji : (j : Int) < (q : Int) := by omega
      obtain ⟨g1, c1, v1, e1, l1, r1, s1, t1⟩ := (HA.out.1).at hjl
      obtain ⟨rfl, -⟩ : ao = some ⟨g1, 0, none⟩ ∧ True := by cases e1; exact ⟨rfl, trivial⟩
      obtain ⟨o5, c5, rfl, -, -⟩ := s1.slice
      have hfl := flat_len ll j hjl
      have hfn := flat_next ll j hjl
      have hlm := HL.out.2.2.2.2.2 _ (List.getElem_mem hjl)
      obtain ⟨row, hrow⟩ : ∃ row, ll[j] = row := ⟨_, rfl⟩
      rw [hrow] at r1 s1 hfl hfn hlm
      obtain ⟨p, hp⟩ : ∃ p, row.length = p := ⟨_, rfl⟩
      rw [hp] at r1 s1 hfl
      have HR : Hid (j < q ∧ RowAt w2 w2.heap.size (.slice o5 p c5) row ∧ row.length = p ∧ (ll.take (j + 1)).flatten = (ll.take j).flatten ++ row ∧ (∀ x ∈ row, x < ns.length) ∧ (ll.take j).flatten.length + p ≤ 20000 ∧ g1 < w2.heap.size ∧ w2.cell? ⟨g1, j, none⟩ = some (.slice o5 p c5)) := ⟨hj, s1, hp, hfn, hlm.2, by have := HL.out; omega, l1, r1⟩
      have hpi : (p : Int) ≤ 20000 := by have := HR.out.2.2.2.2.2.1; omega
      have x1 : wo.cell? ⟨g1, j, none⟩ = some (.slice o5 p c5) := (HI.out.2.2.b.cell (p := ⟨g1, j, none⟩) l1).trans r1
      have y1 : g1 < wo.heap.size := Nat.lt_of_lt_of_le l1 HI.out.2.2.b.size
      clear e1 s1 t1 hfl hfn hlm hrow hp hj hjl r1 l1
      go_wp2
      clear x1 y1
      go_loopw [8, 10] (fun v8 v9 wr => ∃ (i : Nat) (l : List (List UInt8)), v9 = .int .i64 (i : Int) ∧ (∃ o8 c8, v8 = .slice o8 l.length c8) ∧ Hid (i ≤ p ∧ l = ((ll.take j).flatten ++ row.take i).map (nmG ns) ∧ OrI w2 wr l v8)) (fun _ v _ => p - (intOf v).toNat)
      case atStart => exact ⟨0, l, rfl, ⟨_, _, by rw [HS.out]⟩, ⟨Nat.zero_le _, by rw [HI.out.2.1]; simp, HI.out.2.2⟩⟩
      case round =>
        clear HI HS
        obtain ⟨i, l, rfl, ⟨o8, c8, rfl⟩, HI⟩ := hrel
        obtain ⟨s, hs⟩ : ∃ s, l.length = s := ⟨_, rfl⟩
        have HS : Hid (l.length = s) := hs
        have hsn : s ≤ 20000 := by
          rw [← hs, HI.out.2.1, List.length_map, List.length_append, List.length_take]
          have := HR.out; omega
        rw [hs] at HI ⊢
        clear hs
        have x1 : wr.cell? ⟨g1, j, none⟩ = some (.slice o5 p c5) := (HI.out.2.2.b.cell (p := ⟨g1, j, none⟩) HR.out.2.2.2.2.2.2.1).trans HR.out.2.2.2.2.2.2.2
        have y1 : g1 < wr.heap.size := Nat.lt_of_lt_of_le HR.out.2.2.2.2.2.2.1 HI.out.2.2.b.size
        by_cases hi : i < p
        · have hil : i < row.length := by rw [HR.out.2.2.1]; exact hi
          have hii : (i : Int) < (p : Int) := by omega
          obtain ⟨g2, cg2, eg2, -, -, -, hg2, hcx⟩ := HR.out.2.1.at hil
          obtain ⟨rfl, -⟩ : o5 = some ⟨g2, 0, none⟩ ∧ True := by cases eg2; exact ⟨rfl, trivial⟩
          obtain ⟨x, hx⟩ : ∃ x, row[i] = x := ⟨_, rfl⟩
          have hxn : x < ns.length := HR.out.2.2.2.2.1 x (by rw [← hx]; exact List.getElem_mem hil)
          have hxi : (x : Int) < (n : Int) := by have := HL.out.1; omega
          have hcx2 : wr.cell? ⟨g2, i, none⟩ = some (.int .i64 (x : Int)) := (HI.out.2.2.b.cell (p := ⟨g2, i, none⟩) hg2).trans (by rw [hcx, hx]; rfl)
          have hg2w : g2 < wr.heap.size := Nat.lt_of_lt_of_le hg2 HI.out.2.2.b.size
          obtain ⟨g3, off3, cp3, e3, hg3, hcell3, -⟩ := HV.out.1.at hxn
          obtain ⟨rfl, -⟩ : o = some ⟨g3, off3, none⟩ ∧ True := by cases e3; exact ⟨rfl, trivial⟩
          have hbw : Below w.heap.size w wr := HA.out.2.trans (HI.out.2.2.b.mono HA.out.2.size)
          obtain ⟨z, hz⟩ : ∃ z, ns[x] = z := ⟨_, rfl⟩
          have hcz : wr.cell? ⟨g3, off3 + x, none⟩ = some (.string (bs z)) := by rw [← hz]; exact (hbw.cell (p := ⟨g3, off3 + x, none⟩) hg3).trans hcell3
          have hg3w : g3 < wr.heap.size := Nat.lt_of_lt_of_le hg3 hbw.size
          have HX : Hid (i < p ∧ row.take (i + 1) = row.take i ++ [x] ∧ nmG ns x = z) := ⟨hi, by rw [List.take_succ_eq_append_getElem hil, hx], by unfold nmG; rw [List.getD_eq_getElem?_getD, List.getElem?_eq_getElem hxn, hz, Option.getD_some]⟩
          have HOw : Hid (wr.ownsRow w2.heap.size 9 1 (.slice o8 s c8) s (l.map stv)) := by have h := HI.out.2.2.own; rw [HS.out] at h; exact h
          have hws : w2.heap.size ≤ wr.heap.size := HI.out.2.2.b.size
          clear hi hil eg2 hcx hx hxn e3 hg3 hcell3 hbw hz hg2
          go_wp2_with (at_builtin; refine wpList_append_lies _ rfl _ _ 26 rfl w2.heap.size 9 i0 (.string ⟨#[]⟩) 1 16 Try.underlying26 HI0.out.1 HI0.out.2.1 HI0.out.2.2.1 HI0.out.2.2.2 rfl (by decide) _ _ _ rfl (HOw.out.alloc _) ⟨wr.heap.size, 0, none⟩ 1 1 [.string (bs z)] rfl rfl (cell_one_new _ _ _) (by simp [Value.oneCell']) (by decide) (by unfold maxLen; omega) (by omega) (by simp; omega) (wr.heap.size + 1) (by simp) ?_; intro oa ca w8 hown8 hgrow8 hat8 hlt8; have H8 : Hid ((wr.alloc (.cells #[.string (bs z)] 9)).grownBy w8 (Value.slice o8 s c8).ownBlock ∧ w8.ownsRow w2.heap.size 9 1 (.slice (some ⟨oa, 0, none⟩) (s + 1) ca) (s + 1) (l.map stv ++ [.string (bs z)])) := ⟨hgrow8, hown8⟩; clear hown8 hgrow8 hat8 hlt8)
          have H9 : Hid (OrI w2 w8 (l ++ [z]) (.slice (some ⟨oa, 0, none⟩) (s + 1) ca)) := by
            have h := HI.out.2.2.push (x := z) (W' := w8) (o8 := oa) (c8 := ca) H8.out.1 (by rw [HS.out]; exact H8.out.2)
            rw [HS.out] at h
            exact h
          refine ⟨⟨i + 1, l ++ [z], by congr 1, ⟨_, _, by rw [List.length_append, HS.out]; rfl⟩, ⟨HX.out.1, ?_, H9.out⟩⟩, ?_⟩
          · rw [HX.out.2.1, ← List.append_assoc, List.map_append, ← HI.out.2.1, List.map_cons, List.map_nil, HX.out.2.2]
          · show p - ((i : Int) + 1).toNat < p - ((i : Int)).toNat
            have := HX.out.1; omega
        · have hii : ¬ (i : Int) < (p : Int) := by omega
          have HK : Hid (row.take i = row) := by show _ = _; exact List.take_of_length_le (by have := HR.out.2.2.1; omega)
          clear hi
          go_wp2
          refine ⟨⟨j + 1, l, by congr 1, ⟨_, _, by rw [HS.out]⟩, ⟨HR.out.1, ?_, HI.out.2.2⟩⟩, ?_⟩
          · rw [HI.out.2.1, HK.out, HR.out.2.2.2.1]
          · show q - ((j : Int) + 1).toNat < q - ((j : Int)).toNat
            have := HR.out.1; omega
    · have hji : ¬ (j : Int) < (q : Int) := by omega
      have HX : Hid (StrAt wo (.slice o8 s c8) (ordL ns (S.map grp)) ∧ Below w.heap.size w wo) := by
        have e : l = ordL ns (S.map grp) := by
          rw [HI.out.2.1, List.take_of_length_le (by have := HL.out.2.1; omega), HL.out.2.2.1]; rfl
        refine ⟨?_, HA.out.2.trans (HI.out.2.2.b.mono HA.out.2.size)⟩
        rw [← e]
        refine HI.out.2.2.str (fun x hx => ?_)
        rw [HI.out.2.1] at hx
        obtain ⟨y, _, rfl⟩ := List.mem_map.1 hx
        unfold nmG
        rw [List.getD_eq_getElem?_getD]
        cases e9 : ns[y]? with
        | none => simp
        | some t => exact HV.out.2 t (List.mem_of_getElem? e9)
      clear hj
      go_wp2
      go_ret2
      exact ⟨_, rfl, HX.out.1, HX.out.2⟩
set_option maxHeartbeats 4000000 in
set_option maxRecDepth 100000 in
theorem orderErr_c (v u : Value) (ns : List (List UInt8)) (us : List (List (List UInt8))) (hnl : ns.length ≤ 20000) (hul : us.length ≤ 20000) (ht : total us ≤ 200000) (hE : ¬ (ns.length = us.length ∧ ns.Nodup)) (w : World) (hv : StrAt w v ns) (hu : UseAt w u us) : Calls Try.prog 11 #[v, u] w fun r W' => r = .returned (.tuple #[.slice none 0 0, .int .i64 2]) ∧ Below w.heap.size w W' := by
  have HC : Hid (Calls Try.prog 6 #[v, u] w fun r W' => r = .returned (.tuple #[.slice none 0 0, .int .i64 2]) ∧ Below w.heap.size w W') := by
    refine (of_c v u ns us hnl hul ht w hv hu).mono ?_
    rintro e W' h
    rcases h with ⟨h1, h2, _⟩ | ⟨_, h1, h2⟩
    · exact absurd ⟨h1, h2⟩ hE
    · exact ⟨h1, h2⟩
  obtain ⟨o, cap, ev, -, -⟩ := hv.slice
  obtain ⟨o2, cap2, eu, -, -⟩ := hu.slice
  generalize ns.length = n at ev
  generalize us.length = m at eu
  subst ev eu
  clear hv hu hnl hul ht hE
  go_enter Try.func11, Try.ntmps11
  go_wp2_with (go_at_call 6; fail)
  refine HC.out.mono ?_
  rintro e w2 ⟨rfl, hb2⟩
  have HB : Hid (Below w.heap.size w w2) := hb2
  clear hb2 HC
  go_wp2
  go_ret2
  exact ⟨rfl, HB.out⟩
set_option maxHeartbeats 4000000 in
set_option maxRecDepth 100000 in
theorem rorderErr_c (v u : Value) (ns : List (List UInt8)) (us : List (List (List UInt8))) (hnl : ns.length ≤ 20000) (hul : us.length ≤ 20000) (ht : total us ≤ 200000) (hE : ¬ (ns.length = us.length ∧ ns.Nodup)) (w : World) (hv : StrAt w v ns) (hu : UseAt w u us) : Calls Try.prog 12 #[v, u] w fun r W' => r = .returned (.tuple #[.slice none 0 0, .int .i64 2]) ∧ Below w.heap.size w W' := by
  have HC : Hid (Calls Try.prog 10 #[v, u] w fun r W' => r = .returned (.tuple #[.slice none 0 0, .int .i64 2]) ∧ Below w.heap.size w W') := by
    exact rOfErr_c v u ns us hnl hul ht hE w hv hu
  obtain ⟨o, cap, ev, -, -⟩ := hv.slice
  obtain ⟨o2, cap2, eu, -, -⟩ := hu.slice
  generalize ns.length = n at ev
  generalize us.length = m at eu
  subst ev eu
  clear hv hu hnl hul ht hE
  go_enter Try.func12, Try.ntmps12
  go_wp2_with (go_at_call 10; fail)
  refine HC.out.mono ?_
  rintro e w2 ⟨rfl, hb2⟩
  have HB : Hid (Below w.heap.size w w2) := hb2
  clear hb2 HC
  go_wp2
  go_ret2
  exact ⟨rfl, HB.out⟩
end Go.Proofs.Ytkkpkcigflikkaa
