/-
  The laws' place and whole, by contracts; what is known of groups, for GroupsSound.
-/
import Derived.Test.YtkkpkcigflikkaaOc
import Derived.Test.YtkkpkcigflikkaaNc
namespace Go.Proofs.Ytkkpkcigflikkaa
open Go.RowKit Go.Shelf Go.Maps G
set_option linter.unusedVariables false

set_option maxHeartbeats 4000000 in
set_option maxRecDepth 100000 in
theorem place_c (z : Value) (ll : List (List Nat)) (x i : Nat) (hi : i < ll.length) (hx : x ∈ ll[i]) (hno : ∀ j (h : j < ll.length), j < i → x ∉ ll[j]) (hxb : x ≤ 1000000) (w : World) (hz : IntsAt w z ll) : Calls Try.prog 17 #[z, .int .i64 (x : Int)] w fun r W' => r = .returned (.int .i64 (i : Int)) ∧ W' = w := by
  obtain ⟨o, cap, ez, hzl, -⟩ := id hz
  have HZ : Hid (IntsAt w z ll ∧ (∀ j (h : j < ll.length), j < i → x ∉ ll[j]) ∧ ∃ h : i < ll.length, x ∈ ll[i]) := ⟨hz, hno, hi, hx⟩
  obtain ⟨n, hn⟩ : ∃ n, ll.length = n := ⟨_, rfl⟩
  have HN : Hid (ll.length = n ∧ i < n) := ⟨hn, by omega⟩
  rw [hn] at ez
  subst ez
  have hni : (n : Int) ≤ 1000000 := by omega
  have hxi : (x : Int) ≤ 1000000 := by omega
  clear hz hno hx hi hn hzl hxb
  go_enter Try.func17, Try.ntmps17
  go_wp2
  go_loopw [5] (fun v5 wr => ∃ k : Nat, v5 = .int .i64 (k : Int) ∧ wr = w ∧ Hid (k ≤ i)) (fun v _ => i + 1 - (intOf v).toNat)
  case atStart => exact ⟨0, rfl, rfl, Nat.zero_le _⟩
  case round =>
    obtain ⟨k, rfl, hwr, HI⟩ := hrel
    have hwr := hwr.symm
    subst hwr
    have hkl : k < ll.length := by have := HI.out; have := HN.out; omega
    have hki : (k : Int) < (n : Int) := by have := HI.out; have := HN.out; omega
    obtain ⟨g1, c1, v1, e1, l1, r1, s1, t1⟩ := HZ.out.1.at hkl
    obtain ⟨rfl, -⟩ : o = some ⟨g1, 0, none⟩ ∧ True := by cases e1; exact ⟨rfl, trivial⟩
    obtain ⟨o2, c2, rfl, -, -⟩ := s1.slice
    obtain ⟨row, hrow⟩ : ∃ row, ll[k] = row := ⟨_, rfl⟩
    have HR : Hid (ll[k]? = some row ∧ RowAt w w.heap.size (.slice o2 ll[k].length c2) row ∧ row.length ≤ 1000000 ∧ ∀ y ∈ row, y ≤ 1000000) := ⟨by rw [List.getElem?_eq_getElem hkl, hrow], by rw [← hrow]; exact s1, by rw [← hrow]; exact t1.1, by rw [← hrow]; exact t1.2⟩
    rw [hrow] at HR r1
    obtain ⟨m, hm⟩ : ∃ m, row.length = m := ⟨_, rfl⟩
    rw [hm] at HR r1
    have HM : Hid (row.length = m) := hm
    have hmi : (m : Int) ≤ 1000000 := by have := HR.out.2.2.1; omega
    clear e1 s1 t1 hrow hm hkl
    go_wp2
    go_loopw [6] (fun v6 wr => ∃ j : Nat, v6 = .int .i64 (j : Int) ∧ wr = w ∧ Hid (j ≤ m ∧ x ∉ row.take j)) (fun v _ => m - (intOf v).toNat)
    case atStart => exact ⟨0, rfl, rfl, ⟨Nat.zero_le _, by simp⟩⟩
    case round =>
      obtain ⟨j, rfl, hwr, HJ⟩ := hrel
      have hwr := hwr.symm
      subst hwr
      by_cases hj : j < m
      · have hjl : j < row.length := by rw [HM.out]; exact hj
        have hji : (j : Int) < (m : Int) := by omega
        obtain ⟨g2, cg2, eg2, -, -, -, hg2, hcx⟩ := HR.out.2.1.at hjl
        obtain ⟨rfl, -⟩ : o2 = some ⟨g2, 0, none⟩ ∧ True := by cases eg2; exact ⟨rfl, trivial⟩
        obtain ⟨y, hy⟩ : ∃ y, row[j] = y := ⟨_, rfl⟩
        have hcy : w.cell? ⟨g2, j, none⟩ = some (.int .i64 (y : Int)) := by rw [hcx, hy]; rfl
        have HY : Hid (j < m ∧ row.take (j + 1) = row.take j ++ [y] ∧ y ∈ row) := ⟨hj, by rw [List.take_succ_eq_append_getElem hjl, hy], by rw [← hy]; exact List.getElem_mem hjl⟩
        have hyi : (y : Int) ≤ 1000000 := by have := HR.out.2.2.2 y HY.out.2.2; omega
        clear hcx eg2 hy hj hjl
        by_cases hxy : y = x
        · subst hxy
          have HK : Hid (k = i) := by
            show _ = _
            have hk := HI.out
            have hrk := List.getElem?_eq_some_iff.1 HR.out.1
            rcases Nat.lt_or_ge k i with h9 | h9
            · exact absurd (by rw [hrk.2]; exact HY.out.2.2) (HZ.out.2.1 k hrk.1 h9)
            · omega
          go_wp2
          go_ret
          rw [HK.out]
          exact ⟨rfl, rfl⟩
        · have h1 : ¬ ((y : Int) = (x : Int)) := by omega
          have h2 : ((y : Int) == (x : Int)) = false := by simp; omega
          have HX : Hid (¬ y = x) := hxy
          clear hxy
          go_wp2
          refine ⟨⟨j + 1, by congr 1, trivial, ⟨HY.out.1, ?_⟩⟩, ?_⟩
          · rw [HY.out.2.1]
            intro h9
            rcases List.mem_append.1 h9 with h9 | h9
            · exact HJ.out.2 h9
            · simp at h9; exact HX.out h9.symm
          · show m - ((j : Int) + 1).toNat < m - ((j : Int)).toNat
            have := HY.out.1; omega
      · have hji : ¬ (j : Int) < (m : Int) := by omega
        have HX : Hid (k < i) := by
          show _ < _
          have h1 := HJ.out.2
          rw [List.take_of_length_le (by have := HM.out; omega)] at h1
          have hk := HI.out
          rcases Nat.lt_or_ge k i with h9 | h9
          · exact h9
          · have e : k = i := by omega
            subst e
            have hrk := List.getElem?_eq_some_iff.1 HR.out.1
            exact absurd (by obtain ⟨_, this⟩ := HZ.out.2.2; rw [hrk.2] at this; exact this) h1
        clear hj
        go_wp2
        refine ⟨⟨k + 1, by congr 1, trivial, HX.out⟩, ?_⟩
        show i + 1 - ((k : Int) + 1).toNat < i + 1 - ((k : Int)).toNat
        have := HX.out; omega
/-- What is closed is all. -/
def AllOf (f : Nat → Nat → Bool) (gl : List Nat) : Prop := ∀ out : List Nat, out.Nodup → (∀ x ∈ out, x ∈ gl) → (∀ x, gl.head? = some x → x ∈ out) → (∀ x ∈ out, ∀ y ∈ gl, f x y = true → y ∈ out) → out.length = gl.length
set_option maxHeartbeats 4000000 in
set_option maxRecDepth 100000 in
theorem whole_c (v u z : Value) (ns : List (List UInt8)) (us : List (List (List UInt8))) (gl : List Nat) (hnl : ns.length ≤ 20000) (hlu : ns.length = us.length) (ht : total us ≤ 200000) (hg : gl ≠ []) (hgl : gl.length ≤ 20000) (hgs : ∀ x ∈ gl, x < ns.length) (hF : AllOf (edB ns us false) gl) (hT : AllOf (edB ns us true) gl) (w : World) (hv : StrAt w v ns) (hu : UseAt w u us) (hz : RowAt w w.heap.size z gl) : Calls Try.prog 18 #[v, u, z] w fun r W' => r = .returned (.bool true) ∧ Below w.heap.size w W' := by
  have HC : Hid (∀ (back : Bool) (X : World), Below w.heap.size w X → AllOf (edB ns us back) gl → Calls Try.prog 30 #[v, u, z, .bool back] X fun r W' => ∃ o c, r = .returned (.slice o gl.length c) ∧ Below w.heap.size w W') := fun back X hX hA => by
    refine (reach_c v u z ns us gl back hnl hlu ht hg hgl hgs X (hv.below hX (Nat.le_refl _)) (hu.below hX (Nat.le_refl _)) (hz.on hX (Nat.le_refl _))).mono ?_
    rintro e W' ⟨out, v', rfl, h⟩
    obtain ⟨o, c, rfl, -, -⟩ := owns_form h.own
    refine ⟨o, c, ?_, hX.trans (h.b.mono hX.size)⟩
    rw [hA out h.nd h.sub h.g0 (fun x hx y hy hf => h.cl x (by rw [List.take_length]; exact hx) y hy hf)]
  have HA : Hid (AllOf (edB ns us false) gl ∧ AllOf (edB ns us true) gl) := ⟨hF, hT⟩
  obtain ⟨o, cap, ev, hc1, hc2⟩ := hv.slice
  obtain ⟨o2, cap2, eu, hd1, hd2⟩ := hu.slice
  obtain ⟨o3, cap3, ez, hf1, hf2⟩ := hz.slice
  obtain ⟨n, hn⟩ : ∃ n, ns.length = n := ⟨_, rfl⟩
  obtain ⟨m, hm⟩ : ∃ m, us.length = m := ⟨_, rfl⟩
  obtain ⟨p, hp⟩ : ∃ p, gl.length = p := ⟨_, rfl⟩
  rw [hn] at ev
  rw [hm] at eu
  rw [hp] at ez HC
  subst ev eu ez
  have hpi : (p : Int) ≤ 20000 := by omega
  clear hv hu hz hc1 hc2 hd1 hd2 hf1 hf2 hn hm hp hnl hlu ht hg hgl hgs hF hT
  go_enter Try.func18, Try.ntmps18
  go_wp2_with (go_at_call 30; fail)
  refine (HC.out false w (Below.refl _ _) HA.out.1).mono ?_
  rintro e w1 ⟨oa, ca, rfl, hb1⟩
  have Hb1 : Hid (Below w.heap.size w w1) := hb1
  clear hb1
  go_wp2_with (go_at_call 30; fail)
  refine (HC.out true w1 Hb1.out HA.out.2).mono ?_
  rintro e w2 ⟨ob, cb, rfl, hb2⟩
  have Hb2 : Hid (Below w.heap.size w w2) := hb2
  clear hb2 Hb1
  go_wp2
  go_ret
  exact ⟨rfl, Hb2.out⟩
/-- What is known of groups. -/
structure SnOK (ns : List (List UInt8)) (us : List (List (List UInt8))) (ll : List (List Nat)) (P : Nat → Nat) : Prop where
  len : ll.length ≤ ns.length
  sum : (ll.map List.length).sum = ns.length
  plc : ∀ x, x < ns.length → ∃ h : P x < ll.length, x ∈ ll[P x] ∧ ∀ j (h : j < ll.length), j < P x → x ∉ ll[j]
  ord : ∀ x y, x < ns.length → y < ns.length → y ∈ adjF ns us x → P y ≤ P x
  whl : ∀ l ∈ ll, l ≠ [] ∧ l.length ≤ ns.length ∧ (∀ x ∈ l, x < ns.length) ∧ AllOf (edB ns us false) l ∧ AllOf (edB ns us true) l
theorem snOK_of {ns : List (List UInt8)} {us : List (List (List UInt8))} {low : Nat → Nat} {grp : Nat → List Nat} {S : List Nat} (hn : ns.Nodup) (hl : ns.length = us.length) (hP : Parted ns.length (adjF ns us) low grp) (hO : Ordered ns.length (adjF ns us) low S) : SnOK ns us (S.map grp) (pos low S) := by
  have hadj : ∀ x, x < ns.length → ∀ y ∈ adjF ns us x, y < ns.length := fun x _ y hy => adjF_lt ns us x y hy
  refine ⟨?_, ?_, fun x hx => ?_, fun x y hx hy h => pos_le hP hO hx hy h, fun l h => ?_⟩
  · rw [List.length_map]
    exact nodup_lt _ _ hO.nd (fun g hg => ((hO.all g).1 hg).1)
  · have := all_len hP hO
    rw [List.map_map]
    exact this
  · refine ⟨by rw [List.length_map]; exact pos_lt hP hO hx, ?_, fun j hj h => ?_⟩
    · rw [List.getElem_map, pos_at hP hO hx]
      exact pos_mem hP hO hx
    · rw [List.getElem_map]
      exact pos_before hP hO hx h (by simpa using hj)
  · obtain ⟨g, hg, rfl⟩ := List.mem_map.1 h
    have hgn := (hO.all g).1 hg
    have hgm : g ∈ grp g := (mem_grp hP hO hg).2 hgn
    have hnd : (grp g).Nodup := (hP.gr g hgn.1 hgn.2).1.imp (fun h => Nat.ne_of_lt h)
    have hlt : ∀ x ∈ grp g, x < ns.length := fun x hx => ((mem_grp hP hO hg).1 hx).1
    have hne : grp g ≠ [] := fun e => by rw [e] at hgm; cases hgm
    refine ⟨hne, nodup_lt _ _ hnd hlt, hlt, fun out h1 h2 h3 h4 => ?_, fun out h1 h2 h3 h4 => ?_⟩
    · obtain ⟨a, ha⟩ : ∃ a, (grp g).head? = some a := by
        cases e : grp g with
        | nil => exact absurd e hne
        | cons a t => exact ⟨a, rfl⟩
      have hag : a ∈ grp g := List.mem_of_mem_head? ha
      exact same_len h1 hnd h2 (whole_fwd hP hO hadj hg hag (h3 a ha) h2 (fun x hx y hy hxy => h4 x hx y hy ((edB_adj hn hl (hlt x (h2 x hx)) (hlt y hy)).1.2 hxy)))
    · obtain ⟨a, ha⟩ : ∃ a, (grp g).head? = some a := by
        cases e : grp g with
        | nil => exact absurd e hne
        | cons a t => exact ⟨a, rfl⟩
      have hag : a ∈ grp g := List.mem_of_mem_head? ha
      exact same_len h1 hnd h2 (whole_back hP hO hadj hg hag (h3 a ha) h2 (fun x hx y hy hxy => h4 x hx y hy ((edB_adj hn hl (hlt x (h2 x hx)) (hlt y hy)).2.2 hxy)))
end Go.Proofs.Ytkkpkcigflikkaa
