/-
  Trees that lie outside some blocks, and rows of such trees.
  The kit's Node: a copy of a tree, in blocks of its own.
  slices.Grow of a row of trees.
  appendBare: trees without places and parentheses, put behind others.
-/
import Derived.Test.YtndpebkiiemfpaaGreatDoorHLx
import Derived.Maps.AppendAt
import Derived.Deep.LoopGhost
import Derived.Laws.MakeOwn
import Derived.Shelf.Spec.SlicesGrow
namespace Go.Proofs.YtndpebkiiemfpaaGreatDoor
open Go.RowKit Go.Shelf Go.Maps
set_option linter.unusedVariables false

/-- A world in which some blocks are blank. -/
def mkP (S : Nat → Bool) (W : World) : World := { W with heap := W.heap.mapIdx (fun i o => if S i = true then .cells #[] 3 (0, 0) else o) }
theorem mkP_heap {S : Nat → Bool} {W : World} {k : Nat} (h : S k = false) : (mkP S W).heap[k]? = W.heap[k]? := by
  simp only [mkP, Array.getElem?_mapIdx]
  cases W.heap[k]? with
  | none => rfl
  | some o => simp [h]
theorem mkP_cell {S : Nat → Bool} {W : World} {g off : Nat} (h : S g = false) : (mkP S W).cell? ⟨g, off, none⟩ = W.cell? ⟨g, off, none⟩ := by
  simp only [World.cell?]; rw [mkP_heap h]
theorem mkP_no {S : Nat → Bool} {W : World} {g off : Nat} (h : S g = true) (v : Value) : (mkP S W).cell? ⟨g, off, none⟩ ≠ some v := by
  simp only [World.cell?, mkP, Array.getElem?_mapIdx]
  cases W.heap[g]? with
  | none => simp
  | some o => simp [h]
/-- Each cell of the one is the other's. -/
def CSb (W W' : World) : Prop := ∀ (g off : Nat) (v : Value), W.cell? ⟨g, off, none⟩ = some v → W'.cell? ⟨g, off, none⟩ = some v
mutual
theorem NdAt.csb {W W' : World} {B : Nat} (hs : CSb W W') : ∀ (n : Nd) (g off : Nat), NdAt W B n g off → NdAt W' B n g off
  | .mk k nm nu kids ps, g, off, h => by
    simp only [NdAt] at h ⊢
    obtain ⟨o, cap, h0, h1, h2, h3, h4, hc, hc2, hwf, hk⟩ := h
    refine ⟨o, cap, hs _ _ _ h0, hs _ _ _ h1, hs _ _ _ h2, hs _ _ _ h3, hs _ _ _ h4, hc, hc2, hwf, ?_⟩
    rcases hk with hk | ⟨g', off', e, hg', hk⟩
    · exact .inl hk
    · exact .inr ⟨g', off', e, hg', KidsAt.csb hs kids g' off' hk⟩
theorem KidsAt.csb {W W' : World} {B : Nat} (hs : CSb W W') : ∀ (ns : List Nd) (g off : Nat), KidsAt W B ns g off → KidsAt W' B ns g off
  | [], _, _, _ => by simp only [KidsAt]
  | n :: ns, g, off, h => by
    simp only [KidsAt] at h ⊢
    exact ⟨NdAt.csb hs n g off h.1, KidsAt.csb hs ns g (off + 5) h.2⟩
end
theorem NdIn.csb {W W' : World} {B : Nat} {n : Nd} {o : Option Addr} {cap : Nat} (h : NdIn W B n o cap) (hs : CSb W W') : NdIn W' B n o cap := by
  refine ⟨?_, h.2⟩
  rcases h.1 with e | ⟨g, off, e, hg, hK⟩
  · exact .inl e
  · exact .inr ⟨g, off, e, hg, KidsAt.csb hs _ g off hK⟩
/-- A tree that lies outside the blocks of S. -/
def Av (S : Nat → Bool) (W : World) (n : Nd) (o : Option Addr) (cap : Nat) : Prop := NdIn (mkP S W) W.heap.size n o cap
theorem Av.nin {S : Nat → Bool} {W : World} {n : Nd} {o : Option Addr} {cap : Nat} (h : Av S W n o cap) : NdIn W W.heap.size n o cap := NdIn.csb h (fun g off v e => by
  cases hg : S g
  · rw [mkP_cell hg] at e; exact e
  · exact absurd e (mkP_no hg v))
theorem Av.move {S S' : Nat → Bool} {W W' : World} {n : Nd} {o : Option Addr} {cap : Nat} (h : Av S W n o cap) (hk : ∀ k, k < W.heap.size → S k = false → W'.heap[k]? = W.heap[k]? ∧ S' k = false) (hs : W.heap.size ≤ W'.heap.size) : Av S' W' n o cap := by
  refine NdIn.mono (NdIn.csb h (fun g off v e => ?_)) hs
  cases hg : S g
  · by_cases hlt : g < W.heap.size
    · obtain ⟨h1, h2⟩ := hk g hlt hg
      rw [mkP_cell hg] at e
      rw [mkP_cell h2]
      simp only [World.cell?] at e ⊢
      rw [h1]; exact e
    · rw [mkP_cell hg] at e
      simp only [World.cell?] at e
      rw [Array.getElem?_eq_none (by omega)] at e
      cases e
  · exact absurd e (mkP_no hg v)
theorem Av.leaf {S : Nat → Bool} {W : World} {n : Nd} {o : Option Addr} {cap : Nat} (hk : n.kids = []) (h : NdIn W W.heap.size n o cap) : Av S W n o cap := ⟨.inl hk, h.2⟩
/-- From lo on. -/
def lowS (lo : Nat) : Nat → Bool := fun i => decide (i < lo)
/-- From lo on, but the row's own block. -/
def rowS (lo : Nat) (v : Value) : Nat → Bool := fun i => decide (i < lo) || decide (v.ownBlock = some i)
theorem lowS_no {lo k : Nat} : lowS lo k = false ↔ lo ≤ k := by simp [lowS]
theorem rowS_no {lo k : Nat} {v : Value} : rowS lo v k = false ↔ lo ≤ k ∧ v.ownBlock ≠ some k := by simp [rowS]
abbrev It := Nd × Option Addr × Nat
def itC (x : It) : List Value := ndL x.1 x.2.1 x.2.2
theorem itC_len : ∀ l : List It, (l.flatMap itC).length = l.length * 5
  | [] => rfl
  | x :: l => by rw [List.flatMap_cons, List.length_append, itC_len l, List.length_cons]; show 5 + _ = _; omega
theorem itC_one : ∀ l : List It, ∀ u ∈ l.flatMap itC, u.oneCell' = true := by
  intro l u hu
  obtain ⟨x, _, hx⟩ := List.mem_flatMap.1 hu
  simp only [itC, ndL, List.mem_cons, List.not_mem_nil, or_false] at hx
  rcases hx with rfl | rfl | rfl | rfl | rfl <;> rfl
theorem itC_get : ∀ (l : List It) (k : Nat) (h : k < l.length) (q : Nat), q < 5 → (l.flatMap itC)[k * 5 + q]? = (itC l[k])[q]?
  | x :: l, 0, h, q, hq => by
    rw [List.flatMap_cons, List.getElem?_append_left (by show _ < 5; omega)]; simp
  | x :: l, k + 1, h, q, hq => by
    rw [List.flatMap_cons, List.getElem?_append_right (by show 5 ≤ _; omega)]
    have e : (k + 1) * 5 + q - (itC x).length = k * 5 + q := by show (k + 1) * 5 + q - 5 = _; omega
    rw [e, itC_get l k (by simpa using h) q hq]; simp
/-- A row of trees of one's own. -/
structure RwN (lo : Nat) (W : World) (v : Value) (its : List It) : Prop where
  row : W.ownsRow lo 24 5 v its.length (its.flatMap itC)
  av : ∀ x ∈ its, Av (rowS lo v) W x.1 x.2.1 x.2.2
theorem rwNil (lo : Nat) (W : World) : RwN lo W (.slice none 0 0) [] := ⟨W.ownsRow_nil lo 24 5, fun x h => by cases h⟩
theorem RwN.keep {lo : Nat} {W W' : World} {v : Value} {its : List It} (h : RwN lo W v its) (hk : ∀ k, k < W.heap.size → lo ≤ k → W'.heap[k]? = W.heap[k]?) (hs : W.heap.size ≤ W'.heap.size) : RwN lo W' v its := by
  refine ⟨?_, fun x hx => (h.av x hx).move (fun k hl hS => ⟨hk k hl (rowS_no.1 hS).1, hS⟩) hs⟩
  obtain ⟨h1, h2 | ⟨g, cap, cur, e, hg, hb, h3⟩⟩ := h.row
  · exact ⟨h1, .inl h2⟩
  · refine ⟨h1, .inr ⟨g, cap, cur, e, hg, ?_, h3⟩⟩
    rw [hk g (by have := (Array.getElem?_eq_some_iff.1 hb).1; exact this) hg]; exact hb
theorem RwN.below {lo : Nat} {W W' : World} {v : Value} {its : List It} (h : RwN lo W v its) (hb : Below W.heap.size W W') : RwN lo W' v its := h.keep (fun k hk _ => hb.block k hk) hb.size
/-- The row as a slice of trees. -/
theorem RwN.form {lo : Nat} {W : World} {v : Value} {its : List It} (h : RwN lo W v its) : ∃ o cap, v = .slice o its.length cap ∧ its.length ≤ cap ∧ cap ≤ 9223372036854775807 := by
  obtain ⟨h1, ⟨rfl, h2⟩ | ⟨g, cap, cur, e, hg, hb, h3, h4, _⟩⟩ := h.row
  · exact ⟨none, 0, by rw [h2], by omega, by omega⟩
  · have hm : maxLen ≤ 9223372036854775807 := by decide
    exact ⟨_, cap, e, h3, Nat.le_trans h4 hm⟩
theorem RwN.kin {lo : Nat} {W : World} {o : Option Addr} {cap : Nat} {its : List It} (h : RwN lo W (.slice o its.length cap) its) : KIn W W.heap.size o (its.map (·.1)) := by
  have hr := h.row
  obtain ⟨h1, ⟨e, h2⟩ | ⟨g, cap2, cur, e, hg, hb, h3, h4, h5, h6⟩⟩ := hr
  · left
    have := List.length_eq_zero_iff.1 h2
    rw [this]; rfl
  · right
    injection e with e1 e2 e3
    subst e1
    have hlt : g < W.heap.size := (Array.getElem?_eq_some_iff.1 hb).1
    refine ⟨g, 0, rfl, hlt, kidsAt_of _ _ (fun k hk => ?_)⟩
    have hk' : k < its.length := by simpa using hk
    rw [List.getElem_map]
    refine ndAt_cells (h.av its[k] (List.getElem_mem hk')).nin (fun j u hu => ?_)
    have hj : j < 5 := (List.getElem?_eq_some_iff.1 hu).1
    have hx : (its.flatMap itC)[k * 5 + j]? = some u := by rw [itC_get its k hk' j hj]; exact hu
    have hc := h.row.cells (g := g) rfl (k * 5 + j) u hx
    rw [Addr.add_lit, Nat.zero_add] at hc
    rw [Nat.zero_add]
    exact hc
/-- A tree with the row as its kids. -/
theorem RwN.av_nd {lo : Nat} {W : World} {o : Option Addr} {cap : Nat} {its : List It} (h : RwN lo W (.slice o its.length cap) its) (k : Int) (nm : List UInt8) (nu ps : Int) (hwf : (-9223372036854775808 ≤ k ∧ k ≤ 9223372036854775807) ∧ nm.length ≤ 9223372036854775807 ∧ (-9223372036854775808 ≤ nu ∧ nu ≤ 9223372036854775807)) : Av (lowS lo) W (.mk k nm nu (its.map (·.1)) ps) o cap := by
  obtain ⟨o2, cap2, e, hl, hc⟩ := h.form
  injection e with e1 e2 e3
  subst e3
  refine ⟨?_, by simpa [Nd.kids] using hl, hc, hwf⟩
  show KIn _ _ _ (its.map (·.1))
  have hr := h.row
  obtain ⟨h1, ⟨e, h2⟩ | ⟨g, cap2, cur, e, hg, hb, h3, h4, h5, h6⟩⟩ := hr
  · left
    have := List.length_eq_zero_iff.1 h2
    rw [this]; rfl
  · right
    injection e with e1 e2 e3
    subst e1
    have hlt : g < W.heap.size := (Array.getElem?_eq_some_iff.1 hb).1
    refine ⟨g, 0, rfl, hlt, kidsAt_of _ _ (fun k hk => ?_)⟩
    have hk' : k < its.length := by simpa using hk
    rw [List.getElem_map]
    have hav : Av (lowS lo) W its[k].1 its[k].2.1 its[k].2.2 := (h.av its[k] (List.getElem_mem hk')).move (fun j hj hS => ⟨rfl, lowS_no.2 (rowS_no.1 hS).1⟩) (Nat.le_refl _)
    refine ndAt_cells hav (fun j u hu => ?_)
    have hj : j < 5 := (List.getElem?_eq_some_iff.1 hu).1
    have hx : (its.flatMap itC)[k * 5 + j]? = some u := by rw [itC_get its k hk' j hj]; exact hu
    have hc := h.row.cells (g := g) rfl (k * 5 + j) u hx
    rw [Addr.add_lit, Nat.zero_add] at hc
    rw [Nat.zero_add, mkP_cell (lowS_no.2 hg)]
    exact hc
end Go.Proofs.YtndpebkiiemfpaaGreatDoor

namespace Go.Proofs.YtndpebkiiemfpaaGreatDoor
open Go.RowKit Go.Shelf Go.Maps
set_option linter.unusedVariables false

mutual
/-- How many nodes a tree has. -/
def szA : Nd → Nat
  | .mk _ _ _ l _ => 1 + szL l
def szL : List Nd → Nat
  | [] => 0
  | x :: l => szA x + szL l
end
theorem szA_eq (n : Nd) : szA n = 1 + szL n.kids := by cases n; simp only [szA, Nd.kids]
theorem sz_mem : ∀ (l : List Nd) (x : Nd), x ∈ l → szA x ≤ szL l
  | y :: l, x, h => by
    simp only [szL]
    rcases List.mem_cons.1 h with rfl | h
    · omega
    · have := sz_mem l x h; omega
theorem sz_len : ∀ l : List Nd, l.length ≤ szL l
  | [] => Nat.le_refl _
  | x :: l => by
    have := sz_len l
    have e := szA_eq x
    simp only [szL, List.length_cons]; omega
theorem nd_eta (n : Nd) : Nd.mk n.kind n.name n.num n.kids n.pos = n := by cases n; rfl
/-- A row with one tree more. -/
theorem RwN.push {lo lo' : Nat} {W W2 : World} {v v' : Value} {its : List It} {x : It} (h : RwN lo W v its) (hx : Av (lowS lo') W x.1 x.2.1 x.2.2) (hlo : lo ≤ lo') (hb : ∀ k, v.ownBlock = some k → k < lo') (hown : W2.ownsRow lo 24 5 v' (its.length + 1) (its.flatMap itC ++ itC x)) (hg : W.grownBy W2 v.ownBlock) (hat : v'.ownBlock = v.ownBlock ∨ v'.ownBlock = some W.heap.size) : RwN lo W2 v' (its ++ [x]) := by
  refine ⟨by rw [List.length_append, List.flatMap_append]; simpa using hown, fun y hy => ?_⟩
  rcases List.mem_append.1 hy with hy | hy
  · refine (h.av y hy).move (fun k hk hS => ?_) hg.size
    obtain ⟨h1, h2⟩ := rowS_no.1 hS
    refine ⟨hg.block k hk (fun e => h2 e.symm), rowS_no.2 ⟨h1, fun e => ?_⟩⟩
    rcases hat with e2 | e2
    · exact h2 (e2 ▸ e)
    · rw [e2] at e; injection e with e; omega
  · obtain rfl : y = x := by simpa using hy
    refine hx.move (fun k hk hS => ?_) hg.size
    have h1 := lowS_no.1 hS
    have h2 : v.ownBlock ≠ some k := fun e => by have := hb k e; omega
    refine ⟨hg.block k hk (fun e => h2 e.symm), rowS_no.2 ⟨by omega, fun e => ?_⟩⟩
    rcases hat with e2 | e2
    · exact h2 (e2 ▸ e)
    · rw [e2] at e; injection e with e; omega
theorem infoNode : (Tryz.prog.info? 24).map (fun i => (i.zero, i.size, i.bytes)) = some (some (.agg #[.int .i64 0, .string ⟨#[]⟩, .int .i64 0, .slice none 0 0, .int .i64 0]), 5, 64) := by kernel_rfl
theorem Blk.sets5N {W : World} {E : Nat} {v0 v1 v2 v3 v4 : Value} {T : TypeId} (h : Blk W E #[v0, v1, v2, v3, v4] T) (a0 a1 a2 a3 a4 : Value) : Blk (((((W.setCell ⟨E, 0, none⟩ a0).setCell ⟨E, 1, none⟩ a1).setCell ⟨E, 2, none⟩ a2).setCell ⟨E, 3, none⟩ a3).setCell ⟨E, 4, none⟩ a4) E #[a0, a1, a2, a3, a4] T := by
  have h0 : Blk (W.setCell ⟨E, 0, none⟩ a0) E #[a0, v1, v2, v3, v4] T := h.set 0 a0
  have h1 : Blk ((W.setCell ⟨E, 0, none⟩ a0).setCell ⟨E, 1, none⟩ a1) E #[a0, a1, v2, v3, v4] T := h0.set 1 a1
  have h2' : Blk (((W.setCell ⟨E, 0, none⟩ a0).setCell ⟨E, 1, none⟩ a1).setCell ⟨E, 2, none⟩ a2) E #[a0, a1, a2, v3, v4] T := h1.set 2 a2
  have h3 : Blk ((((W.setCell ⟨E, 0, none⟩ a0).setCell ⟨E, 1, none⟩ a1).setCell ⟨E, 2, none⟩ a2).setCell ⟨E, 3, none⟩ a3) E #[a0, a1, a2, a3, v4] T := h2'.set 3 a3
  exact h3.set 4 a4
set_option maxRecDepth 100000 in
set_option maxHeartbeats 4000000 in
theorem copy_c : ∀ (d : Nat) (n : Nd) (o : Option Addr) (cap : Nat) (w : World), deepLe d n → szA n ≤ 1000000 → NdIn w w.heap.size n o cap →
    Calls Tryz.prog 12 #[.agg #[.int .i64 n.kind, .string (bs n.name), .int .i64 n.num, .slice o n.kids.length cap, .int .i64 n.pos]] w fun e W' => ∃ o' cap', e = .returned (.agg #[.int .i64 n.kind, .string (bs n.name), .int .i64 n.num, .slice o' n.kids.length cap', .int .i64 n.pos]) ∧ Av (lowS w.heap.size) W' n o' cap' ∧ Below w.heap.size w W'
  | 0, n, o, cap, w, hd, hz, hn => hd.elim
  | d + 1, n, o, cap, w, hd, hz, hn => by
    obtain ⟨i0, hi0, hzz⟩ := Option.map_eq_some_iff.1 infoNode
    simp only [Prod.mk.injEq] at hzz
    obtain ⟨hz0, hz1, hz2⟩ := hzz
    have hlen : n.kids.length ≤ 1000000 := by have h1 := szA_eq n; have h2 := sz_len n.kids; omega
    obtain ⟨m, hm⟩ : ∃ m, n.kids.length = m := ⟨_, rfl⟩
    have hmi : (m : Int) ≤ 1000000 := by omega
    have hmk : ∀ W : World, (Instr.makeSlice 22 (.int .i64 0) (.int .i64 ((m : Int) + 1))).run Tryz.prog W = .ok (.slice (some ⟨W.heap.size, 0, none⟩) 0 (m + 1)) (W.alloc (.cells (madeCells #[.int .i64 0, .string ⟨#[]⟩, .int .i64 0, .slice none 0 0, .int .i64 0] ((m + 1) * 5)) 24)) := by
      intro W
      have hr := run_make (P := Tryz.prog) W 22 24 i0 _ Tryz.underlying22 hi0 hz0 .i64 .i64 0 ((m : Int) + 1) (by omega) (by omega) (by rw [hz2]; omega) (by omega)
      rw [hz1, show ((m : Int) + 1).toNat = m + 1 by omega] at hr
      exact hr
    have HI : Hid (Tryz.prog.info? 24 = some i0 ∧ i0.zero = some (.agg #[.int .i64 0, .string ⟨#[]⟩, .int .i64 0, .slice none 0 0, .int .i64 0]) ∧ i0.size = 5 ∧ i0.bytes = 64) := ⟨hi0, hz0, hz1, hz2⟩
    have HIH : Hid (∀ k (hk : k < n.kids.length) (o : Option Addr) (cap : Nat) (w : World), NdIn w w.heap.size n.kids[k] o cap → Calls Tryz.prog 12 #[.agg #[.int .i64 n.kids[k].kind, .string (bs n.kids[k].name), .int .i64 n.kids[k].num, .slice o n.kids[k].kids.length cap, .int .i64 n.kids[k].pos]] w fun e W' => ∃ o' cap', e = .returned (.agg #[.int .i64 n.kids[k].kind, .string (bs n.kids[k].name), .int .i64 n.kids[k].num, .slice o' n.kids[k].kids.length cap', .int .i64 n.kids[k].pos]) ∧ Av (lowS w.heap.size) W' n.kids[k] o' cap' ∧ Below w.heap.size w W') := fun k hk o cap w h => copy_c d n.kids[k] o cap w (hd _ (List.getElem_mem hk)) (by have h1 := szA_eq n; have h2 := sz_mem n.kids _ (List.getElem_mem hk); omega) h
    have HN : Hid (NdIn w w.heap.size n o cap) := hn
    have hcap : n.kids.length ≤ cap ∧ cap ≤ 9223372036854775807 := ⟨hn.2.1, hn.2.2.1⟩
    obtain ⟨V, hV⟩ : ∃ V, (((w.alloc (.cells #[.int .i64 n.kind, .string (bs n.name), .int .i64 n.num, .slice o m cap, .int .i64 n.pos] 24)).alloc (.cells #[.int .i64 0, .string ⟨#[]⟩, .int .i64 0, .slice none 0 0, .int .i64 0] 24)).alloc (.cells (madeCells #[.int .i64 0, .string ⟨#[]⟩, .int .i64 0, .slice none 0 0, .int .i64 0] ((m + 1) * 5)) 24)) = V := ⟨_, rfl⟩
    have HV : Hid ((((w.alloc (.cells #[.int .i64 n.kind, .string (bs n.name), .int .i64 n.num, .slice o m cap, .int .i64 n.pos] 24)).alloc (.cells #[.int .i64 0, .string ⟨#[]⟩, .int .i64 0, .slice none 0 0, .int .i64 0] 24)).alloc (.cells (madeCells #[.int .i64 0, .string ⟨#[]⟩, .int .i64 0, .slice none 0 0, .int .i64 0] ((m + 1) * 5)) 24)) = V) := hV
    have HB0 : Hid (Below w.heap.size w V ∧ Blk V w.heap.size #[.int .i64 n.kind, .string (bs n.name), .int .i64 n.num, .slice o m cap, .int .i64 n.pos] 24 ∧ Blk V (w.heap.size + 1) #[.int .i64 0, .string ⟨#[]⟩, .int .i64 0, .slice none 0 0, .int .i64 0] 24 ∧ RwN (w.heap.size + 2) V (.slice (some ⟨w.heap.size + 1 + 1, 0, none⟩) 0 (m + 1)) [] ∧ w.heap.size + 2 ≤ V.heap.size) := by
      show _ ∧ _
      rw [← hV]
      refine ⟨(((Below.refl _ w).alloc (Nat.le_refl _) _).alloc (by simp) _).alloc (by simp; omega) _, ((Blk.new w _ _).alloc _).alloc _, (Blk.new2 w _ _ _).alloc _, ⟨?_, fun x hx => by cases hx⟩, by simp⟩
      have := World.ownsRow_made (e := 24) (size := 5) (base := w.heap.size + 2) ((w.alloc (.cells #[.int .i64 n.kind, .string (bs n.name), .int .i64 n.num, .slice o m cap, .int .i64 n.pos] 24)).alloc (.cells #[.int .i64 0, .string ⟨#[]⟩, .int .i64 0, .slice none 0 0, .int .i64 0] 24)) (madeCells #[.int .i64 0, .string ⟨#[]⟩, .int .i64 0, .slice none 0 0, .int .i64 0] ((m + 1) * 5)) (m + 1) (by simp) (by unfold maxLen; omega) (by rw [size_madeCells])
      simpa using this
    have HM : Hid (n.kids.length = m) := hm
    have HC : Hid (n.kids.length ≤ cap ∧ cap ≤ 9223372036854775807) := hcap
    rw [hm] at hcap ⊢
    clear hd hz hn hi0 hz0 hz1 hz2 hV hm hlen
    go_enter Tryz.func12, Tryz.ntmps12
    go_wp2
    first | rw [HV.out] | skip
    go_loopg [3, 4] m (fun g v3 v4 wr => ∃ (its : List It) (k : Nat) (o3 : Option Addr) (cap3 : Nat), v3 = .slice o3 k cap3 ∧ v4 = .int .i64 k ∧ k ≤ m ∧ m - k ≤ g ∧ Hid (its.length = k ∧ its.map (·.1) = n.kids.take k ∧ RwN (w.heap.size + 2) wr (.slice o3 k cap3) its ∧ Below w.heap.size w wr ∧ Blk wr w.heap.size #[.int .i64 n.kind, .string (bs n.name), .int .i64 n.num, .slice o m cap, .int .i64 n.pos] 24 ∧ Blk wr (w.heap.size + 1) #[.int .i64 0, .string ⟨#[]⟩, .int .i64 0, .slice none 0 0, .int .i64 0] 24 ∧ w.heap.size + 2 ≤ wr.heap.size))
    case atStart => exact ⟨[], 0, _, _, rfl, rfl, Nat.zero_le _, Nat.le_refl _, ⟨rfl, by simp, HB0.out.2.2.2.1, HB0.out.1, HB0.out.2.1, HB0.out.2.2.1, HB0.out.2.2.2.2⟩⟩
    case round =>
      obtain ⟨its, k, o3, cap3, rfl, rfl, hk, hg, HI2⟩ := hrel
      have hBk := HI2.out.2.2.2.2.1
      have b3 := hBk.cell 3 _ rfl
      have hlt := hBk.lt
      have hbel := HI2.out.2.2.2.1
      by_cases hkl : k < m
      · have hkL : k < n.kids.length := by rw [HM.out]; exact hkl
        have hkz : (k : Int) < (m : Int) := by omega
        obtain ⟨g1, off1, ho, hg1, hKA⟩ := HN.out.1.at k hkL
        have hnk := KidsAt.get n.kids g1 off1 k hkL hKA
        obtain ⟨o2, cap2, c0, c1, c2, c3, c4, hni⟩ := ndIn_of hnk
        have e0 := (hbel.cell (p := ⟨g1, off1 + k * 5, none⟩) hg1).trans c0
        have e1 := (hbel.cell (p := ⟨g1, off1 + k * 5 + 1, none⟩) hg1).trans c1
        have e2 := (hbel.cell (p := ⟨g1, off1 + k * 5 + 2, none⟩) hg1).trans c2
        have e3 := (hbel.cell (p := ⟨g1, off1 + k * 5 + 3, none⟩) hg1).trans c3
        have e4 := (hbel.cell (p := ⟨g1, off1 + k * 5 + 4, none⟩) hg1).trans c4
        have HC2 : Hid (Calls Tryz.prog 12 #[.agg #[.int .i64 n.kids[k].kind, .string (bs n.kids[k].name), .int .i64 n.kids[k].num, .slice o2 n.kids[k].kids.length cap2, .int .i64 n.kids[k].pos]] wr fun e W' => ∃ o' cap', e = .returned (.agg #[.int .i64 n.kids[k].kind, .string (bs n.kids[k].name), .int .i64 n.kids[k].num, .slice o' n.kids[k].kids.length cap', .int .i64 n.kids[k].pos]) ∧ Av (lowS wr.heap.size) W' n.kids[k] o' cap' ∧ Below wr.heap.size wr W') := HIH.out k hkL o2 cap2 wr ((hni.below hbel).mono hbel.size)
        have HT : Hid (n.kids.take (k + 1) = n.kids.take k ++ [n.kids[k]]) := by show _ = _; rw [List.take_succ_eq_append_getElem hkL]
        generalize n.kids[k] = kd at e0 e1 e2 e3 e4 HC2 HT
        subst ho
        clear c0 c1 c2 c3 c4 hni hnk hKA hBk hbel HIH HB0 HV hmk
        go_wp2_with (go_at_call 12; fail)
        refine HC2.out.mono ?_
        rintro e w2 ⟨o', cap', rfl, hav, hb2⟩
        obtain ⟨U, hU⟩ : ∃ U, w2.alloc (.cells #[.int .i64 kd.kind, .string (bs kd.name), .int .i64 kd.num, .slice o' kd.kids.length cap', .int .i64 kd.pos] 24) = U := ⟨_, rfl⟩
        have HU : Hid (w2.alloc (.cells #[.int .i64 kd.kind, .string (bs kd.name), .int .i64 kd.num, .slice o' kd.kids.length cap', .int .i64 kd.pos] 24) = U) := hU
        have hbU : Below w2.heap.size w2 U := by rw [← hU]; exact (Below.refl _ _).alloc (Nat.le_refl _) _
        have hbV : Below wr.heap.size wr U := hb2.trans (hbU.mono hb2.size)
        have HR : Hid (RwN (w.heap.size + 2) U (.slice o3 k cap3) its) := HI2.out.2.2.1.below hbV
        have HAv : Hid (Av (lowS wr.heap.size) U kd o' cap') := hav.move (fun j hj hS => ⟨hbU.block j hj, hS⟩) hbU.size
        have HNw : Hid (∀ j u, (itC (kd, o', cap'))[j]? = some u → U.cell? ((⟨w2.heap.size, 0, none⟩ : Addr).add j) = some u) := by
          intro j u hu
          rw [Addr.add_lit, Nat.zero_add, ← hU]
          exact (Blk.new w2 _ _).cell j u (by rw [← hu]; simp [itC, ndL])
        have HOne : Hid (∀ u ∈ itC (kd, o', cap'), u.oneCell' = true) := by
          show ∀ u ∈ _, _
          have := itC_one [(kd, o', cap')]
          simpa using this
        have HUb : Hid (Below wr.heap.size wr U) := hbV
        have HLen : Hid (its.length = k) := HI2.out.1
        clear hU hbU hbV hav hb2 HC2 e0 e1 e2 e3 e4 b3 hlt
        go_wp2_with (at_builtin; rw [HU.out]; refine wpList_append_own_at _ rfl _ _ 22 rfl (w.heap.size + 2) 24 i0 _ 5 64 Tryz.underlying22 HI.out.1 HI.out.2.1 HI.out.2.2.1 HI.out.2.2.2 rfl (by decide) (.slice o3 k cap3) k (its.flatMap itC) rfl (by have := HR.out.row; rw [HLen.out] at this; exact this) ⟨w2.heap.size, 0, none⟩ 1 1 (itC (kd, o', cap')) rfl rfl HNw.out HOne.out (by unfold maxLen; omega) (by omega) (Nat.le_trans HI2.out.2.2.2.2.2.2 HUb.out.size) ?_; intro v' w3 hown hgrow hnil hat; have HN3 : Hid (RwN (w.heap.size + 2) w3 v' (its ++ [(kd, o', cap')])) := HR.out.push HAv.out HI2.out.2.2.2.2.2.2 (fun j hj => (HI2.out.2.2.1.row.lt j hj).2) (by rw [HLen.out]; exact hown) hgrow hat; have HG3 : Hid (U.grownBy w3 (Value.slice o3 k cap3).ownBlock) := hgrow; clear hown hgrow hnil hat; obtain ⟨o4, cap4, hv4, _, _⟩ := HN3.out.form; rw [show (its ++ [(kd, o', cap')]).length = k + 1 by rw [List.length_append, HLen.out]; rfl] at hv4; subst hv4)
        go_roundg (m - (k + 1))
        case measure => omega
        case rel =>
          have hblk : ∀ j, j < w.heap.size + 2 → w3.heap[j]? = wr.heap[j]? := fun j hj => by
            rw [HG3.out.block j (by have := HUb.out.size; have := HI2.out.2.2.2.2.2.2; omega) (fun e => by have := (HI2.out.2.2.1.row.lt j e.symm).1; omega), HUb.out.block j (by have := HI2.out.2.2.2.2.2.2; omega)]
          refine ⟨its ++ [(kd, o', cap')], k + 1, o4, cap4, rfl, by go_num, by omega, Nat.le_refl _, ⟨by rw [List.length_append, HLen.out]; rfl, by rw [List.map_append, HI2.out.2.1, HT.out]; rfl, HN3.out, ?_, ?_, ?_, ?_⟩⟩
          · exact ⟨HG3.out.os.trans (HUb.out.os.trans HI2.out.2.2.2.1.os), HG3.out.tape.trans (HUb.out.tape.trans HI2.out.2.2.2.1.tape), HG3.out.output.trans (HUb.out.output.trans HI2.out.2.2.2.1.output), Nat.le_trans HI2.out.2.2.2.1.size (Nat.le_trans HUb.out.size HG3.out.size), fun j hj => (hblk j (by omega)).trans (HI2.out.2.2.2.1.block j hj)⟩
          · unfold Blk; rw [hblk _ (by omega)]; exact HI2.out.2.2.2.2.1
          · unfold Blk; rw [hblk _ (by omega)]; exact HI2.out.2.2.2.2.2.1
          · exact Nat.le_trans HI2.out.2.2.2.2.2.2 (Nat.le_trans HUb.out.size HG3.out.size)
      · obtain rfl : k = m := by omega
        have hkz : ¬ (k : Int) < (k : Int) := by omega
        have hrb := HI2.out.2.2.2.2.2.1
        have b0 := hBk.cell 0 _ rfl
        have b1 := hBk.cell 1 _ rfl
        have b2 := hBk.cell 2 _ rfl
        have b4 := hBk.cell 4 _ rfl
        have f3 := hBk.frozen 3
        have r0 := hrb.cell 0 _ rfl
        have r1 := hrb.cell 1 _ rfl
        have r2 := hrb.cell 2 _ rfl
        have r3 := hrb.cell 3 _ rfl
        have r4 := hrb.cell 4 _ rfl
        have s0 := hrb.frozen 0
        have s1 := hrb.frozen 1
        have s2 := hrb.frozen 2
        have s3 := hrb.frozen 3
        have s4 := hrb.frozen 4
        have hrl := hrb.lt
        have HRb : Hid (Blk (wr.setCell ⟨w.heap.size, 3, none⟩ (.slice o3 k cap3)) (w.heap.size + 1) #[.int .i64 0, .string ⟨#[]⟩, .int .i64 0, .slice none 0 0, .int .i64 0] 24) := by
          unfold Blk; show (wr.setCell _ _).heap[_]? = _; rw [heap_setCell_other _ _ _ _ (by show _ ≠ w.heap.size; omega)]; exact hrb
        clear hrb hBk hbel HIH HB0 HV hmk
        go_wp2
        have hK := HRb.out.sets5N (.int .i64 n.kind) (.string (bs n.name)) (.int .i64 n.num) (.slice o3 k cap3) (.int .i64 n.pos)
        have hblk : ∀ j, j < wr.heap.size → w.heap.size + 2 ≤ j → (((((((wr.setCell ⟨w.heap.size, 3, none⟩ (.slice o3 k cap3)).setCell ⟨w.heap.size + 1, 0, none⟩ (.int .i64 n.kind)).setCell ⟨w.heap.size + 1, 1, none⟩ (.string (bs n.name))).setCell ⟨w.heap.size + 1, 2, none⟩ (.int .i64 n.num)).setCell ⟨w.heap.size + 1, 3, none⟩ (.slice o3 k cap3)).setCell ⟨w.heap.size + 1, 4, none⟩ (.int .i64 n.pos))).heap[j]? = wr.heap[j]? := fun j hj hl => by
          rw [heap_setCell_other _ _ _ _ (by show j ≠ w.heap.size + 1; omega), heap_setCell_other _ _ _ _ (by show j ≠ w.heap.size + 1; omega), heap_setCell_other _ _ _ _ (by show j ≠ w.heap.size + 1; omega), heap_setCell_other _ _ _ _ (by show j ≠ w.heap.size + 1; omega), heap_setCell_other _ _ _ _ (by show j ≠ w.heap.size + 1; omega), heap_setCell_other _ _ _ _ (by show j ≠ w.heap.size; omega)]
        have hBW : Below w.heap.size w (((((((wr.setCell ⟨w.heap.size, 3, none⟩ (.slice o3 k cap3)).setCell ⟨w.heap.size + 1, 0, none⟩ (.int .i64 n.kind)).setCell ⟨w.heap.size + 1, 1, none⟩ (.string (bs n.name))).setCell ⟨w.heap.size + 1, 2, none⟩ (.int .i64 n.num)).setCell ⟨w.heap.size + 1, 3, none⟩ (.slice o3 k cap3)).setCell ⟨w.heap.size + 1, 4, none⟩ (.int .i64 n.pos))) :=
          Below.setCell (p := ⟨w.heap.size + 1, 4, none⟩) (Below.setCell (p := ⟨w.heap.size + 1, 3, none⟩) (Below.setCell (p := ⟨w.heap.size + 1, 2, none⟩) (Below.setCell (p := ⟨w.heap.size + 1, 1, none⟩) (Below.setCell (p := ⟨w.heap.size + 1, 0, none⟩) (Below.setCell (p := ⟨w.heap.size, 3, none⟩) HI2.out.2.2.2.1 (Nat.le_refl _) _) (Nat.le_succ _) _) (Nat.le_succ _) _) (Nat.le_succ _) _) (Nat.le_succ _) _) (Nat.le_succ _) _
        have hsz : wr.heap.size ≤ (((((((wr.setCell ⟨w.heap.size, 3, none⟩ (.slice o3 k cap3)).setCell ⟨w.heap.size + 1, 0, none⟩ (.int .i64 n.kind)).setCell ⟨w.heap.size + 1, 1, none⟩ (.string (bs n.name))).setCell ⟨w.heap.size + 1, 2, none⟩ (.int .i64 n.num)).setCell ⟨w.heap.size + 1, 3, none⟩ (.slice o3 k cap3)).setCell ⟨w.heap.size + 1, 4, none⟩ (.int .i64 n.pos))).heap.size := by simp
        generalize (((((((wr.setCell ⟨w.heap.size, 3, none⟩ (.slice o3 k cap3)).setCell ⟨w.heap.size + 1, 0, none⟩ (.int .i64 n.kind)).setCell ⟨w.heap.size + 1, 1, none⟩ (.string (bs n.name))).setCell ⟨w.heap.size + 1, 2, none⟩ (.int .i64 n.num)).setCell ⟨w.heap.size + 1, 3, none⟩ (.slice o3 k cap3)).setCell ⟨w.heap.size + 1, 4, none⟩ (.int .i64 n.pos))) = WF at hK hblk hBW hsz ⊢
        have g0 := hK.cell 0 _ rfl
        have g1 := hK.cell 1 _ rfl
        have g2 := hK.cell 2 _ rfl
        have g3 := hK.cell 3 _ rfl
        have g4 := hK.cell 4 _ rfl
        have hKd : its.map (·.1) = n.kids := by rw [HI2.out.2.1]; exact List.take_of_length_le (by rw [HM.out]; exact Nat.le_refl _)
        have hLen : its.length = k := HI2.out.1
        have hrw : RwN (w.heap.size + 2) wr (.slice o3 its.length cap3) its := by rw [hLen]; exact HI2.out.2.2.1
        have hav := hrw.av_nd n.kind n.name n.num n.pos HN.out.2.2.2
        rw [hKd, nd_eta] at hav
        have hav2 : Av (lowS w.heap.size) WF n o3 cap3 := hav.move (fun j hj hS => ⟨hblk j hj (lowS_no.1 hS), lowS_no.2 (by have := lowS_no.1 hS; omega)⟩) hsz
        refine bodyPost_ret (v := .agg #[.int .i64 n.kind, .string (bs n.name), .int .i64 n.num, .slice o3 k cap3, .int .i64 n.pos]) (by simp [results, Tryz.results12, go_sem, g0, g1, g2, g3, g4]) rfl ⟨o3, cap3, rfl, hav2, hBW⟩
end Go.Proofs.YtndpebkiiemfpaaGreatDoor

namespace Go.Proofs
open Go.Shelf
def Tryz.growNd_ren : Go.Shelf.Ren := ⟨fun | 4 => 64 | k => k, fun | 22 => 22 | 25 => 24 | k => k, fun k => k⟩
theorem Tryz.growNd : Go.Proofs.Lays8.n4 Tryz.prog Tryz.growNd_ren := {
  mixed := by kernel_rfl
  f4 := ⟨"slices.Grow[[]thunkmill/api.Node,thunkmill/api.Node]", by decide, Tryz.func64.trans (congrArg some (by kernel_rfl))⟩
  t0 := Tryz.underlying0
  a0 := Tryz.isAgg0
  z0 := Tryz.sizeOf0
  v0 := Tryz.zeroValue0
  t3 := Tryz.underlying3
  a3 := Tryz.isAgg3
  z3 := Tryz.sizeOf3
  v3 := Tryz.zeroValue3
  t4 := Tryz.underlying4
  a4 := Tryz.isAgg4
  z4 := Tryz.sizeOf4
  v4 := Tryz.zeroValue4
  t9 := Tryz.underlying9
  a9 := Tryz.isAgg9
  z9 := Tryz.sizeOf9
  v9 := Tryz.zeroValue9
  t20 := Tryz.underlying20
  a20 := Tryz.isAgg20
  z20 := Tryz.sizeOf20
  v20 := Tryz.zeroValue20
  t22 := Tryz.underlying22
  a22 := Tryz.isAgg22
  z22 := Tryz.sizeOf22
  v22 := Tryz.zeroValue22 }
end Go.Proofs
namespace Go.Proofs.YtndpebkiiemfpaaGreatDoor
open Go.RowKit Go.Shelf Go.Maps
set_option linter.unusedVariables false

theorem grow_c (lo : Nat) (v : Value) (its : List It) (n : Nat) (W : World) (h : RwN lo W v its) (hn : its.length + n ≤ 1000000) (hlo : lo ≤ W.heap.size) :
    Calls Tryz.prog 64 #[v, .int .i64 n] W fun e W' => ∃ v', e = .returned v' ∧ RwN lo W' v' its ∧ Below W.heap.size W W' ∧ (v'.ownBlock = v.ownBlock ∨ v'.ownBlock = some W.heap.size) := by
  obtain ⟨i0, hi0, hzz⟩ := Option.map_eq_some_iff.1 infoNode
  simp only [Prod.mk.injEq] at hzz
  obtain ⟨hz0, hz1, hz2⟩ := hzz
  have hm6 : maxLen = 9223372036854775807 := by decide
  obtain ⟨cs, o, c, rfl, hlc, hc63, hcl, hnil, hcs, htk⟩ : ∃ (cs : List Value) (o : Option Addr) (c : Nat), v = .slice o its.length c ∧ its.length ≤ c ∧ c ≤ 9223372036854775807 ∧ cs.length = c * 5 ∧ (o = none → c = 0) ∧ (∀ a, o = some a → ∀ j u, cs[j]? = some u → W.cell? (a.add j) = some u) ∧ cs.take (its.length * 5) = its.flatMap itC := by
    obtain ⟨h1, ⟨rfl, h2⟩ | ⟨g, cap, cur, e, hg, hb, h3, h4, h5, h6⟩⟩ := h.row
    · refine ⟨[], none, 0, by rw [h2], by omega, by omega, rfl, fun _ => rfl, fun a ha => (by cases ha), ?_⟩
      rw [List.length_eq_zero_iff.1 h2]; rfl
    · refine ⟨cur.toList, _, cap, e, h3, by omega, by rw [Array.length_toList, h5], fun e2 => (by cases e2), fun a ha j u hu => ?_, h6⟩
      obtain rfl := Option.some.inj ha
      rw [Addr.add_lit, Nat.zero_add]
      exact (show Blk W g cur 24 from hb).cell j u (by rw [← Array.getElem?_toList]; exact hu)
  by_cases hroom : its.length + n ≤ c
  · refine (Any8.slices_Grow_room Tryz.growNd o its.length c n W hlc hc63 (by omega) hroom).mono ?_
    rintro e W' ⟨rfl, rfl⟩
    exact ⟨_, rfl, h, Below.refl _ _, .inl rfl⟩
  · refine (Any8.slices_Grow_grow Tryz.growNd i0 _ hi0 hz0 (by omega) o its.length c n cs W hlc (by omega) (by rw [hz2]; omega) (by omega) (by rw [hcl, hz1]) hnil hcs).mono ?_
    rintro e W' ⟨rfl, rfl⟩
    have hge := grownCap_ge W (its.length + n) c (Tryz.growNd_ren.t 25)
    have hcm := grownCap_le_maxLen W (its.length + n) c (Tryz.growNd_ren.t 25) (by omega)
    obtain ⟨gc, hgc⟩ : ∃ gc, grownCap W (its.length + n) c (Tryz.growNd_ren.t 25) = gc := ⟨_, rfl⟩
    rw [hgc] at hge hcm ⊢
    have hbel : Below W.heap.size W (W.drew.alloc (.cells (cs.toArray ++ Builtin.zeroCells (Value.agg #[.int .i64 0, .string ⟨#[]⟩, .int .i64 0, .slice none 0 0, .int .i64 0]).cells (its.length + n - c) ++ Builtin.zeroCells (Value.agg #[.int .i64 0, .string ⟨#[]⟩, .int .i64 0, .slice none 0 0, .int .i64 0]).cells (gc - (its.length + n))) (Tryz.growNd_ren.t 25))) := (Below.refl _ W).drew.alloc (Nat.le_refl _) _
    refine ⟨_, rfl, ⟨⟨itC_len its, .inr ⟨W.heap.size, gc, _, rfl, hlo, heap_alloc_new W.drew _, by omega, hcm, ?_, ?_⟩⟩, fun x hx => ?_⟩, hbel, .inr rfl⟩
    · simp only [Array.size_append, List.size_toArray, size_zeroCells, hcl]
      show c * 5 + (its.length + n - c) * 5 + (gc - (its.length + n)) * 5 = gc * 5
      omega
    · simp only [Array.toList_append, List.append_assoc]
      rw [List.take_append_of_le_length (by show _ ≤ cs.length; rw [hcl]; omega)]
      exact htk
    · refine (h.av x hx).move (fun k hk hS => ⟨hbel.block k hk, rowS_no.2 ⟨(rowS_no.1 hS).1, fun e => ?_⟩⟩) hbel.size
      have e2 : some W.heap.size = some k := e
      injection e2 with e2
      omega
end Go.Proofs.YtndpebkiiemfpaaGreatDoor

namespace Go.Proofs.YtndpebkiiemfpaaGreatDoor
open Go.RowKit Go.Shelf Go.Maps
set_option linter.unusedVariables false

mutual
/-- A tree without places, and the parts of parentheses in their place. -/
def bareN : Nd → List Nd
  | .mk k nm nu kids ps => if k = 30 then bareL kids else [.mk k nm nu (bareL kids) 0]
def bareL : List Nd → List Nd
  | [] => []
  | x :: l => bareN x ++ bareL l
end
theorem bareNeq (n : Nd) : bareN n = if n.kind = 30 then bareL n.kids else [.mk n.kind n.name n.num (bareL n.kids) 0] := by cases n; simp only [bareN, Nd.kind, Nd.name, Nd.num, Nd.kids]; rfl
theorem bareL_app : ∀ a b : List Nd, bareL (a ++ b) = bareL a ++ bareL b
  | [], b => rfl
  | x :: a, b => by simp only [List.cons_append, bareL, bareL_app a b, List.append_assoc]
theorem bareL_take (l : List Nd) (k : Nat) (h : k < l.length) : bareL (l.take (k + 1)) = bareL (l.take k) ++ bareN l[k] := by
  rw [List.take_succ_eq_append_getElem h, bareL_app]
  simp [bareL]
mutual
theorem bareNlen : ∀ n : Nd, (bareN n).length ≤ szA n
  | .mk k nm nu kids ps => by
    have := bareL_len kids
    simp only [bareN, szA]
    split
    · omega
    · simp
theorem bareL_len : ∀ l : List Nd, (bareL l).length ≤ szL l
  | [] => Nat.le_refl _
  | x :: l => by
    have h1 := bareNlen x
    have h2 := bareL_len l
    simp only [bareL, szL, List.length_append]; omega
end
theorem szL_take : ∀ (l : List Nd) (k : Nat) (h : k < l.length), szL (l.take k) + szA l[k] ≤ szL l
  | x :: l, 0, h => by simp [szL]
  | x :: l, k + 1, h => by
    have := szL_take l k (by simpa using h)
    simp only [List.take_succ_cons, szL, List.getElem_cons_succ]; omega
theorem gb_below {W W' : World} (h : Below W.heap.size W W') (r : Option Nat) : W.grownBy W' r := ⟨h.os, h.tape, h.output, h.size, fun k hk _ => h.block k hk⟩
theorem gb_trans {w wr W' : World} {r r0 : Option Nat} (h : w.grownBy wr r) (h2 : wr.grownBy W' r0) (hr : r0 = r ∨ ∃ g, r0 = some g ∧ w.heap.size ≤ g) : w.grownBy W' r := by
  refine ⟨h2.os.trans h.os, h2.tape.trans h.tape, h2.output.trans h.output, Nat.le_trans h.size h2.size, fun k hk hne => ?_⟩
  refine (h2.block k (Nat.lt_of_lt_of_le hk h.size) (fun e => ?_)).trans (h.block k hk hne)
  rcases hr with hr | ⟨g, hr, hg⟩
  · exact hne (e.trans hr)
  · rw [hr] at e; injection e with e; omega
theorem KIn.mono2 {W : World} {B B' : Nat} {o : Option Addr} {kids : List Nd} (h : KIn W B o kids) (hb : B ≤ B') : KIn W B' o kids := by
  rcases h with e | ⟨g, off, e, hg, hK⟩
  · exact .inl e
  · exact .inr ⟨g, off, e, by omega, KidsAt.mono hb _ g off hK⟩
/-- What appendBare does with trees of a depth. -/
def BareOK (d : Nat) : Prop := ∀ (l : List Nd) (o : Option Addr) (cap lo : Nat) (v : Value) (its : List It) (w : World), (∀ x ∈ l, deepLe d x) → its.length + szL l ≤ 1000000 → KIn w lo o l → l.length ≤ cap → cap ≤ 9223372036854775807 → RwN lo w v its → lo ≤ w.heap.size →
  Calls Tryz.prog 37 #[v, .slice o l.length cap] w fun e W' => ∃ v' ts', e = .returned v' ∧ RwN lo W' v' ts' ∧ ts'.map (·.1) = its.map (·.1) ++ bareL l ∧ w.grownBy W' (v : Value).ownBlock ∧ (v'.ownBlock = (v : Value).ownBlock ∨ ∃ g, v'.ownBlock = some g ∧ w.heap.size ≤ g)
set_option maxRecDepth 100000 in
set_option maxHeartbeats 4000000 in
theorem bare_step (d : Nat) (ih : ∀ d', d = d' + 1 → BareOK d') : BareOK d := by
  intro l o cap lo v its w hd hz hK hc1 hc2 hR hlo
  obtain ⟨i0, hi0, hzz⟩ := Option.map_eq_some_iff.1 infoNode
  simp only [Prod.mk.injEq] at hzz
  obtain ⟨hz0, hz1, hz2⟩ := hzz
  have HI : Hid (Tryz.prog.info? 24 = some i0 ∧ i0.zero = some (.agg #[.int .i64 0, .string ⟨#[]⟩, .int .i64 0, .slice none 0 0, .int .i64 0]) ∧ i0.size = 5 ∧ i0.bytes = 64) := ⟨hi0, hz0, hz1, hz2⟩
  have hll := sz_len l
  obtain ⟨m, hm⟩ : ∃ m, l.length = m := ⟨_, rfl⟩
  have hmi : m ≤ 1000000 := by omega
  have HIH : Hid (∀ k (hk : k < l.length) (o : Option Addr) (cap lo : Nat) (v : Value) (its : List It) (w : World), its.length + szL l[k].kids ≤ 1000000 → KIn w lo o l[k].kids → l[k].kids.length ≤ cap → cap ≤ 9223372036854775807 → RwN lo w v its → lo ≤ w.heap.size →
    Calls Tryz.prog 37 #[v, .slice o l[k].kids.length cap] w fun e W' => ∃ v' ts', e = .returned v' ∧ RwN lo W' v' ts' ∧ ts'.map (·.1) = its.map (·.1) ++ bareL l[k].kids ∧ w.grownBy W' (v : Value).ownBlock ∧ (v'.ownBlock = (v : Value).ownBlock ∨ ∃ g, v'.ownBlock = some g ∧ w.heap.size ≤ g)) := by
    intro k hk o cap lo v its w h1 h2 h3 h4 h5 h6
    have hdk := hd l[k] (List.getElem_mem hk)
    cases d with
    | zero => exact hdk.elim
    | succ d => exact ih d rfl l[k].kids o cap lo v its w hdk h1 h2 h3 h4 h5 h6
  have HGr : Hid (Calls Tryz.prog 64 #[v, .int .i64 m] w fun e W' => ∃ v', e = .returned v' ∧ RwN lo W' v' its ∧ Below w.heap.size w W' ∧ (v'.ownBlock = v.ownBlock ∨ v'.ownBlock = some w.heap.size)) := by
    have := grow_c lo v its m w hR (by omega) hlo
    exact this
  have HK : Hid (KIn w lo o l) := hK
  have HZ : Hid (its.length + szL l ≤ 1000000) := hz
  have HL : Hid (l.length = m) := hm
  have HLo : Hid (lo ≤ w.heap.size) := hlo
  have HRl : Hid (∀ k, v.ownBlock = some k → lo ≤ k) := fun k e => (hR.row.lt k e).1
  rw [hm] at hc1 ⊢
  clear hd hz hK hR hlo hi0 hz0 hz1 hz2 hll hm ih
  go_enter Tryz.func37, Tryz.ntmps37
  go_wp2_with (go_at_call 64; fail)
  refine HGr.out.mono ?_
  rintro e w1 ⟨v1, rfl, hR1, hb1, hat1⟩
  have HS : Hid (RwN lo w1 v1 its ∧ w.grownBy w1 v.ownBlock ∧ (v1.ownBlock = v.ownBlock ∨ ∃ g, v1.ownBlock = some g ∧ w.heap.size ≤ g)) := ⟨hR1, gb_below hb1 _, hat1.elim .inl (fun e => .inr ⟨_, e, Nat.le_refl _⟩)⟩
  clear hR1 hb1 hat1 HGr
  go_wp2
  go_loopg [0, 6, 13] m (fun g v0 v6 v13 wr => ∃ (its' : List It) (k : Nat), v13 = .int .i64 k ∧ k ≤ m ∧ m - k ≤ g ∧ Hid (RwN lo wr v0 its' ∧ its'.map (·.1) = its.map (·.1) ++ bareL (l.take k) ∧ w.grownBy wr v.ownBlock ∧ (v0.ownBlock = v.ownBlock ∨ ∃ g, v0.ownBlock = some g ∧ w.heap.size ≤ g)))
  case atStart => exact ⟨its, 0, rfl, Nat.zero_le _, Nat.le_refl _, ⟨HS.out.1, by simp [bareL], HS.out.2⟩⟩
  case round =>
    obtain ⟨its', k, rfl, hk, hg, HJ⟩ := hrel
    obtain ⟨o0, cap0, hv0, _, _⟩ := HJ.out.1.form
    subst hv0
    have hbel : Below lo w wr := ⟨HJ.out.2.2.1.os, HJ.out.2.2.1.tape, HJ.out.2.2.1.output, HJ.out.2.2.1.size, fun j hj => HJ.out.2.2.1.block j (by have := HLo.out; omega) (fun e => by have := HRl.out j e.symm; omega)⟩
    by_cases hkl : k < m
    · have hkL : k < l.length := by rw [HL.out]; exact hkl
      have hkz : (k : Int) < (m : Int) := by omega
      obtain ⟨g1, off1, ho, hg1, hKA⟩ := HK.out.at k hkL
      have hnk := KidsAt.get l g1 off1 k hkL hKA
      obtain ⟨o2, cap2, c0, c1, c2, c3, c4, hni⟩ := ndIn_of hnk
      have e0 := (hbel.cell (p := ⟨g1, off1 + k * 5, none⟩) hg1).trans c0
      have e1 := (hbel.cell (p := ⟨g1, off1 + k * 5 + 1, none⟩) hg1).trans c1
      have e2 := (hbel.cell (p := ⟨g1, off1 + k * 5 + 2, none⟩) hg1).trans c2
      have e3 := (hbel.cell (p := ⟨g1, off1 + k * 5 + 3, none⟩) hg1).trans c3
      have e4 := (hbel.cell (p := ⟨g1, off1 + k * 5 + 4, none⟩) hg1).trans c4
      have HIK : Hid (∀ (o : Option Addr) (cap lo : Nat) (v : Value) (its : List It) (w : World), its.length + szL l[k].kids ≤ 1000000 → KIn w lo o l[k].kids → l[k].kids.length ≤ cap → cap ≤ 9223372036854775807 → RwN lo w v its → lo ≤ w.heap.size →
        Calls Tryz.prog 37 #[v, .slice o l[k].kids.length cap] w fun e W' => ∃ v' ts', e = .returned v' ∧ RwN lo W' v' ts' ∧ ts'.map (·.1) = its.map (·.1) ++ bareL l[k].kids ∧ w.grownBy W' (v : Value).ownBlock ∧ (v'.ownBlock = (v : Value).ownBlock ∨ ∃ g, v'.ownBlock = some g ∧ w.heap.size ≤ g)) := HIH.out k hkL
      have HT : Hid (bareL (l.take (k + 1)) = bareL (l.take k) ++ bareN l[k]) := bareL_take l k hkL
      have HSz : Hid (its'.length + szA l[k] ≤ 1000000) := by
        have h1 := congrArg List.length HJ.out.2.1
        simp only [List.length_map, List.length_append] at h1
        have h2 := bareL_len (l.take k)
        have h3 := szL_take l k hkL
        have h4 := HZ.out
        show _ ≤ _
        omega
      have HNi : Hid (NdIn wr lo l[k] o2 cap2) := hni.below hbel
      generalize l[k] = x at e0 e1 e2 e3 e4 HIK HT HSz HNi hni hnk c0 c1 c2 c3 c4
      subst ho
      obtain ⟨U, hU⟩ : ∃ U, wr.alloc (.cells #[.int .i64 x.kind, .string (bs x.name), .int .i64 x.num, .slice o2 x.kids.length cap2, .int .i64 x.pos] 24) = U := ⟨_, rfl⟩
      have HU : Hid (wr.alloc (.cells #[.int .i64 x.kind, .string (bs x.name), .int .i64 x.num, .slice o2 x.kids.length cap2, .int .i64 x.pos] 24) = U) := hU
      have hbU : Below wr.heap.size wr U := by rw [← hU]; exact (Below.refl _ _).alloc (Nat.le_refl _) _
      have hUs : U.heap.size = wr.heap.size + 1 := by rw [← hU]; simp
      have hKU : Blk U wr.heap.size #[.int .i64 x.kind, .string (bs x.name), .int .i64 x.num, .slice o2 x.kids.length cap2, .int .i64 x.pos] 24 := by rw [← hU]; exact Blk.new _ _ _
      have hlw : lo ≤ wr.heap.size := Nat.le_trans HLo.out HJ.out.2.2.1.size
      have HBU : Hid (Below wr.heap.size wr U ∧ U.heap.size = wr.heap.size + 1 ∧ Blk U wr.heap.size #[.int .i64 x.kind, .string (bs x.name), .int .i64 x.num, .slice o2 x.kids.length cap2, .int .i64 x.pos] 24 ∧ lo ≤ wr.heap.size) := ⟨hbU, hUs, hKU, hlw⟩
      have HRU : Hid (RwN lo U (.slice o0 its'.length cap0) its') := HJ.out.1.below hbU
      have HKU : Hid (KIn U lo o2 x.kids ∧ x.kids.length ≤ cap2 ∧ cap2 ≤ 9223372036854775807) := ⟨HNi.out.1.below (hbU.mono hlw), HNi.out.2.1, HNi.out.2.2.1⟩
      have q0 := hKU.cell 0 _ rfl
      have q1 := hKU.cell 1 _ rfl
      have q2 := hKU.cell 2 _ rfl
      have q3 := hKU.cell 3 _ rfl
      have q4 := hKU.cell 4 _ rfl
      have qf3 := hKU.frozen 3
      have qf4 := hKU.frozen 4
      clear c0 c1 c2 c3 c4 hni hnk hKA hbel HIH HS hbU hUs hKU hlw hU
      by_cases h30 : x.kind = 30
      · have h30b : (x.kind == 30) = true := by simp [h30]
        have HP : Hid (Calls Tryz.prog 37 #[.slice o0 its'.length cap0, .slice o2 x.kids.length cap2] U fun e W' => ∃ v' ts', e = .returned v' ∧ RwN lo W' v' ts' ∧ ts'.map (·.1) = its'.map (·.1) ++ bareL x.kids ∧ U.grownBy W' (.slice o0 its'.length cap0 : Value).ownBlock ∧ (v'.ownBlock = (.slice o0 its'.length cap0 : Value).ownBlock ∨ ∃ g, v'.ownBlock = some g ∧ U.heap.size ≤ g)) := HIK.out o2 cap2 lo _ its' U (by have := HSz.out; have := szA_eq x; omega) HKU.out.1 HKU.out.2.1 HKU.out.2.2 HRU.out (by have := HBU.out.2.1; have := HBU.out.2.2.2; omega)
        have HX : Hid (bareN x = bareL x.kids) := by show _ = _; rw [bareNeq, if_pos h30]
        clear h30
        go_wp2_with (go_at_call 37; fail)
        first | rw [HU.out] | skip
        refine HP.out.mono ?_
        rintro e w2 ⟨v2, its2, rfl, hR2, hm2, hg2, ha2⟩
        have HE : Hid (RwN lo w2 v2 its2 ∧ its2.map (·.1) = its.map (·.1) ++ bareL (l.take (k + 1)) ∧ w.grownBy w2 v.ownBlock ∧ (v2.ownBlock = v.ownBlock ∨ ∃ g, v2.ownBlock = some g ∧ w.heap.size ≤ g)) := by
          have hgU : w.grownBy U v.ownBlock := gb_trans HJ.out.2.2.1 (gb_below HBU.out.1 v.ownBlock) (.inl rfl)
          refine ⟨hR2, by rw [hm2, HJ.out.2.1, HT.out, HX.out, List.append_assoc], gb_trans hgU hg2 HJ.out.2.2.2, ?_⟩
          rcases ha2 with e | ⟨g, e, hgg⟩
          · rcases HJ.out.2.2.2 with e3 | ⟨g3, e3, h3⟩
            · exact .inl (e.trans e3)
            · exact .inr ⟨g3, e.trans e3, h3⟩
          · exact .inr ⟨g, e, Nat.le_trans hgU.size hgg⟩
        clear hR2 hm2 hg2 ha2 HP
        go_wp2
        go_roundg (m - (k + 1))
        case measure => omega
        case rel => exact ⟨its2, k + 1, by go_num, by omega, Nat.le_refl _, HE.out⟩
      · have h30b : (x.kind == 30) = false := by simpa using h30
        have HP : Hid (Calls Tryz.prog 37 #[.slice none 0 0, .slice o2 x.kids.length cap2] U fun e W' => ∃ v' ts', e = .returned v' ∧ RwN U.heap.size W' v' ts' ∧ ts'.map (·.1) = ([] : List It).map (·.1) ++ bareL x.kids ∧ U.grownBy W' (.slice none 0 0 : Value).ownBlock ∧ (v'.ownBlock = (.slice none 0 0 : Value).ownBlock ∨ ∃ g, v'.ownBlock = some g ∧ U.heap.size ≤ g)) := HIK.out o2 cap2 U.heap.size (.slice none 0 0) [] U (by have := HSz.out; have := szA_eq x; show 0 + _ ≤ _; omega) (HKU.out.1.mono2 (by have := HBU.out.2.1; have := HBU.out.2.2.2; omega)) HKU.out.2.1 HKU.out.2.2 (rwNil _ _) (Nat.le_refl _)
        have HX : Hid (bareN x = [.mk x.kind x.name x.num (bareL x.kids) 0]) := by show _ = _; rw [bareNeq, if_neg h30]
        clear h30
        go_wp2_with (go_at_call 37; fail)
        first | rw [HU.out] | skip
        refine HP.out.mono ?_
        rintro e w2 ⟨v2, its2, rfl, hR2, hm2, hg2, ha2⟩
        have hm3 : its2.map (·.1) = bareL x.kids := by simpa using hm2
        have hl4 : its2.length = (bareL x.kids).length := by rw [← hm3]; simp
        obtain ⟨o4, cap4, hv4, _, _⟩ := hR2.form
        subst hv4
        have hb2 : Below U.heap.size U w2 := ⟨hg2.os, hg2.tape, hg2.output, hg2.size, fun j hj => hg2.block j hj (by simp [Value.ownBlock])⟩
        have hav : Av (lowS U.heap.size) w2 (.mk x.kind x.name x.num (bareL x.kids) 0) o4 cap4 := by
          have := hR2.av_nd x.kind x.name x.num 0 HNi.out.2.2.2
          rw [hm3] at this
          exact this
        have hbr : Below wr.heap.size wr w2 := HBU.out.1.trans (hb2.mono (by have := HBU.out.2.1; omega))
        have hKw : Blk w2 wr.heap.size #[.int .i64 x.kind, .string (bs x.name), .int .i64 x.num, .slice o2 x.kids.length cap2, .int .i64 x.pos] 24 := HBU.out.2.2.1.below hb2
        rw [hl4]
        obtain ⟨U3, hU3⟩ : ∃ U3, ((w2.setCell ⟨wr.heap.size, 3, none⟩ (.slice o4 (bareL x.kids).length cap4)).setCell ⟨wr.heap.size, 4, none⟩ (.int .i64 0)).alloc (.cells #[.int .i64 x.kind, .string (bs x.name), .int .i64 x.num, .slice o4 (bareL x.kids).length cap4, .int .i64 0] 24) = U3 := ⟨_, rfl⟩
        have HU3 : Hid (((w2.setCell ⟨wr.heap.size, 3, none⟩ (.slice o4 (bareL x.kids).length cap4)).setCell ⟨wr.heap.size, 4, none⟩ (.int .i64 0)).alloc (.cells #[.int .i64 x.kind, .string (bs x.name), .int .i64 x.num, .slice o4 (bareL x.kids).length cap4, .int .i64 0] 24) = U3) := hU3
        have hb3 : Below wr.heap.size wr U3 := by
          rw [← hU3]
          have h1 : Below wr.heap.size wr ((w2.setCell ⟨wr.heap.size, 3, none⟩ (.slice o4 (bareL x.kids).length cap4)).setCell ⟨wr.heap.size, 4, none⟩ (.int .i64 0)) := Below.setCell (p := ⟨wr.heap.size, 4, none⟩) (Below.setCell (p := ⟨wr.heap.size, 3, none⟩) hbr (Nat.le_refl _) _) (Nat.le_refl _) _
          exact h1.alloc h1.size _
        have hbk : ∀ j, j < w2.heap.size → U.heap.size ≤ j → U3.heap[j]? = w2.heap[j]? := fun j hj hl => by
          have hne : j ≠ wr.heap.size := by have := HBU.out.2.1; omega
          rw [← hU3, heap_alloc_old _ _ (by simpa using hj), heap_setCell_other _ _ _ _ hne, heap_setCell_other _ _ _ _ hne]
        have hs3 : w2.heap.size ≤ U3.heap.size := by rw [← hU3]; simp
        have HR3 : Hid (RwN lo U3 (.slice o0 its'.length cap0) its') := HJ.out.1.below hb3
        have HAv3 : Hid (Av (lowS U.heap.size) U3 (.mk x.kind x.name x.num (bareL x.kids) 0) o4 cap4) := hav.move (fun j hj hS => ⟨hbk j hj (lowS_no.1 hS), hS⟩) hs3
        have HNw : Hid (∀ j u, (itC (.mk x.kind x.name x.num (bareL x.kids) 0, o4, cap4))[j]? = some u → U3.cell? ((⟨w2.heap.size, 0, none⟩ : Addr).add j) = some u) := by
          intro j u hu
          rw [Addr.add_lit, Nat.zero_add, ← hU3]
          have h1 := (Blk.new ((w2.setCell ⟨wr.heap.size, 3, none⟩ (.slice o4 (bareL x.kids).length cap4)).setCell ⟨wr.heap.size, 4, none⟩ (.int .i64 0)) #[.int .i64 x.kind, .string (bs x.name), .int .i64 x.num, .slice o4 (bareL x.kids).length cap4, .int .i64 0] 24).cell j u (by rw [← hu]; simp [itC, ndL, Nd.kind, Nd.name, Nd.num, Nd.kids, Nd.pos])
          simpa using h1
        have HOne : Hid (∀ u ∈ itC (.mk x.kind x.name x.num (bareL x.kids) 0, o4, cap4), u.oneCell' = true) := by
          show ∀ u ∈ _, _
          have := itC_one [(.mk x.kind x.name x.num (bareL x.kids) 0, o4, cap4)]
          simpa using this
        have HB3 : Hid (Below wr.heap.size wr U3 ∧ lo ≤ U3.heap.size) := ⟨hb3, Nat.le_trans HBU.out.2.2.2 hb3.size⟩
        have p0 := hKw.cell 0 _ rfl
        have p1 := hKw.cell 1 _ rfl
        have p2 := hKw.cell 2 _ rfl
        have p3 := hKw.cell 3 _ rfl
        have p4 := hKw.cell 4 _ rfl
        have pf3 := hKw.frozen 3
        have pf4 := hKw.frozen 4
        have pl := hKw.lt
        clear hR2 hm2 hg2 ha2 hm3 hl4 hb2 hav hbr hKw hU3 hb3 hbk hs3 HP q0 q1 q2 q3 q4 qf3 qf4 e0 e1 e2 e3 e4
        go_wp2_with (at_builtin; rw [HU3.out]; refine wpList_append_own_at _ rfl _ _ 22 rfl lo 24 i0 _ 5 64 Tryz.underlying22 HI.out.1 HI.out.2.1 HI.out.2.2.1 HI.out.2.2.2 rfl (by decide) (.slice o0 its'.length cap0) its'.length (its'.flatMap itC) rfl HR3.out.row ⟨w2.heap.size, 0, none⟩ 1 1 (itC (.mk x.kind x.name x.num (bareL x.kids) 0, o4, cap4)) rfl rfl HNw.out HOne.out (by have := HSz.out; have := szA_eq x; unfold maxLen; omega) (by have := HSz.out; have := szA_eq x; omega) HB3.out.2 ?_; intro v5 w5 hown hgrow hnil hat; have HN5 : Hid (RwN lo w5 v5 (its' ++ [(.mk x.kind x.name x.num (bareL x.kids) 0, o4, cap4)])) := HR3.out.push HAv3.out (by have := HBU.out.2.1; have := HBU.out.2.2.2; omega) (fun j hj => by have h1 := (HJ.out.1.row.lt j hj).2; have := HBU.out.2.1; omega) hown hgrow hat; have HG5 : Hid (U3.grownBy w5 (Value.slice o0 its'.length cap0).ownBlock ∧ (v5.ownBlock = (Value.slice o0 its'.length cap0).ownBlock ∨ v5.ownBlock = some U3.heap.size)) := ⟨hgrow, hat⟩; clear hown hgrow hnil hat)
        go_roundg (m - (k + 1))
        case measure => omega
        case rel =>
          have hgU : w.grownBy U3 v.ownBlock := gb_trans HJ.out.2.2.1 (gb_below HB3.out.1 v.ownBlock) (.inl rfl)
          refine ⟨its' ++ [(.mk x.kind x.name x.num (bareL x.kids) 0, o4, cap4)], k + 1, by go_num, by omega, Nat.le_refl _, ⟨HN5.out, by rw [List.map_append, HJ.out.2.1, HT.out, HX.out, List.append_assoc]; rfl, gb_trans hgU HG5.out.1 HJ.out.2.2.2, ?_⟩⟩
          rcases HG5.out.2 with e | e
          · rcases HJ.out.2.2.2 with e3 | ⟨g3, e3, h3⟩
            · exact .inl (e.trans e3)
            · exact .inr ⟨g3, e.trans e3, h3⟩
          · exact .inr ⟨_, e, hgU.size⟩
    · obtain rfl : k = m := by omega
      have hkz : ¬ (k : Int) < (k : Int) := by omega
      have hl2 : l.take k = l := List.take_of_length_le (by rw [HL.out]; exact Nat.le_refl _)
      have HE := HJ.out
      rw [hl2] at HE
      have HF : Hid _ := HE
      clear HE hbel
      go_wp2
      go_ret
      exact ⟨_, rfl, its', HF.out⟩
theorem bareOK : ∀ d, BareOK d
  | 0 => bare_step 0 (fun d' h => by omega)
  | d + 1 => bare_step (d + 1) (fun d' h => by cases h; exact bareOK d)
end Go.Proofs.YtndpebkiiemfpaaGreatDoor
