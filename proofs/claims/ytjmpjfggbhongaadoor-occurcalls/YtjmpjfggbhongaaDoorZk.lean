/-
  The kit's Expr: a copy of an expression, by a contract.
-/
import Derived.Test.YtjmpjfggbhongaaDoorZj
import Derived.Test.YtjmpjfggbhongaaDoorZi
import Derived.Deep.CutRange
namespace Go.Proofs.YtjmpjfggbhongaaDoor
open Go.RowKit Go.Shelf Go.Maps
set_option linter.unusedVariables false

theorem infoBind16 : (Tryd.prog.info? 56).map (fun i => (i.zero, i.size, i.bytes)) = some (some (.agg #[.string ⟨#[]⟩, .int .i64 0, .string ⟨#[]⟩, .int .i64 0, .slice none 0 0, .slice none 0 0, .slice none 0 0, .slice none 0 0]), 8, 144) := by kernel_rfl
theorem infoAlt16 : (Tryd.prog.info? 52).map (fun i => (i.zero, i.size, i.bytes)) = some (some (.agg #[.int .i64 0, .string ⟨#[]⟩, .int .i64 0, .slice none 0 0, .int .i64 0, .string ⟨#[]⟩, .int .i64 0, .slice none 0 0, .slice none 0 0, .slice none 0 0, .slice none 0 0]), 11, 184) := by kernel_rfl
theorem ExC.exAt {W : World} {B : Nat} : ∀ {d : Nat} {t : Tr d} {c : Nat → Option Value} {g off : Nat}, ExC W B d t c → (∀ j, j < 7 → W.cell? ⟨g, off + j, none⟩ = c j) → g < B → ExAt W B d t g off
  | 0, t, _, _, _, _, _, _ => nomatch t
  | d + 1, t, c, g, off, h, hc, hg => by
    obtain ⟨k0, k1, k2, p3, l3, m3, p4, l4, m4, p5, l5, m5, p6, l6, m6, z0, z1, z2, z3, z4, z5, z6, o3, c3, o4, c4, o5, c5, o6, c6, ea, k3, k4, k5, k6⟩ := h
    cases ea
    exact ⟨hg, (hc 0 (by decide)).trans z0, (hc 1 (by decide)).trans z1, (hc 2 (by decide)).trans z2, ⟨_, _, (hc 3 (by decide)).trans z3, k3⟩, ⟨_, _, (hc 4 (by decide)).trans z4, k4⟩, ⟨_, _, (hc 5 (by decide)).trans z5, k5⟩, ⟨_, _, (hc 6 (by decide)).trans z6, k6⟩⟩
def GdB (d : Nat) (S : Nat → Bool) (W : World) (b : ByteArray × Tr d) (c : Nat → Option Value) : Prop := c 0 = some (.string b.1) ∧ ExC (Ms S W) W.heap.size d b.2 (fun j => c (j + 1))
def GdE (d : Nat) (S : Nat → Bool) (W : World) (x : Tr d) (c : Nat → Option Value) : Prop := ExC (Ms S W) W.heap.size d x (fun j => c (j + 0))
def GdA (d : Nat) (S : Nat → Bool) (W : World) (a : AltH × Tr d) (c : Nat → Option Value) : Prop := c 0 = some (.int .i64 a.1.kind) ∧ c 1 = some (.string a.1.name) ∧ c 2 = some (.int .i64 a.1.num) ∧ (∃ ov cv, c 3 = some (.slice ov a.1.vars.length cv) ∧ TxIn (Ms S W) W.heap.size ov a.1.vars) ∧ ExC (Ms S W) W.heap.size d a.2 (fun j => c (j + 4))
theorem mvB (d : Nat) : Moves (GdB d) := fun S W S' W' x c h m => ⟨h.1, m.exC h.2⟩
theorem mvE (d : Nat) : Moves (GdE d) := fun S W S' W' x c h m => m.exC h
theorem mvA (d : Nat) : Moves (GdA d) := fun S W S' W' x c h m => by
  obtain ⟨h0, h1, h2, ⟨ov, cv, h3, h4⟩, h5⟩ := h
  exact ⟨h0, h1, h2, ⟨ov, cv, h3, m.txIn h4⟩, m.exC h5⟩
theorem RwO.keep {α : Type} {z e : Nat} {Gd : (Nat → Bool) → World → α → (Nat → Option Value) → Prop} {F : Nat} {W W' : World} {o : Option Addr} {c : Nat} {l : List α} (hM : Moves Gd) (h : RwO z e Gd F W o c l) (hs : W.heap.size ≤ W'.heap.size) (hb : ∀ g, F ≤ g → g < W.heap.size → W'.heap[g]? = W.heap[g]?) : RwO z e Gd F W' o c l := by
  have h' : RwG z e (Gd (inS F o) W) F W' o c l := by
    obtain ⟨xs, h1, h2, h3⟩ := h
    exact ⟨xs, owns_same16 h1 (fun g hg => hb g (owns_lt h1 hg).1 (owns_lt h1 hg).2), h2, h3⟩
  exact h'.imp (fun x f hx => hM _ _ _ _ _ _ hx ⟨hs, fun g hg hS => ⟨hb g (inS_no.1 hS).1 hg, hS⟩⟩)
theorem cut_at {z : Nat} {f : Nat → Option Value} {j : Nat} (h : j < z) : cut z f j = f j := if_pos h
theorem RwO.rowB {d F F0 : Nat} {W : World} {o : Option Addr} {c : Nat} {l : List (ByteArray × Tr d)} (h : RwO 8 56 (GdB d) F W o c l) (hF : F0 ≤ F) : RowIn W.heap.size 8 (fun (b : ByteArray × Tr d) g off => (Ms (low F0) W).cell? ⟨g, off, none⟩ = some (.string b.1) ∧ ExAt (Ms (low F0) W) W.heap.size d b.2 g (off + 1)) o l := by
  by_cases h0 : l = []
  · exact .inl h0
  · obtain ⟨g, e1, hg, -⟩ := h.at (mvB d) hF (List.length_pos_iff.2 h0)
    refine .inr ⟨g, 0, e1, hg, fun k hk => ?_⟩
    obtain ⟨g', e2, -, h1, h2⟩ := h.at (mvB d) hF hk
    rw [e1] at e2; cases e2
    rw [cut_at (by decide)] at h1
    rw [Nat.zero_add]
    exact ⟨h1, h2.exAt (fun j hj => by rw [cut_at (by omega)]; congr 2; omega) hg⟩
theorem RwO.rowE {d F F0 : Nat} {W : World} {o : Option Addr} {c : Nat} {l : List (Tr d)} (h : RwO 7 29 (GdE d) F W o c l) (hF : F0 ≤ F) : RowIn W.heap.size 7 (fun (x : Tr d) g off => ExAt (Ms (low F0) W) W.heap.size d x g off) o l := by
  by_cases h0 : l = []
  · exact .inl h0
  · obtain ⟨g, e1, hg, -⟩ := h.at (mvE d) hF (List.length_pos_iff.2 h0)
    refine .inr ⟨g, 0, e1, hg, fun k hk => ?_⟩
    obtain ⟨g', e2, -, h2⟩ := h.at (mvE d) hF hk
    rw [e1] at e2; cases e2
    rw [Nat.zero_add]
    exact ExC.exAt h2 (fun j hj => by rw [cut_at (by omega)]; congr 2) hg
theorem RwO.rowA {d F F0 : Nat} {W : World} {o : Option Addr} {c : Nat} {l : List (AltH × Tr d)} (h : RwO 11 52 (GdA d) F W o c l) (hF : F0 ≤ F) : RowIn W.heap.size 11 (AltAt (Ms (low F0) W) W.heap.size d) o l := by
  by_cases h0 : l = []
  · exact .inl h0
  · obtain ⟨g, e1, hg, -⟩ := h.at (mvA d) hF (List.length_pos_iff.2 h0)
    refine .inr ⟨g, 0, e1, hg, fun k hk => ?_⟩
    obtain ⟨g', e2, -, h0, h1, h2, ⟨ov, cv, h3, h4⟩, h5⟩ := h.at (mvA d) hF hk
    rw [e1] at e2; cases e2
    rw [cut_at (by decide)] at h0 h1 h2 h3
    rw [Nat.zero_add]
    exact ⟨h0, h1, h2, ⟨ov, cv, h3, h4⟩, h5.exAt (fun j hj => by rw [cut_at (by omega)]; congr 2; omega) hg⟩
/-- What Expr does with an expression of a depth. -/
def CpE (d : Nat) : Prop := ∀ (t : Tr d) (v : Value) (B : Nat) (w : World), ExVd w B d t v → B ≤ w.heap.size → wM d t ≤ 3000000 → Calls Tryd.prog 12 #[v] w fun e w' => ∃ j0 j1 j2 t3 u3 v3 t4 u4 v4 t5 u5 v5 t6 u6 v6, e = .returned (.agg #[.int .i64 j0, .string j1, .int .i64 j2, .slice t3 u3 v3, .slice t4 u4 v4, .slice t5 u5 v5, .slice t6 u6 v6]) ∧ ExVd (Ms (low w.heap.size) w') w'.heap.size d t (.agg #[.int .i64 j0, .string j1, .int .i64 j2, .slice t3 u3 v3, .slice t4 u4 v4, .slice t5 u5 v5, .slice t6 u6 v6]) ∧ Below w.heap.size w w'
theorem one8 (y : ByteArray) (j0 j2 : Int) (j1 : ByteArray) (t3 t4 t5 t6 : Option Addr) (u3 v3 u4 v4 u5 v5 u6 v6 : Nat) : ∀ u ∈ (#[.string y, .int .i64 j0, .string j1, .int .i64 j2, .slice t3 u3 v3, .slice t4 u4 v4, .slice t5 u5 v5, .slice t6 u6 v6] : Array Value).toList, u.oneCell' = true := by
  intro u hu
  simp only [List.mem_cons, List.not_mem_nil, or_false] at hu
  rcases hu with rfl | rfl | rfl | rfl | rfl | rfl | rfl | rfl <;> rfl
theorem one7' (j0 j2 : Int) (j1 : ByteArray) (t3 t4 t5 t6 : Option Addr) (u3 v3 u4 v4 u5 v5 u6 v6 : Nat) : ∀ u ∈ (#[.int .i64 j0, .string j1, .int .i64 j2, .slice t3 u3 v3, .slice t4 u4 v4, .slice t5 u5 v5, .slice t6 u6 v6] : Array Value).toList, u.oneCell' = true := by
  intro u hu
  simp only [List.mem_cons, List.not_mem_nil, or_false] at hu
  rcases hu with rfl | rfl | rfl | rfl | rfl | rfl | rfl <;> rfl
theorem one11 (ak au : Int) (an : ByteArray) (ov : Option Addr) (nv cv : Nat) (j0 j2 : Int) (j1 : ByteArray) (t3 t4 t5 t6 : Option Addr) (u3 v3 u4 v4 u5 v5 u6 v6 : Nat) : ∀ u ∈ (#[.int .i64 ak, .string an, .int .i64 au, .slice ov nv cv, .int .i64 j0, .string j1, .int .i64 j2, .slice t3 u3 v3, .slice t4 u4 v4, .slice t5 u5 v5, .slice t6 u6 v6] : Array Value).toList, u.oneCell' = true := by
  intro u hu
  simp only [List.mem_cons, List.not_mem_nil, or_false] at hu
  rcases hu with rfl | rfl | rfl | rfl | rfl | rfl | rfl | rfl | rfl | rfl | rfl <;> rfl
theorem Blk.sets7b {W : World} {E : Nat} {z0 z1 z2 z3 z4 z5 z6 z7 z8 z9 z10 : Value} {T : TypeId} (h : Blk W E #[z0, z1, z2, z3, z4, z5, z6, z7, z8, z9, z10] T) (a4 a5 a6 a7 a8 a9 a10 : Value) : Blk (((((((W.setCell ⟨E, 4, none⟩ a4).setCell ⟨E, 5, none⟩ a5).setCell ⟨E, 6, none⟩ a6).setCell ⟨E, 7, none⟩ a7).setCell ⟨E, 8, none⟩ a8).setCell ⟨E, 9, none⟩ a9).setCell ⟨E, 10, none⟩ a10) E #[z0, z1, z2, z3, a4, a5, a6, a7, a8, a9, a10] T := by
  have h4 : Blk _ E #[z0, z1, z2, z3, a4, z5, z6, z7, z8, z9, z10] T := h.set 4 a4
  have h5 : Blk _ E #[z0, z1, z2, z3, a4, a5, z6, z7, z8, z9, z10] T := h4.set 5 a5
  have h6 : Blk _ E #[z0, z1, z2, z3, a4, a5, a6, z7, z8, z9, z10] T := h5.set 6 a6
  have h7 : Blk _ E #[z0, z1, z2, z3, a4, a5, a6, a7, z8, z9, z10] T := h6.set 7 a7
  have h8 : Blk _ E #[z0, z1, z2, z3, a4, a5, a6, a7, a8, z9, z10] T := h7.set 8 a8
  have h9 : Blk _ E #[z0, z1, z2, z3, a4, a5, a6, a7, a8, a9, z10] T := h8.set 9 a9
  have h10 : Blk _ E #[z0, z1, z2, z3, a4, a5, a6, a7, a8, a9, a10] T := h9.set 10 a10
  exact h10
theorem Blk.sets7a {W : World} {E : Nat} {z0 z1 z2 z3 z4 z5 z6 : Value} {T : TypeId} (h : Blk W E #[z0, z1, z2, z3, z4, z5, z6] T) (a0 a1 a2 a3 a4 a5 a6 : Value) : Blk (((((((W.setCell ⟨E, 0, none⟩ a0).setCell ⟨E, 1, none⟩ a1).setCell ⟨E, 2, none⟩ a2).setCell ⟨E, 3, none⟩ a3).setCell ⟨E, 4, none⟩ a4).setCell ⟨E, 5, none⟩ a5).setCell ⟨E, 6, none⟩ a6) E #[a0, a1, a2, a3, a4, a5, a6] T := by
  have h0 : Blk _ E #[a0, z1, z2, z3, z4, z5, z6] T := h.set 0 a0
  have h1 : Blk _ E #[a0, a1, z2, z3, z4, z5, z6] T := h0.set 1 a1
  have h2 : Blk _ E #[a0, a1, a2, z3, z4, z5, z6] T := h1.set 2 a2
  have h3 : Blk _ E #[a0, a1, a2, a3, z4, z5, z6] T := h2.set 3 a3
  have h4 : Blk _ E #[a0, a1, a2, a3, a4, z5, z6] T := h3.set 4 a4
  have h5 : Blk _ E #[a0, a1, a2, a3, a4, a5, z6] T := h4.set 5 a5
  have h6 : Blk _ E #[a0, a1, a2, a3, a4, a5, a6] T := h5.set 6 a6
  exact h6
theorem oth_sets7a {W : World} {E : Nat} (a0 a1 a2 a3 a4 a5 a6 : Value) {g : Nat} (hg : g ≠ E) : (((((((W.setCell ⟨E, 0, none⟩ a0).setCell ⟨E, 1, none⟩ a1).setCell ⟨E, 2, none⟩ a2).setCell ⟨E, 3, none⟩ a3).setCell ⟨E, 4, none⟩ a4).setCell ⟨E, 5, none⟩ a5).setCell ⟨E, 6, none⟩ a6).heap[g]? = W.heap[g]? := (Below.heap_setCell _ _ _ _ hg).trans ((Below.heap_setCell _ _ _ _ hg).trans ((Below.heap_setCell _ _ _ _ hg).trans ((Below.heap_setCell _ _ _ _ hg).trans ((Below.heap_setCell _ _ _ _ hg).trans ((Below.heap_setCell _ _ _ _ hg).trans (Below.heap_setCell _ _ _ _ hg))))))
theorem sz_set16 (W : World) (p : Addr) (v : Value) : (W.setCell p v).heap.size = W.heap.size := by show (Array.modify _ _ _).size = _; rw [Array.size_modify]
theorem sz_sets7a {W : World} {E : Nat} (a0 a1 a2 a3 a4 a5 a6 : Value) : (((((((W.setCell ⟨E, 0, none⟩ a0).setCell ⟨E, 1, none⟩ a1).setCell ⟨E, 2, none⟩ a2).setCell ⟨E, 3, none⟩ a3).setCell ⟨E, 4, none⟩ a4).setCell ⟨E, 5, none⟩ a5).setCell ⟨E, 6, none⟩ a6).heap.size = W.heap.size := by rw [sz_set16, sz_set16, sz_set16, sz_set16, sz_set16, sz_set16, sz_set16]
theorem mv_sets7 {W : World} {E : Nat} (a4 a5 a6 a7 a8 a9 a10 : Value) : Mv (low (E + 1)) W (low (E + 1)) (((((((W.setCell ⟨E, 4, none⟩ a4).setCell ⟨E, 5, none⟩ a5).setCell ⟨E, 6, none⟩ a6).setCell ⟨E, 7, none⟩ a7).setCell ⟨E, 8, none⟩ a8).setCell ⟨E, 9, none⟩ a9).setCell ⟨E, 10, none⟩ a10) := ⟨by rw [sz_set16, sz_set16, sz_set16, sz_set16, sz_set16, sz_set16, sz_set16]; exact Nat.le_refl _, fun g hg0 hS => ⟨by have hg : g ≠ E := (by have := low_no.1 hS; omega); exact (Below.heap_setCell _ _ _ _ hg).trans ((Below.heap_setCell _ _ _ _ hg).trans ((Below.heap_setCell _ _ _ _ hg).trans ((Below.heap_setCell _ _ _ _ hg).trans ((Below.heap_setCell _ _ _ _ hg).trans ((Below.heap_setCell _ _ _ _ hg).trans (Below.heap_setCell _ _ _ _ hg)))))), hS⟩⟩
set_option maxHeartbeats 32000000 in
set_option maxRecDepth 100000 in
theorem copyEx_succ (d : Nat) (ih : CpE d) (t : Tr (d + 1)) (va : Value) (B : Nat) (w : World) (ha : ExVal w B d t va) (hB : B ≤ w.heap.size) (ht : wM (d + 1) t ≤ 3000000) :
    Calls Tryd.prog 12 #[va] w fun e w' => ∃ j0 j1 j2 t3 u3 v3 t4 u4 v4 t5 u5 v5 t6 u6 v6, e = .returned (.agg #[.int .i64 j0, .string j1, .int .i64 j2, .slice t3 u3 v3, .slice t4 u4 v4, .slice t5 u5 v5, .slice t6 u6 v6]) ∧ ExVal (Ms (low w.heap.size) w') w'.heap.size d t (.agg #[.int .i64 j0, .string j1, .int .i64 j2, .slice t3 u3 v3, .slice t4 u4 v4, .slice t5 u5 v5, .slice t6 u6 v6]) ∧ Below w.heap.size w w' := by
  obtain ⟨o3, c3, o4, c4, o5, c5, o6, c6, ea, k3, k4, k5, k6⟩ := ha
  subst ea
  have hM := wM_succ t
  have hmem : ∀ {α : Type} (f : α → Nat) (l : List α) (k : Nat) (h : k < l.length), f l[k] ≤ (l.map f).sum := fun f l k h => by
    have h1 := take_sum f l k h
    have h2 := take_le f l (k + 1)
    omega
  have lenP : (TrN.params t).length ≤ (bndM t).length := by simp [bndM]
  have lenB : (TrN.binds t).length ≤ (bndM t).length := by simp [bndM]
  have lenA : (TrN.args t).length ≤ ((TrN.args t).map (wM d)).sum := len_le_sum _ _ (fun x _ => wM_pos d x)
  have lenL : (TrN.alts t).length ≤ ((TrN.alts t).map (fun a => 4 * a.1.vars.length + wM d a.2)).sum := len_le_sum _ _ (fun x _ => by have := wM_pos d x.2; omega)
  have hsame : ∀ W, Below w.heap.size w W → ∀ g off, g < B → W.cell? ⟨g, off, none⟩ = w.cell? ⟨g, off, none⟩ := fun W hW g off hg => hW.cell (p := ⟨g, off, none⟩) (by show g < w.heap.size; omega)
  have hTx : ∀ W, Below w.heap.size w W → Calls Tryd.prog 24 #[.slice o3 (TrN.params t).length c3] W fun e w' => ∃ o' c', e = .returned (.slice o' (TrN.params t).length c') ∧ TxIn (Ms (low W.heap.size) w') w'.heap.size o' (TrN.params t) ∧ Below W.heap.size W w' := fun W hW => texts_c _ _ _ B W (k3.same (hsame W hW)) (by have := hW.size; omega) (by omega)
  have HBn : Hid (∀ k (hk : k < (TrN.binds t).length), ∃ g off, o4 = some ⟨g, off, none⟩ ∧ ∀ W, Below w.heap.size w W → g < W.heap.size ∧ W.cell? ⟨g, off + k * 8, none⟩ = some (.string (TrN.binds t)[k].1) ∧ Ld7 W B d (TrN.binds t)[k].2 g (off + k * 8 + 1) ∧ ∀ va, ExVd W B d (TrN.binds t)[k].2 va → ∀ X, Below w.heap.size w X → Calls Tryd.prog 12 #[va] X fun e w' => ∃ j0 j1 j2 t3 u3 v3 t4 u4 v4 t5 u5 v5 t6 u6 v6, e = .returned (.agg #[.int .i64 j0, .string j1, .int .i64 j2, .slice t3 u3 v3, .slice t4 u4 v4, .slice t5 u5 v5, .slice t6 u6 v6]) ∧ ExVd (Ms (low X.heap.size) w') w'.heap.size d (TrN.binds t)[k].2 (.agg #[.int .i64 j0, .string j1, .int .i64 j2, .slice t3 u3 v3, .slice t4 u4 v4, .slice t5 u5 v5, .slice t6 u6 v6]) ∧ Below X.heap.size X w') := by
    intro k hk
    rcases k4 with h9 | ⟨g, off, e, hg, h9⟩
    · rw [h9] at hk; cases hk
    · exact ⟨g, off, e, fun W hW => ⟨by have := hW.size; omega, (hsame W hW _ _ hg).trans (h9 k hk).1, ld7 d _ _ _ (ExAt.same (hsame W hW) d _ _ _ (h9 k hk).2), fun va hva X hX => ih _ va B X (ExVd.same16 (fun g off hg => by rw [hsame X hX g off hg, hsame W hW g off hg]) hva) (by have := hX.size; omega) (by have := hmem (fun b : ByteArray × Tr d => wM d b.2) (TrN.binds t) k hk; omega)⟩⟩
  have HAr : Hid (∀ k (hk : k < (TrN.args t).length), ∃ g off, o5 = some ⟨g, off, none⟩ ∧ ∀ W, Below w.heap.size w W → g < W.heap.size ∧ Ld7 W B d (TrN.args t)[k] g (off + k * 7) ∧ ∀ va, ExVd W B d (TrN.args t)[k] va → ∀ X, Below w.heap.size w X → Calls Tryd.prog 12 #[va] X fun e w' => ∃ j0 j1 j2 t3 u3 v3 t4 u4 v4 t5 u5 v5 t6 u6 v6, e = .returned (.agg #[.int .i64 j0, .string j1, .int .i64 j2, .slice t3 u3 v3, .slice t4 u4 v4, .slice t5 u5 v5, .slice t6 u6 v6]) ∧ ExVd (Ms (low X.heap.size) w') w'.heap.size d (TrN.args t)[k] (.agg #[.int .i64 j0, .string j1, .int .i64 j2, .slice t3 u3 v3, .slice t4 u4 v4, .slice t5 u5 v5, .slice t6 u6 v6]) ∧ Below X.heap.size X w') := by
    intro k hk
    rcases k5 with h9 | ⟨g, off, e, hg, h9⟩
    · rw [h9] at hk; cases hk
    · exact ⟨g, off, e, fun W hW => ⟨by have := hW.size; omega, ld7 d _ _ _ (ExAt.same (hsame W hW) d _ _ _ (h9 k hk)), fun va hva X hX => ih _ va B X (ExVd.same16 (fun g off hg => by rw [hsame X hX g off hg, hsame W hW g off hg]) hva) (by have := hX.size; omega) (by have := hmem (wM d) (TrN.args t) k hk; omega)⟩⟩
  have HAl : Hid (∀ k (hk : k < (TrN.alts t).length), ∃ g off, o6 = some ⟨g, off, none⟩ ∧ ∀ W, Below w.heap.size w W → g < W.heap.size ∧ W.cell? ⟨g, off + k * 11, none⟩ = some (.int .i64 (TrN.alts t)[k].1.kind) ∧ W.cell? ⟨g, off + k * 11 + 1, none⟩ = some (.string (TrN.alts t)[k].1.name) ∧ W.cell? ⟨g, off + k * 11 + 2, none⟩ = some (.int .i64 (TrN.alts t)[k].1.num) ∧ (∃ ov cv, W.cell? ⟨g, off + k * 11 + 3, none⟩ = some (.slice ov (TrN.alts t)[k].1.vars.length cv) ∧ ∀ X, Below w.heap.size w X → Calls Tryd.prog 24 #[.slice ov (TrN.alts t)[k].1.vars.length cv] X fun e w' => ∃ o' c', e = .returned (.slice o' (TrN.alts t)[k].1.vars.length c') ∧ TxIn (Ms (low X.heap.size) w') w'.heap.size o' (TrN.alts t)[k].1.vars ∧ Below X.heap.size X w') ∧ Ld7 W B d (TrN.alts t)[k].2 g (off + k * 11 + 4) ∧ ∀ va, ExVd W B d (TrN.alts t)[k].2 va → ∀ X, Below w.heap.size w X → Calls Tryd.prog 12 #[va] X fun e w' => ∃ j0 j1 j2 t3 u3 v3 t4 u4 v4 t5 u5 v5 t6 u6 v6, e = .returned (.agg #[.int .i64 j0, .string j1, .int .i64 j2, .slice t3 u3 v3, .slice t4 u4 v4, .slice t5 u5 v5, .slice t6 u6 v6]) ∧ ExVd (Ms (low X.heap.size) w') w'.heap.size d (TrN.alts t)[k].2 (.agg #[.int .i64 j0, .string j1, .int .i64 j2, .slice t3 u3 v3, .slice t4 u4 v4, .slice t5 u5 v5, .slice t6 u6 v6]) ∧ Below X.heap.size X w') := by
    intro k hk
    rcases k6 with h9 | ⟨g, off, e, hg, h9⟩
    · rw [h9] at hk; cases hk
    · have hm := hmem (fun a : AltH × Tr d => 4 * a.1.vars.length + wM d a.2) (TrN.alts t) k hk
      obtain ⟨x0, x1, x2, ⟨ov, cv, x3, x4⟩, x5⟩ := h9 k hk
      exact ⟨g, off, e, fun W hW => ⟨by have := hW.size; omega, (hsame W hW _ _ hg).trans x0, (hsame W hW _ _ hg).trans x1, (hsame W hW _ _ hg).trans x2, ⟨ov, cv, (hsame W hW _ _ hg).trans x3, fun X hX => texts_c _ _ _ B X (x4.same (hsame X hX)) (by have := hX.size; omega) (by omega)⟩, ld7 d _ _ _ (ExAt.same (hsame W hW) d _ _ _ x5), fun va hva X hX => ih _ va B X (ExVd.same16 (fun g off hg => by rw [hsame X hX g off hg, hsame W hW g off hg]) hva) (by have := hX.size; omega) (by omega)⟩⟩
  obtain ⟨n3, hn3⟩ : ∃ n, (TrN.params t).length = n := ⟨_, rfl⟩
  obtain ⟨nb, hnb⟩ : ∃ n, (TrN.binds t).length = n := ⟨_, rfl⟩
  obtain ⟨na, hna⟩ : ∃ n, (TrN.args t).length = n := ⟨_, rfl⟩
  obtain ⟨nl, hnl⟩ : ∃ n, (TrN.alts t).length = n := ⟨_, rfl⟩
  obtain ⟨em, hem⟩ : ∃ n, TrN.name t = n := ⟨_, rfl⟩
  obtain ⟨kd, hkd⟩ : ∃ n, TrN.kind t = n := ⟨_, rfl⟩
  obtain ⟨nu, hnu⟩ : ∃ n, TrN.num t = n := ⟨_, rfl⟩
  rw [hn3, hnb, hna, hnl, hem, hkd, hnu]
  obtain ⟨V, hV⟩ : ∃ V, (w.alloc (.cells #[.int .i64 kd, .string em, .int .i64 nu, .slice o3 n3 c3, .slice o4 nb c4, .slice o5 na c5, .slice o6 nl c6] 29)).alloc (.cells #[.int .i64 0, .string ⟨#[]⟩, .int .i64 0, .slice none 0 0, .slice none 0 0, .slice none 0 0, .slice none 0 0] 29) = V := ⟨_, rfl⟩
  have e1 : (w.alloc (.cells #[.int .i64 kd, .string em, .int .i64 nu, .slice o3 n3 c3, .slice o4 nb c4, .slice o5 na c5, .slice o6 nl c6] 29)).heap.size = w.heap.size + 1 := Array.size_push _
  have b1 := below1 w (.cells #[.int .i64 kd, .string em, .int .i64 nu, .slice o3 n3 c3, .slice o4 nb c4, .slice o5 na c5, .slice o6 nl c6] 29)
  have b2 := below1 (w.alloc (.cells #[.int .i64 kd, .string em, .int .i64 nu, .slice o3 n3 c3, .slice o4 nb c4, .slice o5 na c5, .slice o6 nl c6] 29)) (.cells #[.int .i64 0, .string ⟨#[]⟩, .int .i64 0, .slice none 0 0, .slice none 0 0, .slice none 0 0, .slice none 0 0] 29)
  have bV : Below w.heap.size w V := by rw [← hV]; exact b1.trans (b2.mono b1.size)
  have kA : Blk V w.heap.size #[.int .i64 kd, .string em, .int .i64 nu, .slice o3 n3 c3, .slice o4 nb c4, .slice o5 na c5, .slice o6 nl c6] 29 := by rw [← hV]; exact (Blk.new w _ _).below b2
  have kB : Blk V (w.heap.size + 1) #[.int .i64 0, .string ⟨#[]⟩, .int .i64 0, .slice none 0 0, .slice none 0 0, .slice none 0 0, .slice none 0 0] 29 := by rw [← hV, ← e1]; exact Blk.new _ _ _
  have hVs : V.heap.size = w.heap.size + 2 := by rw [← hV]; show (Array.push _ _).size = _; rw [Array.size_push, e1]
  obtain ⟨ab, hab⟩ : ∃ ab, w.heap.size = ab := ⟨_, rfl⟩
  obtain ⟨bb, hbb⟩ : ∃ bb, w.heap.size + 1 = bb := ⟨_, rfl⟩
  have HT0 := hTx V bV
  rw [hn3] at HT0
  have HT : Hid (Calls Tryd.prog 24 #[.slice o3 n3 c3] V fun e w' => ∃ o' c', e = .returned (.slice o' n3 c') ∧ TxIn (Ms (low V.heap.size) w') w'.heap.size o' (TrN.params t) ∧ Below V.heap.size V w') := HT0
  have HVe : Hid ((w.alloc (.cells #[.int .i64 kd, .string em, .int .i64 nu, .slice o3 n3 c3, .slice o4 nb c4, .slice o5 na c5, .slice o6 nl c6] 29)).alloc (.cells #[.int .i64 0, .string ⟨#[]⟩, .int .i64 0, .slice none 0 0, .slice none 0 0, .slice none 0 0, .slice none 0 0] 29) = V ∧ w.heap.size = ab ∧ w.heap.size + 1 = bb) := ⟨hV, hab, hbb⟩
  have HVf : Hid (Blk V ab #[.int .i64 kd, .string em, .int .i64 nu, .slice o3 n3 c3, .slice o4 nb c4, .slice o5 na c5, .slice o6 nl c6] 29 ∧ Blk V bb #[.int .i64 0, .string ⟨#[]⟩, .int .i64 0, .slice none 0 0, .slice none 0 0, .slice none 0 0, .slice none 0 0] 29 ∧ Below w.heap.size w V ∧ V.heap.size = w.heap.size + 2 ∧ w.heap.size = ab ∧ ab + 1 = bb) := ⟨by rw [← hab]; exact kA, by rw [← hbb]; exact kB, bV, hVs, hab, by rw [← hab]; exact hbb⟩
  obtain ⟨i4, hi4, hz4, hs4, hb4⟩ := info_parts16 infoBind16
  obtain ⟨i5, hi5, hz5, hs5, hb5⟩ := info_parts16 infoExpr16
  obtain ⟨i6, hi6, hz6, hs6, hb6⟩ := info_parts16 infoAlt16
  have hmk4 : ∀ W : World, (Instr.makeSlice 25 (.int .i64 0) (.int .i64 ((nb : Int) + 1))).run Tryd.prog W = .ok (.slice (some ⟨W.heap.size, 0, none⟩) 0 (nb + 1)) (W.alloc (.cells (madeCells #[.string ⟨#[]⟩, .int .i64 0, .string ⟨#[]⟩, .int .i64 0, .slice none 0 0, .slice none 0 0, .slice none 0 0, .slice none 0 0] ((nb + 1) * 8)) 56)) := by
    intro W
    have hr := run_make (P := Tryd.prog) W 25 56 i4 _ Tryd.underlying25 hi4 hz4 .i64 .i64 0 ((nb : Int) + 1) (by omega) (by omega) (by rw [hb4]; omega) (by omega)
    rw [hs4, show ((nb : Int) + 1).toNat = nb + 1 by omega] at hr
    exact hr
  have hmk5 : ∀ W : World, (Instr.makeSlice 26 (.int .i64 0) (.int .i64 ((na : Int) + 1))).run Tryd.prog W = .ok (.slice (some ⟨W.heap.size, 0, none⟩) 0 (na + 1)) (W.alloc (.cells (madeCells #[.int .i64 0, .string ⟨#[]⟩, .int .i64 0, .slice none 0 0, .slice none 0 0, .slice none 0 0, .slice none 0 0] ((na + 1) * 7)) 29)) := by
    intro W
    have hr := run_make (P := Tryd.prog) W 26 29 i5 _ Tryd.underlying26 hi5 hz5 .i64 .i64 0 ((na : Int) + 1) (by omega) (by omega) (by rw [hb5]; omega) (by omega)
    rw [hs5, show ((na : Int) + 1).toNat = na + 1 by omega] at hr
    exact hr
  have hmk6 : ∀ W : World, (Instr.makeSlice 27 (.int .i64 0) (.int .i64 ((nl : Int) + 1))).run Tryd.prog W = .ok (.slice (some ⟨W.heap.size, 0, none⟩) 0 (nl + 1)) (W.alloc (.cells (madeCells #[.int .i64 0, .string ⟨#[]⟩, .int .i64 0, .slice none 0 0, .int .i64 0, .string ⟨#[]⟩, .int .i64 0, .slice none 0 0, .slice none 0 0, .slice none 0 0, .slice none 0 0] ((nl + 1) * 11)) 52)) := by
    intro W
    have hr := run_make (P := Tryd.prog) W 27 52 i6 _ Tryd.underlying27 hi6 hz6 .i64 .i64 0 ((nl : Int) + 1) (by omega) (by omega) (by rw [hb6]; omega) (by omega)
    rw [hs6, show ((nl : Int) + 1).toNat = nl + 1 by omega] at hr
    exact hr
  have HMK : Hid ((∀ W : World, (Instr.makeSlice 25 (.int .i64 0) (.int .i64 ((nb : Int) + 1))).run Tryd.prog W = .ok (.slice (some ⟨W.heap.size, 0, none⟩) 0 (nb + 1)) (W.alloc (.cells (madeCells #[.string ⟨#[]⟩, .int .i64 0, .string ⟨#[]⟩, .int .i64 0, .slice none 0 0, .slice none 0 0, .slice none 0 0, .slice none 0 0] ((nb + 1) * 8)) 56))) ∧ (∀ W : World, (Instr.makeSlice 26 (.int .i64 0) (.int .i64 ((na : Int) + 1))).run Tryd.prog W = .ok (.slice (some ⟨W.heap.size, 0, none⟩) 0 (na + 1)) (W.alloc (.cells (madeCells #[.int .i64 0, .string ⟨#[]⟩, .int .i64 0, .slice none 0 0, .slice none 0 0, .slice none 0 0, .slice none 0 0] ((na + 1) * 7)) 29))) ∧ (∀ W : World, (Instr.makeSlice 27 (.int .i64 0) (.int .i64 ((nl : Int) + 1))).run Tryd.prog W = .ok (.slice (some ⟨W.heap.size, 0, none⟩) 0 (nl + 1)) (W.alloc (.cells (madeCells #[.int .i64 0, .string ⟨#[]⟩, .int .i64 0, .slice none 0 0, .int .i64 0, .string ⟨#[]⟩, .int .i64 0, .slice none 0 0, .slice none 0 0, .slice none 0 0, .slice none 0 0] ((nl + 1) * 11)) 52)))) := ⟨hmk4, hmk5, hmk6⟩
  have HN : Hid ((TrN.binds t).length = nb ∧ (TrN.args t).length = na ∧ (TrN.alts t).length = nl ∧ nb ≤ 2999999 ∧ na ≤ 2999999 ∧ nl ≤ 2999999) := ⟨hnb, hna, hnl, by omega, by omega, by omega⟩
  have hnbI : (nb : Int) ≤ 3000000 := by omega
  have hnaI : (na : Int) ≤ 3000000 := by omega
  have hnlI : (nl : Int) ≤ 3000000 := by omega
  have HEq : Hid ((TrN.params t).length = n3 ∧ TrN.name t = em ∧ TrN.kind t = kd ∧ TrN.num t = nu) := ⟨hn3, hem, hkd, hnu⟩
  obtain ⟨q0, q1, q2, q3, q4, q5, q6⟩ := kA.cells7
  rw [hab] at q0 q1 q2 q3 q4 q5 q6
  have qa := HVf.out.1.lt
  clear hB ht hM hmem lenP lenB lenA lenL hsame hTx k3 k4 k5 k6 hn3 hnb hna hnl hem hkd hnu e1 b1 b2 bV kA kB hVs HT0 hV hab hbb hi4 hz4 hs4 hb4 hi5 hz5 hs5 hb5 hi6 hz6 hs6 hb6 hmk4 hmk5 hmk6 ih
  go_enter Tryd.func12, Tryd.ntmps12
  go_upto_region 1 with fail
  rw [HVe.out.1, HVe.out.2.2, HVe.out.2.1]
  clear HVe
  go_upto_region 2 with (go_at_call 24; refine HT.out.mono ?_; rintro e y0 ⟨x3, y3, rfl, hT3, hb0⟩; have hBk := HVf.out.1.below hb0; have q3 := hBk.cell 3 _ rfl; have f3 := hBk.frozen 3; have qa := hBk.lt; have HT3 : Hid (TxIn (Ms (low V.heap.size) y0) y0.heap.size x3 (TrN.params t)) := hT3; have HB0 : Hid (Below V.heap.size V y0) := hb0; clear hT3 hb0 hBk)
  obtain ⟨WA, hWA⟩ : ∃ WA, y0.setCell ⟨ab, 3, none⟩ (.slice x3 n3 y3) = WA := ⟨_, rfl⟩
  have kWA : Blk WA ab #[.int .i64 kd, .string em, .int .i64 nu, .slice x3 n3 y3, .slice o4 nb c4, .slice o5 na c5, .slice o6 nl c6] 29 := by rw [← hWA]; exact (HVf.out.1.below HB0.out).set 3 _
  have kWB : Blk WA bb #[.int .i64 0, .string ⟨#[]⟩, .int .i64 0, .slice none 0 0, .slice none 0 0, .slice none 0 0, .slice none 0 0] 29 := by rw [← hWA]; unfold Blk; rw [Below.heap_setCell _ _ _ _ (by show bb ≠ ab; have := HVf.out.2.2.2.2.2; omega)]; exact HVf.out.2.1.below HB0.out
  have hszA : WA.heap.size = y0.heap.size := by rw [← hWA]; show (Array.modify _ _ _).size = _; rw [Array.size_modify]
  have hothA : ∀ g, g ≠ ab → WA.heap[g]? = y0.heap[g]? := fun g hg => by rw [← hWA]; exact Below.heap_setCell _ _ _ _ hg
  have bWA : Below w.heap.size w WA := by rw [← hWA]; exact (HVf.out.2.2.1.trans (HB0.out.mono HVf.out.2.2.1.size)).setCell (p := ⟨ab, 3, none⟩) (by show _ ≤ ab; have := HVf.out.2.2.2.2.1; omega) _
  have HA : Hid (Blk WA ab #[.int .i64 kd, .string em, .int .i64 nu, .slice x3 n3 y3, .slice o4 nb c4, .slice o5 na c5, .slice o6 nl c6] 29 ∧ Blk WA bb #[.int .i64 0, .string ⟨#[]⟩, .int .i64 0, .slice none 0 0, .slice none 0 0, .slice none 0 0, .slice none 0 0] 29 ∧ Below w.heap.size w WA ∧ TxIn (Ms (low (w.heap.size + 2)) WA) WA.heap.size x3 (TrN.params t) ∧ w.heap.size = ab ∧ ab + 1 = bb ∧ w.heap.size + 2 ≤ WA.heap.size) := by
    obtain ⟨z1, z2, z3, z4, z5, z6⟩ := HVf.out
    refine ⟨kWA, kWB, bWA, ?_, z5, z6, by have := HB0.out.size; omega⟩
    rw [← z4]
    exact Mv.txIn ⟨by omega, fun g hg hS => ⟨hothA g (by have := low_no.1 hS; omega), hS⟩⟩ HT3.out
  rw [hWA]
  clear kWA kWB hszA hothA bWA HT HVf HT3 HB0 hWA q0 q1 q2 q3 q4 q5 q6 qa f3
  obtain ⟨W1, hW1⟩ : ∃ W1, WA.alloc (.cells (madeCells #[.string ⟨#[]⟩, .int .i64 0, .string ⟨#[]⟩, .int .i64 0, .slice none 0 0, .slice none 0 0, .slice none 0 0, .slice none 0 0] ((nb + 1) * 8)) 56) = W1 := ⟨_, rfl⟩
  have HR0 : Hid (RwO 8 56 (GdB d) WA.heap.size W1 (some ⟨WA.heap.size, 0, none⟩) (nb + 1) []) := by rw [← hW1]; exact RwO.made (by rw [size_madeCells]) (by have := HN.out.2.2.2.1; omega)
  have HB1 : Hid (Below WA.heap.size WA W1) := by rw [← hW1]; exact below1 WA _
  have HW1 : Hid (WA.alloc (.cells (madeCells #[.string ⟨#[]⟩, .int .i64 0, .string ⟨#[]⟩, .int .i64 0, .slice none 0 0, .slice none 0 0, .slice none 0 0, .slice none 0 0] ((nb + 1) * 8)) 56) = W1) := hW1
  have hmk4 := HMK.out.1
  have q4 := HA.out.1.cell 4 _ rfl
  have qa := HA.out.1.lt
  clear hW1
  go_upto_region 3 with fail
  rw [HW1.out]
  clear hmk4 HW1 q4
  have q4 := (HA.out.1.below HB1.out).cell 4 _ rfl
  replace qa := (HA.out.1.below HB1.out).lt
  go_wp2
  clear q4 qa
  have HC : Hid (∀ X, Below WA.heap.size WA X → X.cell? ⟨ab, 0, none⟩ = some (.int .i64 kd) ∧ X.cell? ⟨ab, 1, none⟩ = some (.string em) ∧ X.cell? ⟨ab, 2, none⟩ = some (.int .i64 nu) ∧ X.cell? ⟨ab, 3, none⟩ = some (.slice x3 n3 y3) ∧ X.cell? ⟨ab, 4, none⟩ = some (.slice o4 nb c4) ∧ X.cell? ⟨ab, 5, none⟩ = some (.slice o5 na c5) ∧ X.cell? ⟨ab, 6, none⟩ = some (.slice o6 nl c6) ∧ ab < X.heap.size) := fun X h => by have k := HA.out.1.below h; exact ⟨k.cell 0 _ rfl, k.cell 1 _ rfl, k.cell 2 _ rfl, k.cell 3 _ rfl, k.cell 4 _ rfl, k.cell 5 _ rfl, k.cell 6 _ rfl, k.lt⟩
  have HUp : Hid (∀ X, Below WA.heap.size WA X → Below w.heap.size w X) := fun X h => HA.out.2.2.1.trans (h.mono HA.out.2.2.1.size)
  go_loopw [3, 4] (fun v i wr => ∃ (k : Nat) (L : List _) (ov : Option Addr) (cv : Nat), k ≤ nb ∧ v = .slice ov L.length cv ∧ i = .int .i64 k ∧ Hid (L = (TrN.binds t).take k) ∧ Hid (RwO 8 56 (GdB d) WA.heap.size wr ov cv L) ∧ Hid (Below WA.heap.size WA wr)) (fun _ i _ => nb - (intOf i).toNat)
  case atStart => exact ⟨0, [], _, _, Nat.zero_le _, rfl, rfl, rfl, HR0, HB1⟩
  case round =>
    clear HR0 HB1
    obtain ⟨k, L, ov, cv, hk, rfl, rfl, hL, hR, hS⟩ := hrel
    by_cases hkn : k < nb
    · have hkl : k < (TrN.binds t).length := by rw [HN.out.1]; exact hkn
      have hLl : L.length = k := by rw [hL.out, List.length_take, HN.out.1]; omega
      have hL1 : Hid (L ++ [(TrN.binds t)[k]] = (TrN.binds t).take (k + 1)) := by have : L ++ [(TrN.binds t)[k]] = (TrN.binds t).take (k + 1) := (by rw [hL.out, List.take_succ_eq_append_getElem hkl]); exact this
      have hk3 : Hid (L.length + 1 ≤ 3000000) := by have h : L.length + 1 ≤ 3000000 := (by have := HN.out.2.2.2; omega); exact h
      obtain ⟨g, off, rfl, hX⟩ := HBn.out k hkl
      obtain ⟨q0, q1, q2, q3, q4, q5, q6, ql⟩ := HC.out wr hS.out
      obtain ⟨hg, hy, hl, hcall⟩ := hX w (Below.refl _ _)
      obtain ⟨k0, k1, k2, p3, l3, m3, p4, l4, m4, p5, l5, m5, p6, l6, m6, z0, z1, z2, z3, z4, z5, z6, zv⟩ := hl
      have HCl : Hid (∀ X, Hid (Below WA.heap.size WA X) → Calls Tryd.prog 12 #[.agg #[.int .i64 k0, .string k1, .int .i64 k2, .slice p3 l3 m3, .slice p4 l4 m4, .slice p5 l5 m5, .slice p6 l6 m6]] X fun e w' => ∃ j0 j1 j2 t3 u3 v3 t4 u4 v4 t5 u5 v5 t6 u6 v6, e = .returned (.agg #[.int .i64 j0, .string j1, .int .i64 j2, .slice t3 u3 v3, .slice t4 u4 v4, .slice t5 u5 v5, .slice t6 u6 v6]) ∧ ExVd (Ms (low X.heap.size) w') w'.heap.size d (TrN.binds t)[k].2 (.agg #[.int .i64 j0, .string j1, .int .i64 j2, .slice t3 u3 v3, .slice t4 u4 v4, .slice t5 u5 v5, .slice t6 u6 v6]) ∧ Below X.heap.size X w') := fun X h => hcall _ zv X (HUp.out _ h.out)
      generalize (TrN.binds t)[k] = yx at hy HCl hL1
      obtain ⟨y, x⟩ := yx
      dsimp only at hy HCl
      have HKP : Hid (∀ X, Hid (Below WA.heap.size WA X) → Hid (Below WA.heap.size WA X) ∧ X.cell? ⟨ab, 4, none⟩ = some (.slice (some ⟨g, off, none⟩) nb c4) ∧ X.cell? ⟨g, off + k * 8, none⟩ = some (.string y) ∧ X.cell? ⟨g, off + k * 8 + 1, none⟩ = some (.int .i64 k0) ∧ X.cell? ⟨g, off + k * 8 + 1 + 1, none⟩ = some (.string k1) ∧ X.cell? ⟨g, off + k * 8 + 1 + 2, none⟩ = some (.int .i64 k2) ∧ X.cell? ⟨g, off + k * 8 + 1 + 3, none⟩ = some (.slice p3 l3 m3) ∧ X.cell? ⟨g, off + k * 8 + 1 + 4, none⟩ = some (.slice p4 l4 m4) ∧ X.cell? ⟨g, off + k * 8 + 1 + 5, none⟩ = some (.slice p5 l5 m5) ∧ X.cell? ⟨g, off + k * 8 + 1 + 6, none⟩ = some (.slice p6 l6 m6)) := fun X h => by
        obtain ⟨-, -, -, -, r4, -⟩ := HC.out X h.out
        have hc : ∀ off v, w.cell? ⟨g, off, none⟩ = some v → X.cell? ⟨g, off, none⟩ = some v := fun off v e => ((HUp.out _ h.out).cell (p := ⟨g, off, none⟩) hg).trans e
        exact ⟨h, r4, hc _ _ hy, hc _ _ z0, hc _ _ z1, hc _ _ z2, hc _ _ z3, hc _ _ z4, hc _ _ z5, hc _ _ z6⟩
      clear hX hcall zv hkl hL hLl
      have hS9 : Hid (Below WA.heap.size WA wr.drew) := hS.out.drew
      have hB9 : Hid (Below wr.heap.size wr wr.drew) := (Below.refl _ _).drew
      have hR9 : Hid (RwO 8 56 (GdB d) WA.heap.size wr.drew ov cv L) := RwO.below (mvB d) hR.out hB9.out
      go_upto_region 6 with fail
      refine wp_region_held_drew (S := fun X : World => Hid (Below WA.heap.size WA X) ∧ X.cell? ⟨ab, 4, none⟩ = some (.slice (some ⟨g, off, none⟩) nb c4) ∧ X.cell? ⟨g, off + k * 8, none⟩ = some (.string y) ∧ X.cell? ⟨g, off + k * 8 + 1, none⟩ = some (.int .i64 k0) ∧ X.cell? ⟨g, off + k * 8 + 1 + 1, none⟩ = some (.string k1) ∧ X.cell? ⟨g, off + k * 8 + 1 + 2, none⟩ = some (.int .i64 k2) ∧ X.cell? ⟨g, off + k * 8 + 1 + 3, none⟩ = some (.slice p3 l3 m3) ∧ X.cell? ⟨g, off + k * 8 + 1 + 4, none⟩ = some (.slice p4 l4 m4) ∧ X.cell? ⟨g, off + k * 8 + 1 + 5, none⟩ = some (.slice p5 l5 m5) ∧ X.cell? ⟨g, off + k * 8 + 1 + 6, none⟩ = some (.slice p6 l6 m6)) (by kernel_rfl) (HKP.out _ hS9) (fun hHeld => ?_)
      generalize wr.drew = x0 at hS9 hB9 hR9 hHeld ⊢
      clear hS hR q0 q1 q2 q3 q4 q5 q6 ql z0 z1 z2 z3 z4 z5 z6 hy
      refine wpAnyH_take (i := 0) (v := .slice ov L.length cv) rfl (by kernel_rfl) (by kernel_rfl) (by kernel_rfl) (fun _ _ _ h => h) (Or.inl ⟨by kernel_rfl, fun X hX => ?_⟩) (by assumption) ?_
      · clear hX; go_simp
      try simp only [Act.put, List.setIfInBounds_toArray]
      refine wpAnyH_take (i := 1) (v := .pointer (some ⟨ab, 4, none⟩)) rfl (by kernel_rfl) (by kernel_rfl) (by kernel_rfl) (fun _ _ _ h => h) (Or.inl ⟨by kernel_rfl, fun X hX => ?_⟩) (by assumption) ?_
      · clear hX; go_simp
      try simp only [Act.put]
      refine wpAnyH_take (i := 2) (v := .slice (some ⟨g, off, none⟩) nb c4) rfl (by kernel_rfl) (by kernel_rfl) (by kernel_rfl) (fun _ _ _ h => h) (Or.inl ⟨by kernel_rfl, fun X hX => ?_⟩) (by assumption) ?_
      · obtain ⟨-, q0, -, -, -, -, -, -, -, -⟩ := hX; go_simp
      try simp only [Act.put]
      refine wpAnyH_take (i := 3) (v := .int .i64 k) rfl (by kernel_rfl) (by kernel_rfl) (by kernel_rfl) (fun _ _ _ h => h) (Or.inl ⟨by kernel_rfl, fun X hX => ?_⟩) (by assumption) ?_
      · clear hX; go_simp
      try simp only [Act.put]
      refine wpAnyH_take (i := 4) (v := .pointer (some ⟨g, off + k * 8, none⟩)) rfl (by kernel_rfl) (by kernel_rfl) (by kernel_rfl) (fun _ _ _ h => h) (Or.inl ⟨by kernel_rfl, fun X hX => ?_⟩) (by assumption) ?_
      · clear hX; go_simp
      try simp only [Act.put]
      refine wpAnyH_take (i := 5) (v := .pointer (some ⟨g, off + k * 8, none⟩)) rfl (by kernel_rfl) (by kernel_rfl) (by kernel_rfl) (fun _ _ _ h => h) (Or.inl ⟨by kernel_rfl, fun X hX => ?_⟩) (by assumption) ?_
      · clear hX; go_simp
      try simp only [Act.put]
      refine wpAnyH_take (i := 6) (v := .string y) rfl (by kernel_rfl) (by kernel_rfl) (by kernel_rfl) (fun _ _ _ h => h) (Or.inl ⟨by kernel_rfl, fun X hX => ?_⟩) (by assumption) ?_
      · obtain ⟨-, -, q1, -, -, -, -, -, -, -⟩ := hX; go_simp
      try simp only [Act.put]
      refine wpAnyH_take (i := 7) (v := .pointer (some ⟨ab, 4, none⟩)) rfl (by kernel_rfl) (by kernel_rfl) (by kernel_rfl) (fun _ _ _ h => h) (Or.inl ⟨by kernel_rfl, fun X hX => ?_⟩) (by assumption) ?_
      · clear hX; go_simp
      try simp only [Act.put]
      refine wpAnyH_take (i := 8) (v := .slice (some ⟨g, off, none⟩) nb c4) rfl (by kernel_rfl) (by kernel_rfl) (by kernel_rfl) (fun _ _ _ h => h) (Or.inl ⟨by kernel_rfl, fun X hX => ?_⟩) (by assumption) ?_
      · obtain ⟨-, q0, -, -, -, -, -, -, -, -⟩ := hX; go_simp
      try simp only [Act.put]
      refine wpAnyH_take (i := 9) (v := .int .i64 k) rfl (by kernel_rfl) (by kernel_rfl) (by kernel_rfl) (fun _ _ _ h => h) (Or.inl ⟨by kernel_rfl, fun X hX => ?_⟩) (by assumption) ?_
      · clear hX; go_simp
      try simp only [Act.put]
      refine wpAnyH_take (i := 10) (v := .pointer (some ⟨g, off + k * 8, none⟩)) rfl (by kernel_rfl) (by kernel_rfl) (by kernel_rfl) (fun _ _ _ h => h) (Or.inl ⟨by kernel_rfl, fun X hX => ?_⟩) (by assumption) ?_
      · clear hX; go_simp
      try simp only [Act.put]
      refine wpAnyH_take (i := 11) (v := .pointer (some ⟨g, off + k * 8 + 1, none⟩)) rfl (by kernel_rfl) (by kernel_rfl) (by kernel_rfl) (fun _ _ _ h => h) (Or.inl ⟨by kernel_rfl, fun X hX => ?_⟩) (by assumption) ?_
      · clear hX; go_simp
      try simp only [Act.put]
      refine wpAnyH_take (i := 12) (v := .agg #[.int .i64 k0, .string k1, .int .i64 k2, .slice p3 l3 m3, .slice p4 l4 m4, .slice p5 l5 m5, .slice p6 l6 m6]) rfl (by kernel_rfl) (by kernel_rfl) (by kernel_rfl) (fun _ _ _ h => h) (Or.inl ⟨by kernel_rfl, fun X hX => ?_⟩) (by assumption) ?_
      · obtain ⟨-, -, -, q2, q3, q4, q5, q6, q7, q8⟩ := hX; go_simp
      try simp only [Act.put]
      refine wpAnyH_ready (rs := [13]) (by kernel_rfl) (by simp) ?_
      refine AllReadyH.cons (o := _) rfl (fun K hK => ?_) AllReadyH.nil
      go_simp
      go_at_call 12
      refine (HCl.out x0 hS9).mono ?_
      rintro e x1 ⟨j0, j1, j2, t3, u3, v3, t4, u4, v4, t5, u5, v5, t6, u6, v6, rfl, hE, hb⟩
      have hS1 : Hid (Below WA.heap.size WA x1) := hS9.out.trans (hb.mono hS9.out.size)
      have hB1 : Hid (Below wr.heap.size wr x1) := hB9.out.trans (hb.mono hB9.out.size)
      have hR1 : Hid (RwO 8 56 (GdB d) WA.heap.size x1 ov cv L) := RwO.below (mvB d) hR9.out hb
      have hrl : Hid (∀ g, Value.ownBlock (.slice ov 0 0) = some g → g < x0.heap.size) := fun g h => (RwO.lt hR9.out h).2
      have hE1 : Hid (ExVd (Ms (low x0.heap.size) x1) x1.heap.size d x (.agg #[.int .i64 j0, .string j1, .int .i64 j2, .slice t3 u3 v3, .slice t4 u4 v4, .slice t5 u5 v5, .slice t6 u6 v6])) := hE
      have hlo : Hid (WA.heap.size ≤ x0.heap.size) := hS9.out.size
      refine hK.out _ _ (HKP.out _ hS1) (fun hHeld1 => ?_)
      clear hK K hb hE hS9 hB9 hR9 hHeld HCl
      try simp only [Act.put, List.setIfInBounds_toArray, List.set_cons_zero, List.set_cons_succ]
      refine wpAnyH_take (i := 14) (v := .agg #[.string y, .int .i64 j0, .string j1, .int .i64 j2, .slice t3 u3 v3, .slice t4 u4 v4, .slice t5 u5 v5, .slice t6 u6 v6]) rfl (by kernel_rfl) (by kernel_rfl) (by kernel_rfl) (fun _ _ _ h => h) (Or.inl ⟨by kernel_rfl, fun X hX => ?_⟩) (by assumption) ?_
      · clear hX; go_simp
      try simp only [Act.put, List.setIfInBounds_toArray]
      refine wpAnyH_ready (rs := [15]) (by kernel_rfl) (by simp) ?_
      refine AllReadyH.cons (o := _) rfl (fun K hK => ?_) AllReadyH.nil
      go_simp
      have kB : Blk (x1.alloc (.cells #[.string y, .int .i64 j0, .string j1, .int .i64 j2, .slice t3 u3 v3, .slice t4 u4 v4, .slice t5 u5 v5, .slice t6 u6 v6] 56)) x1.heap.size #[.string y, .int .i64 j0, .string j1, .int .i64 j2, .slice t3 u3 v3, .slice t4 u4 v4, .slice t5 u5 v5, .slice t6 u6 v6] 56 := Blk.new _ _ _
      have hb2 : Below x1.heap.size x1 (x1.alloc (.cells #[.string y, .int .i64 j0, .string j1, .int .i64 j2, .slice t3 u3 v3, .slice t4 u4 v4, .slice t5 u5 v5, .slice t6 u6 v6] 56)) := below1 _ _
      generalize x1.alloc (.cells #[.string y, .int .i64 j0, .string j1, .int .i64 j2, .slice t3 u3 v3, .slice t4 u4 v4, .slice t5 u5 v5, .slice t6 u6 v6] 56) = x2 at kB hb2 ⊢
      have hS2 : Hid (Below WA.heap.size WA x2) := hS1.out.trans (hb2.mono hS1.out.size)
      have hB2 : Hid (Below wr.heap.size wr x2) := hB1.out.trans (hb2.mono hB1.out.size)
      have hR2 : Hid (RwO 8 56 (GdB d) WA.heap.size x2 ov cv L) := RwO.below (mvB d) hR1.out hb2
      have hE2 : Hid (ExVd (Ms (low x0.heap.size) x2) x2.heap.size d x (.agg #[.int .i64 j0, .string j1, .int .i64 j2, .slice t3 u3 v3, .slice t4 u4 v4, .slice t5 u5 v5, .slice t6 u6 v6])) := (Mv.below hb2).exV hE1.out
      refine hK.out _ _ (HKP.out _ hS2) (fun hHeld2 => ?_)
      clear hK K hb2 hS1 hB1 hR1 hE1 hHeld1
      generalize x1.heap.size = gB at kB ⊢
      try simp only [Act.put, List.setIfInBounds_toArray, List.set_cons_zero, List.set_cons_succ]
      refine wpAnyH_ready (rs := [16]) (by kernel_rfl) (by simp) ?_
      refine AllReadyH.cons (o := _) rfl (fun K hK => ?_) AllReadyH.nil
      rw [if_pos (by kernel_rfl)]
      refine app_ro Tryd.underlying25 infoBind16 rfl (by decide) (by decide) (mvB d) (.tmp 26) (.tmp 41) rfl WA.heap.size x0.heap.size gB L (y, x) ov cv #[.string y, .int .i64 j0, .string j1, .int .i64 j2, .slice t3 u3 v3, .slice t4 u4 v4, .slice t5 u5 v5, .slice t6 u6 v6] (by rfl) (by rfl) hR2.out kB rfl (one8 _ _ _ _ _ _ _ _ _ _ _ _ _ _ _ _) ⟨rfl, j0, j1, j2, t3, u3, v3, t4, u4, v4, t5, u5, v5, t6, u6, v6, rfl, rfl, rfl, rfl, rfl, rfl, rfl, hE2.out⟩ hlo.out hrl.out hS2.out.size hk3.out (fun o' c' x3' hown hgr => ?_)
      have hS3 : Hid (Below WA.heap.size WA x3') := hS2.out.grown hgr hS2.out.size (fun g e => (RwO.lt hR2.out e).1)
      have hR3 : Hid (RwO 8 56 (GdB d) WA.heap.size x3' o' c' (L ++ [(y, x)])) := hown
      have hB3 : Hid (Below wr.heap.size wr x3' ∨ True) := Or.inr trivial
      refine hK.out _ _ (HKP.out _ hS3) (fun hHeld3 => ?_)
      clear hK K hS2 hB2 hR2 hE2 hHeld2 hown hgr kB hB3
      try simp only [Act.put, List.setIfInBounds_toArray]
      refine wpAnyH_take (i := 17) (v := .slice o' (L ++ [(y, x)]).length c') rfl (by kernel_rfl) (by kernel_rfl) (by kernel_rfl) (fun _ _ _ h => h) (Or.inl ⟨by kernel_rfl, fun X hX => ?_⟩) (by assumption) ?_
      · clear hX; go_simp
      try simp only [Act.put, List.getElem_toArray, List.getElem_cons_succ, List.getElem_cons_zero, List.setIfInBounds_toArray, List.set_cons_zero, List.set_cons_succ]
      refine wpAnyH_done (by kernel_rfl) ?_ _
      clear HKP hHeld3 hrl hlo hg
      go_wp2
      go_roundw
      case rel => exact ⟨k + 1, _, o', c', hkn, rfl, by go_num, hL1, hR3, hS3⟩
      case measure => simp [intOf]; omega
    · have hke : nb = k := by omega
      have hLe : L = TrN.binds t := by rw [hL.out, ← hke, ← HN.out.1]; exact List.take_length
      subst hLe
      have HD0 : Hid (RwO 8 56 (GdB d) WA.heap.size wr ov cv (TrN.binds t)) := hR.out
      have hS9 : Hid (Below WA.heap.size WA wr) := hS.out
      clear hS hR hL
      subst hke
      clear hk hkn
      obtain ⟨WB, hw⟩ : ∃ x, x = wr := ⟨_, rfl⟩
      subst hw
      obtain ⟨ov4, hw⟩ : ∃ x, x = ov := ⟨_, rfl⟩
      subst hw
      obtain ⟨cv4, hw⟩ : ∃ x, x = cv := ⟨_, rfl⟩
      subst hw
      have HBu : Hid (∀ X, Below WB.heap.size WB X → Below WA.heap.size WA X) := fun X h => hS9.out.trans (h.mono hS9.out.size)
      have HFB : Hid (WA.heap.size ≤ WB.heap.size) := hS9.out.size
      clear hS9
      obtain ⟨W1', hW1⟩ : ∃ W1, WB.alloc (.cells (madeCells #[.int .i64 0, .string ⟨#[]⟩, .int .i64 0, .slice none 0 0, .slice none 0 0, .slice none 0 0, .slice none 0 0] ((na + 1) * 7)) 29) = W1 := ⟨_, rfl⟩
      have HR1 : Hid (RwO 7 29 (GdE d) WB.heap.size W1' (some ⟨WB.heap.size, 0, none⟩) (na + 1) []) := by rw [← hW1]; exact RwO.made (by rw [size_madeCells]) (by have := HN.out.2.2.2.2.1; omega)
      have HB2 : Hid (Below WB.heap.size WB W1') := by rw [← hW1]; exact below1 WB _
      have HW1 : Hid (WB.alloc (.cells (madeCells #[.int .i64 0, .string ⟨#[]⟩, .int .i64 0, .slice none 0 0, .slice none 0 0, .slice none 0 0, .slice none 0 0] ((na + 1) * 7)) 29) = W1') := hW1
      have hmk5 := HMK.out.2.1
      obtain ⟨q0, q1, q2, q3, q4, q5, q6, ql⟩ := HC.out WB (HBu.out _ (Below.refl _ _))
      clear hW1
      go_upto_region 8 with fail
      rw [HW1.out]
      clear hmk5 HW1 q0 q1 q2 q3 q4 q5 q6 ql
      obtain ⟨q0, q1, q2, q3, q4, q5, q6, ql⟩ := HC.out W1' (HBu.out _ HB2.out)
      go_wp2
      clear q0 q1 q2 q3 q4 q5 q6 ql
      go_loopw [5, 6] (fun v i wr => ∃ (k : Nat) (L : List _) (ov : Option Addr) (cv : Nat), k ≤ na ∧ v = .slice ov L.length cv ∧ i = .int .i64 k ∧ Hid (L = (TrN.args t).take k) ∧ Hid (RwO 7 29 (GdE d) WB.heap.size wr ov cv L) ∧ Hid (Below WB.heap.size WB wr)) (fun _ i _ => na - (intOf i).toNat)
      case atStart => exact ⟨0, [], _, _, Nat.zero_le _, rfl, rfl, rfl, HR1, HB2⟩
      case round =>
        clear HR1 HB2
        obtain ⟨k, L, ov, cv, hk, rfl, rfl, hL, hR, hS⟩ := hrel
        by_cases hkn : k < na
        · have hkl : k < (TrN.args t).length := by rw [HN.out.2.1]; exact hkn
          have hLl : L.length = k := by rw [hL.out, List.length_take, HN.out.2.1]; omega
          have hL1 : Hid (L ++ [(TrN.args t)[k]] = (TrN.args t).take (k + 1)) := by have : L ++ [(TrN.args t)[k]] = (TrN.args t).take (k + 1) := (by rw [hL.out, List.take_succ_eq_append_getElem hkl]); exact this
          have hk3 : Hid (L.length + 1 ≤ 3000000) := by have h : L.length + 1 ≤ 3000000 := (by have := HN.out.2.2.2; omega); exact h
          obtain ⟨g, off, rfl, hX⟩ := HAr.out k hkl
          obtain ⟨q0, q1, q2, q3, q4, q5, q6, ql⟩ := HC.out wr (HBu.out _ hS.out)
          obtain ⟨hg, hl, hcall⟩ := hX wr (HUp.out _ (HBu.out _ hS.out))
          obtain ⟨k0, k1, k2, p3, l3, m3, p4, l4, m4, p5, l5, m5, p6, l6, m6, z0, z1, z2, z3, z4, z5, z6, zv⟩ := hl
          have HCl : Hid (Calls Tryd.prog 12 #[.agg #[.int .i64 k0, .string k1, .int .i64 k2, .slice p3 l3 m3, .slice p4 l4 m4, .slice p5 l5 m5, .slice p6 l6 m6]] wr fun e w' => ∃ j0 j1 j2 t3 u3 v3 t4 u4 v4 t5 u5 v5 t6 u6 v6, e = .returned (.agg #[.int .i64 j0, .string j1, .int .i64 j2, .slice t3 u3 v3, .slice t4 u4 v4, .slice t5 u5 v5, .slice t6 u6 v6]) ∧ ExVd (Ms (low wr.heap.size) w') w'.heap.size d (TrN.args t)[k] (.agg #[.int .i64 j0, .string j1, .int .i64 j2, .slice t3 u3 v3, .slice t4 u4 v4, .slice t5 u5 v5, .slice t6 u6 v6]) ∧ Below wr.heap.size wr w') := hcall _ zv wr (HUp.out _ (HBu.out _ hS.out))
          generalize (TrN.args t)[k] = x at HCl hL1
          clear hX hcall zv hkl hL hLl
          go_wp2_with (go_at_call 12; fail)
          clear q0 q1 q2 q3 q4 q5 q6 ql z0 z1 z2 z3 z4 z5 z6 hg
          refine HCl.out.mono ?_
          rintro e x1 ⟨j0, j1, j2, t3, u3, v3, t4, u4, v4, t5, u5, v5, t6, u6, v6, rfl, hE, hb⟩
          obtain ⟨x2, hx2⟩ : ∃ x2, x1.alloc (.cells #[.int .i64 j0, .string j1, .int .i64 j2, .slice t3 u3 v3, .slice t4 u4 v4, .slice t5 u5 v5, .slice t6 u6 v6] 29) = x2 := ⟨_, rfl⟩
          have HX2 : Hid (x1.alloc (.cells #[.int .i64 j0, .string j1, .int .i64 j2, .slice t3 u3 v3, .slice t4 u4 v4, .slice t5 u5 v5, .slice t6 u6 v6] 29) = x2) := hx2
          have kB : Hid (Blk x2 x1.heap.size #[.int .i64 j0, .string j1, .int .i64 j2, .slice t3 u3 v3, .slice t4 u4 v4, .slice t5 u5 v5, .slice t6 u6 v6] 29) := by rw [← hx2]; exact Blk.new _ _ _
          have hb2 : Below x1.heap.size x1 x2 := by rw [← hx2]; exact below1 _ _
          have hB2 : Below wr.heap.size wr x2 := hb.trans (hb2.mono hb.size)
          have hS2 : Hid (Below WB.heap.size WB x2) := hS.out.trans (hB2.mono hS.out.size)
          have hR2 : Hid (RwO 7 29 (GdE d) WB.heap.size x2 ov cv L) := RwO.below (mvE d) hR.out hB2
          have hE2 : Hid (ExVd (Ms (low wr.heap.size) x2) x2.heap.size d x (.agg #[.int .i64 j0, .string j1, .int .i64 j2, .slice t3 u3 v3, .slice t4 u4 v4, .slice t5 u5 v5, .slice t6 u6 v6])) := (Mv.below hb2).exV hE
          have hrl : Hid (∀ g, Value.ownBlock (.slice ov 0 0) = some g → g < wr.heap.size) := fun g h => (RwO.lt hR.out h).2
          have hlo : Hid (WB.heap.size ≤ wr.heap.size) := hS.out.size
          clear hS hR HCl hE hb hb2 hB2 hx2
          go_wp2_with (at_builtin; rw [HX2.out]; refine appL_ro Tryd.underlying26 infoExpr16 rfl (by decide) (by decide) (mvE d) rfl _ _ rfl WB.heap.size wr.heap.size x1.heap.size L x ov cv #[.int .i64 j0, .string j1, .int .i64 j2, .slice t3 u3 v3, .slice t4 u4 v4, .slice t5 u5 v5, .slice t6 u6 v6] rfl rfl hR2.out kB.out rfl (one7' _ _ _ _ _ _ _ _ _ _ _ _ _ _ _) ⟨j0, j1, j2, t3, u3, v3, t4, u4, v4, t5, u5, v5, t6, u6, v6, rfl, rfl, rfl, rfl, rfl, rfl, rfl, hE2.out⟩ hlo.out hrl.out hS2.out.size hk3.out (fun o' c' y9 hown hgr => ?_); have hS3 : Hid (Below WB.heap.size WB y9) := hS2.out.grown hgr hS2.out.size (fun g e => (RwO.lt hR2.out e).1); have hR3 : Hid (RwO 7 29 (GdE d) WB.heap.size y9 o' c' (L ++ [x])) := hown; clear hown hgr)
          go_roundw
          case rel => exact ⟨k + 1, _, o', c', hkn, by rw [List.length_append]; rfl, by go_num, hL1, hR3, hS3⟩
          case measure => simp [intOf]; omega
        · have hke : na = k := by omega
          have hLe : L = TrN.args t := by rw [hL.out, ← hke, ← HN.out.2.1]; exact List.take_length
          subst hLe
          have HD1 : Hid (RwO 7 29 (GdE d) WB.heap.size wr ov cv (TrN.args t)) := hR.out
          have hS9 : Hid (Below WB.heap.size WB wr) := hS.out
          clear hS hR hL
          subst hke
          clear hk hkn
          obtain ⟨WC, hw⟩ : ∃ x, x = wr := ⟨_, rfl⟩
          subst hw
          obtain ⟨ov5, hw⟩ : ∃ x, x = ov := ⟨_, rfl⟩
          subst hw
          obtain ⟨cv5, hw⟩ : ∃ x, x = cv := ⟨_, rfl⟩
          subst hw
          have HCu : Hid (∀ X, Below WC.heap.size WC X → Below WA.heap.size WA X) := fun X h => HBu.out X (hS9.out.trans (h.mono hS9.out.size))
          have HCb : Hid (∀ X, Below WC.heap.size WC X → Below WB.heap.size WB X) := fun X h => hS9.out.trans (h.mono hS9.out.size)
          have HFC : Hid (WB.heap.size ≤ WC.heap.size) := hS9.out.size
          clear hS9
          obtain ⟨W1', hW1⟩ : ∃ W1, WC.alloc (.cells (madeCells #[.int .i64 0, .string ⟨#[]⟩, .int .i64 0, .slice none 0 0, .int .i64 0, .string ⟨#[]⟩, .int .i64 0, .slice none 0 0, .slice none 0 0, .slice none 0 0, .slice none 0 0] ((nl + 1) * 11)) 52) = W1 := ⟨_, rfl⟩
          have HR2 : Hid (RwO 11 52 (GdA d) WC.heap.size W1' (some ⟨WC.heap.size, 0, none⟩) (nl + 1) []) := by rw [← hW1]; exact RwO.made (by rw [size_madeCells]) (by have := HN.out.2.2.2.2.2; omega)
          have HB3 : Hid (Below WC.heap.size WC W1') := by rw [← hW1]; exact below1 WC _
          have HW1 : Hid (WC.alloc (.cells (madeCells #[.int .i64 0, .string ⟨#[]⟩, .int .i64 0, .slice none 0 0, .int .i64 0, .string ⟨#[]⟩, .int .i64 0, .slice none 0 0, .slice none 0 0, .slice none 0 0, .slice none 0 0] ((nl + 1) * 11)) 52) = W1') := hW1
          have hmk6 := HMK.out.2.2
          obtain ⟨q0, q1, q2, q3, q4, q5, q6, ql⟩ := HC.out WC (HCu.out _ (Below.refl _ _))
          clear hW1
          go_upto_region 13 with fail
          rw [HW1.out]
          clear hmk6 HW1 q0 q1 q2 q3 q4 q5 q6 ql
          obtain ⟨q0, q1, q2, q3, q4, q5, q6, ql⟩ := HC.out W1' (HCu.out _ HB3.out)
          go_wp2
          clear q0 q1 q2 q3 q4 q5 q6 ql
          go_loopw [7, 8] (fun v i wr => ∃ (k : Nat) (L : List _) (ov : Option Addr) (cv : Nat), k ≤ nl ∧ v = .slice ov L.length cv ∧ i = .int .i64 k ∧ Hid (L = (TrN.alts t).take k) ∧ Hid (RwO 11 52 (GdA d) WC.heap.size wr ov cv L) ∧ Hid (Below WC.heap.size WC wr)) (fun _ i _ => nl - (intOf i).toNat)
          case atStart => exact ⟨0, [], _, _, Nat.zero_le _, rfl, rfl, rfl, HR2, HB3⟩
          case round =>
            clear HR2 HB3
            obtain ⟨k, L, ov, cv, hk, rfl, rfl, hL, hR, hS⟩ := hrel
            by_cases hkn : k < nl
            · have hkl : k < (TrN.alts t).length := by rw [HN.out.2.2.1]; exact hkn
              have hLl : L.length = k := by rw [hL.out, List.length_take, HN.out.2.2.1]; omega
              have hL1 : Hid (L ++ [(TrN.alts t)[k]] = (TrN.alts t).take (k + 1)) := by have : L ++ [(TrN.alts t)[k]] = (TrN.alts t).take (k + 1) := (by rw [hL.out, List.take_succ_eq_append_getElem hkl]); exact this
              have hk3 : Hid (L.length + 1 ≤ 3000000) := by have h : L.length + 1 ≤ 3000000 := (by have := HN.out.2.2.2; omega); exact h
              obtain ⟨g, off, rfl, hX⟩ := HAl.out k hkl
              obtain ⟨q0, q1, q2, q3, q4, q5, q6, ql⟩ := HC.out wr (HCu.out _ hS.out)
              obtain ⟨hg, b0, b1, b2, ⟨ov3, cv3, b3, htx⟩, hl, hcall⟩ := hX wr (HUp.out _ (HCu.out _ hS.out))
              obtain ⟨k0, k1, k2, p3, l3, m3, p4, l4, m4, p5, l5, m5, p6, l6, m6, z0, z1, z2, z3, z4, z5, z6, zv⟩ := hl
              have HCl : Hid (∀ X, Below w.heap.size w X → Calls Tryd.prog 12 #[.agg #[.int .i64 k0, .string k1, .int .i64 k2, .slice p3 l3 m3, .slice p4 l4 m4, .slice p5 l5 m5, .slice p6 l6 m6]] X fun e w' => ∃ j0 j1 j2 t3 u3 v3 t4 u4 v4 t5 u5 v5 t6 u6 v6, e = .returned (.agg #[.int .i64 j0, .string j1, .int .i64 j2, .slice t3 u3 v3, .slice t4 u4 v4, .slice t5 u5 v5, .slice t6 u6 v6]) ∧ ExVd (Ms (low X.heap.size) w') w'.heap.size d (TrN.alts t)[k].2 (.agg #[.int .i64 j0, .string j1, .int .i64 j2, .slice t3 u3 v3, .slice t4 u4 v4, .slice t5 u5 v5, .slice t6 u6 v6]) ∧ Below X.heap.size X w') := hcall _ zv
              have HTl : Hid (∀ X, Below w.heap.size w X → Calls Tryd.prog 24 #[.slice ov3 (TrN.alts t)[k].1.vars.length cv3] X fun e w' => ∃ o' c', e = .returned (.slice o' (TrN.alts t)[k].1.vars.length c') ∧ TxIn (Ms (low X.heap.size) w') w'.heap.size o' (TrN.alts t)[k].1.vars ∧ Below X.heap.size X w') := htx
              generalize (TrN.alts t)[k] = at9 at b0 b1 b2 b3 HCl HTl hL1
              obtain ⟨⟨ak, an, au, vs⟩, te⟩ := at9
              dsimp only at b0 b1 b2 b3 HCl HTl
              clear hX hcall htx zv hkl hL hLl
              go_upto_region 17 with fail
              obtain ⟨V2, hV2⟩ : ∃ V2, wr.alloc (.cells #[.int .i64 ak, .string an, .int .i64 au, .slice ov3 vs.length cv3, .int .i64 k0, .string k1, .int .i64 k2, .slice p3 l3 m3, .slice p4 l4 m4, .slice p5 l5 m5, .slice p6 l6 m6] 52) = V2 := ⟨_, rfl⟩
              have kV2 : Blk V2 wr.heap.size #[.int .i64 ak, .string an, .int .i64 au, .slice ov3 vs.length cv3, .int .i64 k0, .string k1, .int .i64 k2, .slice p3 l3 m3, .slice p4 l4 m4, .slice p5 l5 m5, .slice p6 l6 m6] 52 := by rw [← hV2]; exact Blk.new wr _ _
              have bV2 : Hid (Below wr.heap.size wr V2) := by rw [← hV2]; exact below1 wr _
              rw [hV2]
              clear hV2 q0 q1 q2 q3 q4 q5 q6 ql z0 z1 z2 z3 z4 z5 z6 b0 b1 b2 b3 hg
              obtain ⟨ba, hba⟩ : ∃ ba, wr.heap.size = ba := ⟨_, rfl⟩
              have HBa : Hid (wr.heap.size = ba) := hba
              rw [hba] at kV2 bV2 ⊢
              have HUw : Hid (∀ X, Below ba wr X → Below w.heap.size w X) := fun X h => (HUp.out _ (HCu.out _ hS.out)).trans (h.mono (by rw [← hba]; exact (HUp.out _ (HCu.out _ hS.out)).size))
              clear hba
              have hdS : Hid (Below ba wr V2.drew) := bV2.out.drew
              have hdK : Blk V2.drew ba #[.int .i64 ak, .string an, .int .i64 au, .slice ov3 vs.length cv3, .int .i64 k0, .string k1, .int .i64 k2, .slice p3 l3 m3, .slice p4 l4 m4, .slice p5 l5 m5, .slice p6 l6 m6] 52 := kV2
              go_cut [9] from 69 to 92 (fun v9 wx => ∃ x9 y9 j0 j1 j2 t3 u3 v3 t4 u4 v4 t5 u5 v5 t6 u6 v6, v9 = .pointer (some ⟨ba, 0, none⟩) ∧ Hid (Below ba wr wx ∧ Blk wx ba #[.int .i64 ak, .string an, .int .i64 au, .slice x9 vs.length y9, .int .i64 j0, .string j1, .int .i64 j2, .slice t3 u3 v3, .slice t4 u4 v4, .slice t5 u5 v5, .slice t6 u6 v6] 52 ∧ TxIn (Ms (low (ba + 1)) wx) wx.heap.size x9 vs ∧ ExVd (Ms (low (ba + 1)) wx) wx.heap.size d te (.agg #[.int .i64 j0, .string j1, .int .i64 j2, .slice t3 u3 v3, .slice t4 u4 v4, .slice t5 u5 v5, .slice t6 u6 v6])))
              case first =>
                refine wp_region_held_drew (S := fun X : World => Hid (Below ba wr X)) (by kernel_rfl) hdS (fun hHeld => ?_)
                generalize V2.drew = x0 at hdS hdK hHeld ⊢
                clear kV2 bV2
                refine wpAnyH_take (i := 0) (v := .pointer (some ⟨ba, 3, none⟩)) rfl (by kernel_rfl) (by kernel_rfl) (by kernel_rfl) (fun _ _ _ h => h) (Or.inl ⟨by kernel_rfl, fun X hX => ?_⟩) (by assumption) ?_
                · clear hX; go_simp
                try simp only [Act.put, List.setIfInBounds_toArray]
                refine wpAnyH_take (i := 3) (v := .pointer (some ⟨ba, 4, none⟩)) rfl (by kernel_rfl) (by kernel_rfl) (by kernel_rfl) (fun _ _ _ h => h) (Or.inl ⟨by kernel_rfl, fun X hX => ?_⟩) (by assumption) ?_
                · clear hX; go_simp
                try simp only [Act.put]
                refine wpAnyH_ready (rs := [1, 4]) (by kernel_rfl) (by simp) ?_
                refine AllReadyH.cons (o := _) rfl (fun K hK => ?_) (AllReadyH.cons (o := _) rfl (fun K hK => ?_) AllReadyH.nil)
                · have c3 := hdK.cell 3 _ rfl
                  have cl := hdK.lt
                  go_simp
                  refine hK.out _ _ hdS (fun hHeld' => ?_)
                  clear hK K hHeld cl c3
                  have hHeld := hHeld'; clear hHeld'
                  try simp only [Act.put, List.setIfInBounds_toArray, List.set_cons_zero, List.set_cons_succ]
                  refine wpAnyH_ready (rs := [2, 4]) (by kernel_rfl) (by simp) ?_
                  refine AllReadyH.cons (o := _) rfl (fun K hK => ?_) (AllReadyH.cons (o := _) rfl (fun K hK => ?_) AllReadyH.nil)
                  · go_simp
                    go_at_call 24
                    refine (HTl.out x0 (HUw.out _ hdS.out)).mono ?_
                    rintro e x2a ⟨x9, y9, rfl, hT, hb⟩
                    have hlt := hdK.lt
                    have hT9 : Hid (TxIn (Ms (low (ba + 1)) x2a) x2a.heap.size x9 vs) := Mv.txIn (Mv.less (fun g hg => low_no.2 (by have := low_no.1 hg; omega))) hT
                    have hdS' : Hid (Below ba wr x2a) := hdS.out.trans (hb.mono (by omega))
                    have hdK' : Blk x2a ba #[.int .i64 ak, .string an, .int .i64 au, .slice ov3 vs.length cv3, .int .i64 k0, .string k1, .int .i64 k2, .slice p3 l3 m3, .slice p4 l4 m4, .slice p5 l5 m5, .slice p6 l6 m6] 52 := hdK.below hb
                    refine hK.out _ _ hdS' (fun hHeld' => ?_)
                    clear hK K hHeld hT hb hdS hdK hlt
                    have hHeld := hHeld'; clear hHeld'; have hdS := hdS'; clear hdS'; have hdK := hdK'; clear hdK'
                    try simp only [Act.put, List.setIfInBounds_toArray, List.set_cons_zero, List.set_cons_succ]
                    refine wpAnyH_ready (rs := [4]) (by kernel_rfl) (by simp) ?_
                    refine AllReadyH.cons (o := _) rfl (fun K hK => ?_) AllReadyH.nil
                    have c4 := hdK.cell 4 _ rfl
                    have c5 := hdK.cell 5 _ rfl
                    have c6 := hdK.cell 6 _ rfl
                    have c7 := hdK.cell 7 _ rfl
                    have c8 := hdK.cell 8 _ rfl
                    have c9 := hdK.cell 9 _ rfl
                    have c10 := hdK.cell 10 _ rfl
                    have cl := hdK.lt
                    go_simp
                    refine hK.out _ _ hdS (fun hHeld' => ?_)
                    clear hK K hHeld cl c4 c5 c6 c7 c8 c9 c10
                    have hHeld := hHeld'; clear hHeld'
                    try simp only [Act.put, List.setIfInBounds_toArray, List.set_cons_zero, List.set_cons_succ]
                    have hHeldT := hHeld
                    refine wpAnyH_take (i := 6) (v := .pointer (some ⟨ba, 3, none⟩)) rfl (by kernel_rfl) (by kernel_rfl) (by kernel_rfl) (fun _ _ _ h => h) (Or.inl ⟨by kernel_rfl, fun X hX => ?_⟩) (by assumption) ?_
                    · clear hX; go_simp
                    try simp only [Act.put, List.setIfInBounds_toArray]
                    clear hHeldT
                    refine wpAnyH_ready (rs := [5]) (by kernel_rfl) (by simp) ?_
                    refine AllReadyH.cons (o := _) rfl (fun K hK => ?_) AllReadyH.nil
                    go_simp
                    go_at_call 12
                    refine (HCl.out x2a (HUw.out _ hdS.out)).mono ?_
                    rintro e x4a ⟨j0, j1, j2, t3, u3, v3, t4, u4, v4, t5, u5, v5, t6, u6, v6, rfl, hE, hb⟩
                    have hlt := hdK.lt
                    have hT9' : Hid (TxIn (Ms (low (ba + 1)) x4a) x4a.heap.size x9 vs) := (Mv.below hb).txIn hT9.out
                    have hE9 : Hid (ExVd (Ms (low (ba + 1)) x4a) x4a.heap.size d te (.agg #[.int .i64 j0, .string j1, .int .i64 j2, .slice t3 u3 v3, .slice t4 u4 v4, .slice t5 u5 v5, .slice t6 u6 v6])) := Mv.exV (Mv.less (fun g hg => low_no.2 (by have := low_no.1 hg; omega))) hE
                    have hdS' : Hid (Below ba wr x4a) := hdS.out.trans (hb.mono (by omega))
                    have hdK' : Blk x4a ba #[.int .i64 ak, .string an, .int .i64 au, .slice ov3 vs.length cv3, .int .i64 k0, .string k1, .int .i64 k2, .slice p3 l3 m3, .slice p4 l4 m4, .slice p5 l5 m5, .slice p6 l6 m6] 52 := hdK.below hb
                    refine hK.out _ _ hdS' (fun hHeld' => ?_)
                    clear hK K hHeld hE hb hdS hdK hT9 hlt
                    have hHeld := hHeld'; clear hHeld'; have hdS := hdS'; clear hdS'; have hdK := hdK'; clear hdK'; have hT9 := hT9'; clear hT9'
                    try simp only [Act.put, List.setIfInBounds_toArray, List.set_cons_zero, List.set_cons_succ]
                    refine wpAnyH_ready (rs := [7]) (by kernel_rfl) (by simp) ?_
                    refine AllReadyH.cons (o := _) rfl (fun K hK => ?_) AllReadyH.nil
                    have c3 := hdK.cell 3 _ rfl
                    have cl := hdK.lt
                    have cf := hdK.frozen 3
                    go_simp
                    obtain ⟨x5a, hnx⟩ : ∃ X, x4a.setCell ⟨ba, 3, none⟩ (.slice x9 vs.length y9) = X := ⟨_, rfl⟩
                    rw [hnx]
                    have hmv : Mv (low (ba + 1)) x4a (low (ba + 1)) x5a := by rw [← hnx]; exact ⟨by show _ ≤ (Array.modify _ _ _).size; rw [Array.size_modify]; exact Nat.le_refl _, fun g hg hS => ⟨Below.heap_setCell _ _ _ _ (by have := low_no.1 hS; show g ≠ ba; omega), hS⟩⟩
                    have hdS' : Hid (Below ba wr x5a) := by rw [← hnx]; exact hdS.out.setCell (p := ⟨ba, 3, none⟩) (Nat.le_refl _) _
                    have hdK' : Blk x5a ba #[.int .i64 ak, .string an, .int .i64 au, .slice x9 vs.length y9, .int .i64 k0, .string k1, .int .i64 k2, .slice p3 l3 m3, .slice p4 l4 m4, .slice p5 l5 m5, .slice p6 l6 m6] 52 := by rw [← hnx]; exact hdK.set 3 _
                    have hT9' : Hid (TxIn (Ms (low (ba + 1)) x5a) x5a.heap.size x9 vs) := hmv.txIn hT9.out
                    have hE9' : Hid (ExVd (Ms (low (ba + 1)) x5a) x5a.heap.size d te (.agg #[.int .i64 j0, .string j1, .int .i64 j2, .slice t3 u3 v3, .slice t4 u4 v4, .slice t5 u5 v5, .slice t6 u6 v6])) := hmv.exV hE9.out
                    refine hK.out _ _ hdS' (fun hHeld' => ?_)
                    clear hK K hHeld hdS hdK hT9 hE9 hmv hnx c3 cl cf
                    have hHeld := hHeld'; clear hHeld'; have hdS := hdS'; clear hdS'; have hdK := hdK'; clear hdK'; have hT9 := hT9'; clear hT9'; have hE9 := hE9'; clear hE9'
                    try simp only [Act.put, List.setIfInBounds_toArray, List.set_cons_zero, List.set_cons_succ]
                    have hHeldT := hHeld
                    refine wpAnyH_take (i := 8) (v := .pointer (some ⟨ba, 4, none⟩)) rfl (by kernel_rfl) (by kernel_rfl) (by kernel_rfl) (fun _ _ _ h => h) (Or.inl ⟨by kernel_rfl, fun X hX => ?_⟩) (by assumption) ?_
                    · clear hX; go_simp
                    try simp only [Act.put, List.setIfInBounds_toArray]
                    clear hHeldT
                    refine wpAnyH_ready (rs := [9]) (by kernel_rfl) (by simp) ?_
                    refine AllReadyH.cons (o := _) rfl (fun K hK => ?_) AllReadyH.nil
                    have c4 := hdK.cell 4 _ rfl
                    have c5 := hdK.cell 5 _ rfl
                    have c6 := hdK.cell 6 _ rfl
                    have c7 := hdK.cell 7 _ rfl
                    have c8 := hdK.cell 8 _ rfl
                    have c9 := hdK.cell 9 _ rfl
                    have c10 := hdK.cell 10 _ rfl
                    have cl := hdK.lt
                    have cf4 := hdK.frozen 4
                    have cf5 := hdK.frozen 5
                    have cf6 := hdK.frozen 6
                    have cf7 := hdK.frozen 7
                    have cf8 := hdK.frozen 8
                    have cf9 := hdK.frozen 9
                    have cf10 := hdK.frozen 10
                    go_simp
                    obtain ⟨x6a, hnx⟩ : ∃ X, (((((((x5a.setCell ⟨ba, 4, none⟩ (.int .i64 j0)).setCell ⟨ba, 5, none⟩ (.string j1)).setCell ⟨ba, 6, none⟩ (.int .i64 j2)).setCell ⟨ba, 7, none⟩ (.slice t3 u3 v3)).setCell ⟨ba, 8, none⟩ (.slice t4 u4 v4)).setCell ⟨ba, 9, none⟩ (.slice t5 u5 v5)).setCell ⟨ba, 10, none⟩ (.slice t6 u6 v6)) = X := ⟨_, rfl⟩
                    rw [hnx]
                    have hmv : Mv (low (ba + 1)) x5a (low (ba + 1)) x6a := by rw [← hnx]; exact mv_sets7 _ _ _ _ _ _ _
                    have hdS' : Hid (Below ba wr x6a) := by rw [← hnx]; exact (((((((hdS.out.setCell (p := ⟨ba, 4, none⟩) (Nat.le_refl _) _).setCell (p := ⟨ba, 5, none⟩) (Nat.le_refl _) _).setCell (p := ⟨ba, 6, none⟩) (Nat.le_refl _) _).setCell (p := ⟨ba, 7, none⟩) (Nat.le_refl _) _).setCell (p := ⟨ba, 8, none⟩) (Nat.le_refl _) _).setCell (p := ⟨ba, 9, none⟩) (Nat.le_refl _) _).setCell (p := ⟨ba, 10, none⟩) (Nat.le_refl _) _)
                    have hdK' : Blk x6a ba #[.int .i64 ak, .string an, .int .i64 au, .slice x9 vs.length y9, .int .i64 j0, .string j1, .int .i64 j2, .slice t3 u3 v3, .slice t4 u4 v4, .slice t5 u5 v5, .slice t6 u6 v6] 52 := by rw [← hnx]; exact hdK.sets7b _ _ _ _ _ _ _
                    have hT9' : Hid (TxIn (Ms (low (ba + 1)) x6a) x6a.heap.size x9 vs) := hmv.txIn hT9.out
                    have hE9' : Hid (ExVd (Ms (low (ba + 1)) x6a) x6a.heap.size d te (.agg #[.int .i64 j0, .string j1, .int .i64 j2, .slice t3 u3 v3, .slice t4 u4 v4, .slice t5 u5 v5, .slice t6 u6 v6])) := hmv.exV hE9.out
                    refine hK.out _ _ hdS' (fun hHeld' => ?_)
                    clear hK K hHeld hHeld' hdS hdK hT9 hE9 hmv hnx cl c4 cf4 c5 cf5 c6 cf6 c7 cf7 c8 cf8 c9 cf9 c10 cf10
                    try simp only [Act.put, List.getElem_toArray, List.getElem_cons_succ, List.getElem_cons_zero, List.setIfInBounds_toArray, List.set_cons_zero, List.set_cons_succ]
                    refine wpAnyH_done (by kernel_rfl) ?_ _
                    go_wp2_with fail
                    go_meet
                    exact ⟨x9, y9, j0, j1, j2, t3, u3, v3, t4, u4, v4, t5, u5, v5, t6, u6, v6, rfl, hdS'.out, hdK', hT9'.out, hE9'.out⟩
                  · have c4 := hdK.cell 4 _ rfl
                    have c5 := hdK.cell 5 _ rfl
                    have c6 := hdK.cell 6 _ rfl
                    have c7 := hdK.cell 7 _ rfl
                    have c8 := hdK.cell 8 _ rfl
                    have c9 := hdK.cell 9 _ rfl
                    have c10 := hdK.cell 10 _ rfl
                    have cl := hdK.lt
                    go_simp
                    refine hK.out _ _ hdS (fun hHeld' => ?_)
                    clear hK K hHeld cl c4 c5 c6 c7 c8 c9 c10
                    have hHeld := hHeld'; clear hHeld'
                    try simp only [Act.put, List.setIfInBounds_toArray, List.set_cons_zero, List.set_cons_succ]
                    refine wpAnyH_ready (rs := [2]) (by kernel_rfl) (by simp) ?_
                    refine AllReadyH.cons (o := _) rfl (fun K hK => ?_) AllReadyH.nil
                    go_simp
                    go_at_call 24
                    refine (HTl.out x0 (HUw.out _ hdS.out)).mono ?_
                    rintro e x8a ⟨x9, y9, rfl, hT, hb⟩
                    have hlt := hdK.lt
                    have hT9 : Hid (TxIn (Ms (low (ba + 1)) x8a) x8a.heap.size x9 vs) := Mv.txIn (Mv.less (fun g hg => low_no.2 (by have := low_no.1 hg; omega))) hT
                    have hdS' : Hid (Below ba wr x8a) := hdS.out.trans (hb.mono (by omega))
                    have hdK' : Blk x8a ba #[.int .i64 ak, .string an, .int .i64 au, .slice ov3 vs.length cv3, .int .i64 k0, .string k1, .int .i64 k2, .slice p3 l3 m3, .slice p4 l4 m4, .slice p5 l5 m5, .slice p6 l6 m6] 52 := hdK.below hb
                    refine hK.out _ _ hdS' (fun hHeld' => ?_)
                    clear hK K hHeld hT hb hdS hdK hlt
                    have hHeld := hHeld'; clear hHeld'; have hdS := hdS'; clear hdS'; have hdK := hdK'; clear hdK'
                    try simp only [Act.put, List.setIfInBounds_toArray, List.set_cons_zero, List.set_cons_succ]
                    have hHeldT := hHeld
                    refine wpAnyH_take (i := 6) (v := .pointer (some ⟨ba, 3, none⟩)) rfl (by kernel_rfl) (by kernel_rfl) (by kernel_rfl) (fun _ _ _ h => h) (Or.inl ⟨by kernel_rfl, fun X hX => ?_⟩) (by assumption) ?_
                    · clear hX; go_simp
                    try simp only [Act.put, List.setIfInBounds_toArray]
                    clear hHeldT
                    refine wpAnyH_ready (rs := [5]) (by kernel_rfl) (by simp) ?_
                    refine AllReadyH.cons (o := _) rfl (fun K hK => ?_) AllReadyH.nil
                    go_simp
                    go_at_call 12
                    refine (HCl.out x8a (HUw.out _ hdS.out)).mono ?_
                    rintro e x9a ⟨j0, j1, j2, t3, u3, v3, t4, u4, v4, t5, u5, v5, t6, u6, v6, rfl, hE, hb⟩
                    have hlt := hdK.lt
                    have hT9' : Hid (TxIn (Ms (low (ba + 1)) x9a) x9a.heap.size x9 vs) := (Mv.below hb).txIn hT9.out
                    have hE9 : Hid (ExVd (Ms (low (ba + 1)) x9a) x9a.heap.size d te (.agg #[.int .i64 j0, .string j1, .int .i64 j2, .slice t3 u3 v3, .slice t4 u4 v4, .slice t5 u5 v5, .slice t6 u6 v6])) := Mv.exV (Mv.less (fun g hg => low_no.2 (by have := low_no.1 hg; omega))) hE
                    have hdS' : Hid (Below ba wr x9a) := hdS.out.trans (hb.mono (by omega))
                    have hdK' : Blk x9a ba #[.int .i64 ak, .string an, .int .i64 au, .slice ov3 vs.length cv3, .int .i64 k0, .string k1, .int .i64 k2, .slice p3 l3 m3, .slice p4 l4 m4, .slice p5 l5 m5, .slice p6 l6 m6] 52 := hdK.below hb
                    refine hK.out _ _ hdS' (fun hHeld' => ?_)
                    clear hK K hHeld hE hb hdS hdK hT9 hlt
                    have hHeld := hHeld'; clear hHeld'; have hdS := hdS'; clear hdS'; have hdK := hdK'; clear hdK'; have hT9 := hT9'; clear hT9'
                    try simp only [Act.put, List.setIfInBounds_toArray, List.set_cons_zero, List.set_cons_succ]
                    refine wpAnyH_ready (rs := [7]) (by kernel_rfl) (by simp) ?_
                    refine AllReadyH.cons (o := _) rfl (fun K hK => ?_) AllReadyH.nil
                    have c3 := hdK.cell 3 _ rfl
                    have cl := hdK.lt
                    have cf := hdK.frozen 3
                    go_simp
                    obtain ⟨x10a, hnx⟩ : ∃ X, x9a.setCell ⟨ba, 3, none⟩ (.slice x9 vs.length y9) = X := ⟨_, rfl⟩
                    rw [hnx]
                    have hmv : Mv (low (ba + 1)) x9a (low (ba + 1)) x10a := by rw [← hnx]; exact ⟨by show _ ≤ (Array.modify _ _ _).size; rw [Array.size_modify]; exact Nat.le_refl _, fun g hg hS => ⟨Below.heap_setCell _ _ _ _ (by have := low_no.1 hS; show g ≠ ba; omega), hS⟩⟩
                    have hdS' : Hid (Below ba wr x10a) := by rw [← hnx]; exact hdS.out.setCell (p := ⟨ba, 3, none⟩) (Nat.le_refl _) _
                    have hdK' : Blk x10a ba #[.int .i64 ak, .string an, .int .i64 au, .slice x9 vs.length y9, .int .i64 k0, .string k1, .int .i64 k2, .slice p3 l3 m3, .slice p4 l4 m4, .slice p5 l5 m5, .slice p6 l6 m6] 52 := by rw [← hnx]; exact hdK.set 3 _
                    have hT9' : Hid (TxIn (Ms (low (ba + 1)) x10a) x10a.heap.size x9 vs) := hmv.txIn hT9.out
                    have hE9' : Hid (ExVd (Ms (low (ba + 1)) x10a) x10a.heap.size d te (.agg #[.int .i64 j0, .string j1, .int .i64 j2, .slice t3 u3 v3, .slice t4 u4 v4, .slice t5 u5 v5, .slice t6 u6 v6])) := hmv.exV hE9.out
                    refine hK.out _ _ hdS' (fun hHeld' => ?_)
                    clear hK K hHeld hdS hdK hT9 hE9 hmv hnx c3 cl cf
                    have hHeld := hHeld'; clear hHeld'; have hdS := hdS'; clear hdS'; have hdK := hdK'; clear hdK'; have hT9 := hT9'; clear hT9'; have hE9 := hE9'; clear hE9'
                    try simp only [Act.put, List.setIfInBounds_toArray, List.set_cons_zero, List.set_cons_succ]
                    have hHeldT := hHeld
                    refine wpAnyH_take (i := 8) (v := .pointer (some ⟨ba, 4, none⟩)) rfl (by kernel_rfl) (by kernel_rfl) (by kernel_rfl) (fun _ _ _ h => h) (Or.inl ⟨by kernel_rfl, fun X hX => ?_⟩) (by assumption) ?_
                    · clear hX; go_simp
                    try simp only [Act.put, List.setIfInBounds_toArray]
                    clear hHeldT
                    refine wpAnyH_ready (rs := [9]) (by kernel_rfl) (by simp) ?_
                    refine AllReadyH.cons (o := _) rfl (fun K hK => ?_) AllReadyH.nil
                    have c4 := hdK.cell 4 _ rfl
                    have c5 := hdK.cell 5 _ rfl
                    have c6 := hdK.cell 6 _ rfl
                    have c7 := hdK.cell 7 _ rfl
                    have c8 := hdK.cell 8 _ rfl
                    have c9 := hdK.cell 9 _ rfl
                    have c10 := hdK.cell 10 _ rfl
                    have cl := hdK.lt
                    have cf4 := hdK.frozen 4
                    have cf5 := hdK.frozen 5
                    have cf6 := hdK.frozen 6
                    have cf7 := hdK.frozen 7
                    have cf8 := hdK.frozen 8
                    have cf9 := hdK.frozen 9
                    have cf10 := hdK.frozen 10
                    go_simp
                    obtain ⟨x11a, hnx⟩ : ∃ X, (((((((x10a.setCell ⟨ba, 4, none⟩ (.int .i64 j0)).setCell ⟨ba, 5, none⟩ (.string j1)).setCell ⟨ba, 6, none⟩ (.int .i64 j2)).setCell ⟨ba, 7, none⟩ (.slice t3 u3 v3)).setCell ⟨ba, 8, none⟩ (.slice t4 u4 v4)).setCell ⟨ba, 9, none⟩ (.slice t5 u5 v5)).setCell ⟨ba, 10, none⟩ (.slice t6 u6 v6)) = X := ⟨_, rfl⟩
                    rw [hnx]
                    have hmv : Mv (low (ba + 1)) x10a (low (ba + 1)) x11a := by rw [← hnx]; exact mv_sets7 _ _ _ _ _ _ _
                    have hdS' : Hid (Below ba wr x11a) := by rw [← hnx]; exact (((((((hdS.out.setCell (p := ⟨ba, 4, none⟩) (Nat.le_refl _) _).setCell (p := ⟨ba, 5, none⟩) (Nat.le_refl _) _).setCell (p := ⟨ba, 6, none⟩) (Nat.le_refl _) _).setCell (p := ⟨ba, 7, none⟩) (Nat.le_refl _) _).setCell (p := ⟨ba, 8, none⟩) (Nat.le_refl _) _).setCell (p := ⟨ba, 9, none⟩) (Nat.le_refl _) _).setCell (p := ⟨ba, 10, none⟩) (Nat.le_refl _) _)
                    have hdK' : Blk x11a ba #[.int .i64 ak, .string an, .int .i64 au, .slice x9 vs.length y9, .int .i64 j0, .string j1, .int .i64 j2, .slice t3 u3 v3, .slice t4 u4 v4, .slice t5 u5 v5, .slice t6 u6 v6] 52 := by rw [← hnx]; exact hdK.sets7b _ _ _ _ _ _ _
                    have hT9' : Hid (TxIn (Ms (low (ba + 1)) x11a) x11a.heap.size x9 vs) := hmv.txIn hT9.out
                    have hE9' : Hid (ExVd (Ms (low (ba + 1)) x11a) x11a.heap.size d te (.agg #[.int .i64 j0, .string j1, .int .i64 j2, .slice t3 u3 v3, .slice t4 u4 v4, .slice t5 u5 v5, .slice t6 u6 v6])) := hmv.exV hE9.out
                    refine hK.out _ _ hdS' (fun hHeld' => ?_)
                    clear hK K hHeld hHeld' hdS hdK hT9 hE9 hmv hnx cl c4 cf4 c5 cf5 c6 cf6 c7 cf7 c8 cf8 c9 cf9 c10 cf10
                    try simp only [Act.put, List.getElem_toArray, List.getElem_cons_succ, List.getElem_cons_zero, List.setIfInBounds_toArray, List.set_cons_zero, List.set_cons_succ]
                    refine wpAnyH_done (by kernel_rfl) ?_ _
                    go_wp2_with fail
                    go_meet
                    exact ⟨x9, y9, j0, j1, j2, t3, u3, v3, t4, u4, v4, t5, u5, v5, t6, u6, v6, rfl, hdS'.out, hdK', hT9'.out, hE9'.out⟩
                · have c4 := hdK.cell 4 _ rfl
                  have c5 := hdK.cell 5 _ rfl
                  have c6 := hdK.cell 6 _ rfl
                  have c7 := hdK.cell 7 _ rfl
                  have c8 := hdK.cell 8 _ rfl
                  have c9 := hdK.cell 9 _ rfl
                  have c10 := hdK.cell 10 _ rfl
                  have cl := hdK.lt
                  go_simp
                  refine hK.out _ _ hdS (fun hHeld' => ?_)
                  clear hK K hHeld cl c4 c5 c6 c7 c8 c9 c10
                  have hHeld := hHeld'; clear hHeld'
                  try simp only [Act.put, List.setIfInBounds_toArray, List.set_cons_zero, List.set_cons_succ]
                  refine wpAnyH_ready (rs := [1]) (by kernel_rfl) (by simp) ?_
                  refine AllReadyH.cons (o := _) rfl (fun K hK => ?_) AllReadyH.nil
                  have c3 := hdK.cell 3 _ rfl
                  have cl := hdK.lt
                  go_simp
                  refine hK.out _ _ hdS (fun hHeld' => ?_)
                  clear hK K hHeld cl c3
                  have hHeld := hHeld'; clear hHeld'
                  try simp only [Act.put, List.setIfInBounds_toArray, List.set_cons_zero, List.set_cons_succ]
                  refine wpAnyH_ready (rs := [2]) (by kernel_rfl) (by simp) ?_
                  refine AllReadyH.cons (o := _) rfl (fun K hK => ?_) AllReadyH.nil
                  go_simp
                  go_at_call 24
                  refine (HTl.out x0 (HUw.out _ hdS.out)).mono ?_
                  rintro e x14a ⟨x9, y9, rfl, hT, hb⟩
                  have hlt := hdK.lt
                  have hT9 : Hid (TxIn (Ms (low (ba + 1)) x14a) x14a.heap.size x9 vs) := Mv.txIn (Mv.less (fun g hg => low_no.2 (by have := low_no.1 hg; omega))) hT
                  have hdS' : Hid (Below ba wr x14a) := hdS.out.trans (hb.mono (by omega))
                  have hdK' : Blk x14a ba #[.int .i64 ak, .string an, .int .i64 au, .slice ov3 vs.length cv3, .int .i64 k0, .string k1, .int .i64 k2, .slice p3 l3 m3, .slice p4 l4 m4, .slice p5 l5 m5, .slice p6 l6 m6] 52 := hdK.below hb
                  refine hK.out _ _ hdS' (fun hHeld' => ?_)
                  clear hK K hHeld hT hb hdS hdK hlt
                  have hHeld := hHeld'; clear hHeld'; have hdS := hdS'; clear hdS'; have hdK := hdK'; clear hdK'
                  try simp only [Act.put, List.setIfInBounds_toArray, List.set_cons_zero, List.set_cons_succ]
                  have hHeldT := hHeld
                  refine wpAnyH_take (i := 6) (v := .pointer (some ⟨ba, 3, none⟩)) rfl (by kernel_rfl) (by kernel_rfl) (by kernel_rfl) (fun _ _ _ h => h) (Or.inl ⟨by kernel_rfl, fun X hX => ?_⟩) (by assumption) ?_
                  · clear hX; go_simp
                  try simp only [Act.put, List.setIfInBounds_toArray]
                  clear hHeldT
                  refine wpAnyH_ready (rs := [5]) (by kernel_rfl) (by simp) ?_
                  refine AllReadyH.cons (o := _) rfl (fun K hK => ?_) AllReadyH.nil
                  go_simp
                  go_at_call 12
                  refine (HCl.out x14a (HUw.out _ hdS.out)).mono ?_
                  rintro e x15a ⟨j0, j1, j2, t3, u3, v3, t4, u4, v4, t5, u5, v5, t6, u6, v6, rfl, hE, hb⟩
                  have hlt := hdK.lt
                  have hT9' : Hid (TxIn (Ms (low (ba + 1)) x15a) x15a.heap.size x9 vs) := (Mv.below hb).txIn hT9.out
                  have hE9 : Hid (ExVd (Ms (low (ba + 1)) x15a) x15a.heap.size d te (.agg #[.int .i64 j0, .string j1, .int .i64 j2, .slice t3 u3 v3, .slice t4 u4 v4, .slice t5 u5 v5, .slice t6 u6 v6])) := Mv.exV (Mv.less (fun g hg => low_no.2 (by have := low_no.1 hg; omega))) hE
                  have hdS' : Hid (Below ba wr x15a) := hdS.out.trans (hb.mono (by omega))
                  have hdK' : Blk x15a ba #[.int .i64 ak, .string an, .int .i64 au, .slice ov3 vs.length cv3, .int .i64 k0, .string k1, .int .i64 k2, .slice p3 l3 m3, .slice p4 l4 m4, .slice p5 l5 m5, .slice p6 l6 m6] 52 := hdK.below hb
                  refine hK.out _ _ hdS' (fun hHeld' => ?_)
                  clear hK K hHeld hE hb hdS hdK hT9 hlt
                  have hHeld := hHeld'; clear hHeld'; have hdS := hdS'; clear hdS'; have hdK := hdK'; clear hdK'; have hT9 := hT9'; clear hT9'
                  try simp only [Act.put, List.setIfInBounds_toArray, List.set_cons_zero, List.set_cons_succ]
                  refine wpAnyH_ready (rs := [7]) (by kernel_rfl) (by simp) ?_
                  refine AllReadyH.cons (o := _) rfl (fun K hK => ?_) AllReadyH.nil
                  have c3 := hdK.cell 3 _ rfl
                  have cl := hdK.lt
                  have cf := hdK.frozen 3
                  go_simp
                  obtain ⟨x16a, hnx⟩ : ∃ X, x15a.setCell ⟨ba, 3, none⟩ (.slice x9 vs.length y9) = X := ⟨_, rfl⟩
                  rw [hnx]
                  have hmv : Mv (low (ba + 1)) x15a (low (ba + 1)) x16a := by rw [← hnx]; exact ⟨by show _ ≤ (Array.modify _ _ _).size; rw [Array.size_modify]; exact Nat.le_refl _, fun g hg hS => ⟨Below.heap_setCell _ _ _ _ (by have := low_no.1 hS; show g ≠ ba; omega), hS⟩⟩
                  have hdS' : Hid (Below ba wr x16a) := by rw [← hnx]; exact hdS.out.setCell (p := ⟨ba, 3, none⟩) (Nat.le_refl _) _
                  have hdK' : Blk x16a ba #[.int .i64 ak, .string an, .int .i64 au, .slice x9 vs.length y9, .int .i64 k0, .string k1, .int .i64 k2, .slice p3 l3 m3, .slice p4 l4 m4, .slice p5 l5 m5, .slice p6 l6 m6] 52 := by rw [← hnx]; exact hdK.set 3 _
                  have hT9' : Hid (TxIn (Ms (low (ba + 1)) x16a) x16a.heap.size x9 vs) := hmv.txIn hT9.out
                  have hE9' : Hid (ExVd (Ms (low (ba + 1)) x16a) x16a.heap.size d te (.agg #[.int .i64 j0, .string j1, .int .i64 j2, .slice t3 u3 v3, .slice t4 u4 v4, .slice t5 u5 v5, .slice t6 u6 v6])) := hmv.exV hE9.out
                  refine hK.out _ _ hdS' (fun hHeld' => ?_)
                  clear hK K hHeld hdS hdK hT9 hE9 hmv hnx c3 cl cf
                  have hHeld := hHeld'; clear hHeld'; have hdS := hdS'; clear hdS'; have hdK := hdK'; clear hdK'; have hT9 := hT9'; clear hT9'; have hE9 := hE9'; clear hE9'
                  try simp only [Act.put, List.setIfInBounds_toArray, List.set_cons_zero, List.set_cons_succ]
                  have hHeldT := hHeld
                  refine wpAnyH_take (i := 8) (v := .pointer (some ⟨ba, 4, none⟩)) rfl (by kernel_rfl) (by kernel_rfl) (by kernel_rfl) (fun _ _ _ h => h) (Or.inl ⟨by kernel_rfl, fun X hX => ?_⟩) (by assumption) ?_
                  · clear hX; go_simp
                  try simp only [Act.put, List.setIfInBounds_toArray]
                  clear hHeldT
                  refine wpAnyH_ready (rs := [9]) (by kernel_rfl) (by simp) ?_
                  refine AllReadyH.cons (o := _) rfl (fun K hK => ?_) AllReadyH.nil
                  have c4 := hdK.cell 4 _ rfl
                  have c5 := hdK.cell 5 _ rfl
                  have c6 := hdK.cell 6 _ rfl
                  have c7 := hdK.cell 7 _ rfl
                  have c8 := hdK.cell 8 _ rfl
                  have c9 := hdK.cell 9 _ rfl
                  have c10 := hdK.cell 10 _ rfl
                  have cl := hdK.lt
                  have cf4 := hdK.frozen 4
                  have cf5 := hdK.frozen 5
                  have cf6 := hdK.frozen 6
                  have cf7 := hdK.frozen 7
                  have cf8 := hdK.frozen 8
                  have cf9 := hdK.frozen 9
                  have cf10 := hdK.frozen 10
                  go_simp
                  obtain ⟨x17a, hnx⟩ : ∃ X, (((((((x16a.setCell ⟨ba, 4, none⟩ (.int .i64 j0)).setCell ⟨ba, 5, none⟩ (.string j1)).setCell ⟨ba, 6, none⟩ (.int .i64 j2)).setCell ⟨ba, 7, none⟩ (.slice t3 u3 v3)).setCell ⟨ba, 8, none⟩ (.slice t4 u4 v4)).setCell ⟨ba, 9, none⟩ (.slice t5 u5 v5)).setCell ⟨ba, 10, none⟩ (.slice t6 u6 v6)) = X := ⟨_, rfl⟩
                  rw [hnx]
                  have hmv : Mv (low (ba + 1)) x16a (low (ba + 1)) x17a := by rw [← hnx]; exact mv_sets7 _ _ _ _ _ _ _
                  have hdS' : Hid (Below ba wr x17a) := by rw [← hnx]; exact (((((((hdS.out.setCell (p := ⟨ba, 4, none⟩) (Nat.le_refl _) _).setCell (p := ⟨ba, 5, none⟩) (Nat.le_refl _) _).setCell (p := ⟨ba, 6, none⟩) (Nat.le_refl _) _).setCell (p := ⟨ba, 7, none⟩) (Nat.le_refl _) _).setCell (p := ⟨ba, 8, none⟩) (Nat.le_refl _) _).setCell (p := ⟨ba, 9, none⟩) (Nat.le_refl _) _).setCell (p := ⟨ba, 10, none⟩) (Nat.le_refl _) _)
                  have hdK' : Blk x17a ba #[.int .i64 ak, .string an, .int .i64 au, .slice x9 vs.length y9, .int .i64 j0, .string j1, .int .i64 j2, .slice t3 u3 v3, .slice t4 u4 v4, .slice t5 u5 v5, .slice t6 u6 v6] 52 := by rw [← hnx]; exact hdK.sets7b _ _ _ _ _ _ _
                  have hT9' : Hid (TxIn (Ms (low (ba + 1)) x17a) x17a.heap.size x9 vs) := hmv.txIn hT9.out
                  have hE9' : Hid (ExVd (Ms (low (ba + 1)) x17a) x17a.heap.size d te (.agg #[.int .i64 j0, .string j1, .int .i64 j2, .slice t3 u3 v3, .slice t4 u4 v4, .slice t5 u5 v5, .slice t6 u6 v6])) := hmv.exV hE9.out
                  refine hK.out _ _ hdS' (fun hHeld' => ?_)
                  clear hK K hHeld hHeld' hdS hdK hT9 hE9 hmv hnx cl c4 cf4 c5 cf5 c6 cf6 c7 cf7 c8 cf8 c9 cf9 c10 cf10
                  try simp only [Act.put, List.getElem_toArray, List.getElem_cons_succ, List.getElem_cons_zero, List.setIfInBounds_toArray, List.set_cons_zero, List.set_cons_succ]
                  refine wpAnyH_done (by kernel_rfl) ?_ _
                  go_wp2_with fail
                  go_meet
                  exact ⟨x9, y9, j0, j1, j2, t3, u3, v3, t4, u4, v4, t5, u5, v5, t6, u6, v6, rfl, hdS'.out, hdK', hT9'.out, hE9'.out⟩
              case rest =>
                obtain ⟨x9, y9, j0, j1, j2, t3, u3, v3, t4, u4, v4, t5, u5, v5, t6, u6, v6, rfl, HQ⟩ := hcut
                clear kV2 bV2 hdS hdK HCl HTl
                have hkA := HQ.out.2.1
                have a0 := hkA.cell 0 _ rfl
                have a1 := hkA.cell 1 _ rfl
                have a2 := hkA.cell 2 _ rfl
                have a3 := hkA.cell 3 _ rfl
                have a4 := hkA.cell 4 _ rfl
                have a5 := hkA.cell 5 _ rfl
                have a6 := hkA.cell 6 _ rfl
                have a7 := hkA.cell 7 _ rfl
                have a8 := hkA.cell 8 _ rfl
                have a9 := hkA.cell 9 _ rfl
                have a10 := hkA.cell 10 _ rfl
                have al := hkA.lt
                obtain ⟨x2, hx2⟩ : ∃ x2, wc.alloc (.cells #[.int .i64 ak, .string an, .int .i64 au, .slice x9 vs.length y9, .int .i64 j0, .string j1, .int .i64 j2, .slice t3 u3 v3, .slice t4 u4 v4, .slice t5 u5 v5, .slice t6 u6 v6] 52) = x2 := ⟨_, rfl⟩
                have HX2 : Hid (wc.alloc (.cells #[.int .i64 ak, .string an, .int .i64 au, .slice x9 vs.length y9, .int .i64 j0, .string j1, .int .i64 j2, .slice t3 u3 v3, .slice t4 u4 v4, .slice t5 u5 v5, .slice t6 u6 v6] 52) = x2) := hx2
                have kB : Hid (Blk x2 wc.heap.size #[.int .i64 ak, .string an, .int .i64 au, .slice x9 vs.length y9, .int .i64 j0, .string j1, .int .i64 j2, .slice t3 u3 v3, .slice t4 u4 v4, .slice t5 u5 v5, .slice t6 u6 v6] 52) := by rw [← hx2]; exact Blk.new _ _ _
                have hb2 : Below wc.heap.size wc x2 := by rw [← hx2]; exact below1 _ _
                have hB2 : Below wr.heap.size wr x2 := by rw [HBa.out]; exact HQ.out.1.trans (hb2.mono (by have := hkA.lt; omega))
                have hS2 : Hid (Below WC.heap.size WC x2) := hS.out.trans (hB2.mono hS.out.size)
                have hR2 : Hid (RwO 11 52 (GdA d) WC.heap.size x2 ov cv L) := RwO.below (mvA d) hR.out hB2
                have hT2 : Hid (TxIn (Ms (low (ba + 1)) x2) x2.heap.size x9 vs) := (Mv.below hb2).txIn HQ.out.2.2.1
                have hE2 : Hid (ExVd (Ms (low (ba + 1)) x2) x2.heap.size d te (.agg #[.int .i64 j0, .string j1, .int .i64 j2, .slice t3 u3 v3, .slice t4 u4 v4, .slice t5 u5 v5, .slice t6 u6 v6])) := (Mv.below hb2).exV HQ.out.2.2.2
                have hrl : Hid (∀ g, Value.ownBlock (.slice ov 0 0) = some g → g < ba + 1) := fun g h => by have := (RwO.lt hR.out h).2; have := HBa.out; omega
                have hlo : Hid (WC.heap.size ≤ ba + 1) := by have h : WC.heap.size ≤ ba + 1 := (by have := hS.out.size; have := HBa.out; omega); exact h
                clear hS hR HQ hkA hb2 hB2 hx2
                go_wp2_with (at_builtin; rw [HX2.out]; refine appL_ro Tryd.underlying27 infoAlt16 rfl (by decide) (by decide) (mvA d) rfl _ _ rfl WC.heap.size (ba + 1) wc.heap.size L (⟨ak, an, au, vs⟩, te) ov cv #[.int .i64 ak, .string an, .int .i64 au, .slice x9 vs.length y9, .int .i64 j0, .string j1, .int .i64 j2, .slice t3 u3 v3, .slice t4 u4 v4, .slice t5 u5 v5, .slice t6 u6 v6] rfl rfl hR2.out kB.out rfl (one11 _ _ _ _ _ _ _ _ _ _ _ _ _ _ _ _ _ _ _ _ _) ⟨rfl, rfl, rfl, ⟨x9, y9, rfl, hT2.out⟩, j0, j1, j2, t3, u3, v3, t4, u4, v4, t5, u5, v5, t6, u6, v6, rfl, rfl, rfl, rfl, rfl, rfl, rfl, hE2.out⟩ hlo.out hrl.out hS2.out.size hk3.out (fun o' c' y8 hown hgr => ?_); have hS3 : Hid (Below WC.heap.size WC y8) := hS2.out.grown hgr hS2.out.size (fun g e => (RwO.lt hR2.out e).1); have hR3 : Hid (RwO 11 52 (GdA d) WC.heap.size y8 o' c' (L ++ [(⟨ak, an, au, vs⟩, te)])) := hown; clear hown hgr)
                go_roundw
                case rel => exact ⟨k + 1, _, o', c', hkn, by rw [List.length_append]; rfl, by go_num, hL1, hR3, hS3⟩
                case measure => simp [intOf]; omega
            · have hke : nl = k := by omega
              have hLe : L = TrN.alts t := by rw [hL.out, ← hke, ← HN.out.2.2.1]; exact List.take_length
              subst hLe
              have HD2 : Hid (RwO 11 52 (GdA d) WC.heap.size wr ov cv (TrN.alts t)) := hR.out
              have hS9 : Hid (Below WC.heap.size WC wr) := hS.out
              clear hS hR hL
              subst hke
              clear hk hkn
              obtain ⟨WD, hw⟩ : ∃ x, x = wr := ⟨_, rfl⟩
              subst hw
              obtain ⟨ov6, hw⟩ : ∃ x, x = ov := ⟨_, rfl⟩
              subst hw
              obtain ⟨cv6, hw⟩ : ∃ x, x = cv := ⟨_, rfl⟩
              subst hw
              have hWD := HCu.out _ hS9.out
              have kD : Blk WD ab #[.int .i64 kd, .string em, .int .i64 nu, .slice x3 n3 y3, .slice o4 nb c4, .slice o5 na c5, .slice o6 nl c6] 29 := HA.out.1.below hWD
              have kZ : Blk WD bb #[.int .i64 0, .string ⟨#[]⟩, .int .i64 0, .slice none 0 0, .slice none 0 0, .slice none 0 0, .slice none 0 0] 29 := HA.out.2.1.below hWD
              obtain ⟨WE, hWE⟩ : ∃ X, ((WD.setCell ⟨ab, 4, none⟩ (.slice ov4 (TrN.binds t).length cv4)).setCell ⟨ab, 5, none⟩ (.slice ov5 (TrN.args t).length cv5)).setCell ⟨ab, 6, none⟩ (.slice ov6 (TrN.alts t).length cv6) = X := ⟨_, rfl⟩
              have kE : Blk WE ab #[.int .i64 kd, .string em, .int .i64 nu, .slice x3 n3 y3, .slice ov4 (TrN.binds t).length cv4, .slice ov5 (TrN.args t).length cv5, .slice ov6 (TrN.alts t).length cv6] 29 := by rw [← hWE]; exact ((kD.set 4 _).set 5 _).set 6 _
              have hoE : ∀ g, g ≠ ab → WE.heap[g]? = WD.heap[g]? := fun g hg => by rw [← hWE]; exact ((Below.heap_setCell _ _ _ _ hg).trans (Below.heap_setCell _ _ _ _ hg)).trans (Below.heap_setCell _ _ _ _ hg)
              have hzE : WE.heap.size = WD.heap.size := by rw [← hWE]; show (Array.modify _ _ _).size = _; rw [Array.size_modify]; show (Array.modify _ _ _).size = _; rw [Array.size_modify]; show (Array.modify _ _ _).size = _; rw [Array.size_modify]
              have kZE : Blk WE bb #[.int .i64 0, .string ⟨#[]⟩, .int .i64 0, .slice none 0 0, .slice none 0 0, .slice none 0 0, .slice none 0 0] 29 := by unfold Blk; rw [hoE bb (by have := HA.out.2.2.2.2.2.1; omega)]; exact kZ
              have q4 := kD.cell 4 _ rfl
              have q5 := kD.cell 5 _ rfl
              have q6 := kD.cell 6 _ rfl
              have f4 := kD.frozen 4
              have f5 := kD.frozen 5
              have f6 := kD.frozen 6
              have ql := kD.lt
              have HEb : Hid (Below w.heap.size w WE) := by rw [← hWE]; have h5 := HA.out.2.2.2.2.1; exact (((HUp.out _ hWD).setCell (p := ⟨ab, 4, none⟩) (by show _ ≤ ab; omega) _).setCell (p := ⟨ab, 5, none⟩) (by show _ ≤ ab; omega) _).setCell (p := ⟨ab, 6, none⟩) (by show _ ≤ ab; omega) _
              have HWE : Hid (((WD.setCell ⟨ab, 4, none⟩ (.slice ov4 (TrN.binds t).length cv4)).setCell ⟨ab, 5, none⟩ (.slice ov5 (TrN.args t).length cv5)).setCell ⟨ab, 6, none⟩ (.slice ov6 (TrN.alts t).length cv6) = WE) := hWE
              have HE : Hid ((∀ g, g ≠ ab → WE.heap[g]? = WD.heap[g]?) ∧ WE.heap.size = WD.heap.size) := ⟨hoE, hzE⟩
              have HKE : Hid (Blk WE ab #[.int .i64 kd, .string em, .int .i64 nu, .slice x3 n3 y3, .slice ov4 (TrN.binds t).length cv4, .slice ov5 (TrN.args t).length cv5, .slice ov6 (TrN.alts t).length cv6] 29 ∧ Blk WE bb #[.int .i64 0, .string ⟨#[]⟩, .int .i64 0, .slice none 0 0, .slice none 0 0, .slice none 0 0, .slice none 0 0] 29) := ⟨kE, kZE⟩
              clear hWE kE kZE hoE hzE kD kZ hWD
              go_upto_region 20 with fail
              rw [HWE.out]
              clear HWE q4 q5 q6 f4 f5 f6 ql
              obtain ⟨q0, q1, q2, q3, q4, q5, q6⟩ := HKE.out.1.cells7
              have ql := HKE.out.1.lt
              obtain ⟨r0, r1, r2, r3, r4, r5, r6⟩ := HKE.out.2.cells7
              have rl := HKE.out.2.lt
              have g0 := HKE.out.2.frozen 0
              have g1 := HKE.out.2.frozen 1
              have g2 := HKE.out.2.frozen 2
              have g3 := HKE.out.2.frozen 3
              have g4 := HKE.out.2.frozen 4
              have g5 := HKE.out.2.frozen 5
              have g6 := HKE.out.2.frozen 6
              go_wp2
              (try simp only [Exit.inBlock, Exit.then])
              obtain ⟨WF, hWF⟩ : ∃ X, (((((((WE.setCell ⟨bb, 0, none⟩ (.int .i64 kd)).setCell ⟨bb, 1, none⟩ (.string em)).setCell ⟨bb, 2, none⟩ (.int .i64 nu)).setCell ⟨bb, 3, none⟩ (.slice x3 n3 y3)).setCell ⟨bb, 4, none⟩ (.slice ov4 (TrN.binds t).length cv4)).setCell ⟨bb, 5, none⟩ (.slice ov5 (TrN.args t).length cv5)).setCell ⟨bb, 6, none⟩ (.slice ov6 (TrN.alts t).length cv6)) = X := ⟨_, rfl⟩
              have kF : Blk WF bb #[.int .i64 kd, .string em, .int .i64 nu, .slice x3 n3 y3, .slice ov4 (TrN.binds t).length cv4, .slice ov5 (TrN.args t).length cv5, .slice ov6 (TrN.alts t).length cv6] 29 := by rw [← hWF]; exact HKE.out.2.sets7a _ _ _ _ _ _ _
              have hoF : ∀ g, g ≠ bb → WF.heap[g]? = WE.heap[g]? := fun g hg => by rw [← hWF]; exact oth_sets7a _ _ _ _ _ _ _ hg
              have hzF : WF.heap.size = WE.heap.size := by rw [← hWF]; exact sz_sets7a _ _ _ _ _ _ _
              have bF : Below w.heap.size w WF := by rw [← hWF]; have hB9 : w.heap.size ≤ bb := (by have := HA.out.2.2.2.2.1; have := HA.out.2.2.2.2.2.1; omega); exact ((((((HEb.out.setCell (p := ⟨bb, 0, none⟩) hB9 _).setCell (p := ⟨bb, 1, none⟩) hB9 _).setCell (p := ⟨bb, 2, none⟩) hB9 _).setCell (p := ⟨bb, 3, none⟩) hB9 _).setCell (p := ⟨bb, 4, none⟩) hB9 _).setCell (p := ⟨bb, 5, none⟩) hB9 _).setCell (p := ⟨bb, 6, none⟩) hB9 _
              rw [hWF]
              clear hWF
              refine bodyPost_ret (results_cell_row rfl _ _ bb 29 _ _ _ rfl kF Tryd.underlying29 rfl rfl) rfl ?_
              obtain ⟨a1, a2, a3, a4, a5, a6, a7⟩ := HA.out
              have hDA := HCu.out _ hS9.out
              have hDB := HCb.out _ hS9.out
              have hsD : WF.heap.size = WD.heap.size := hzF.trans HE.out.2
              have hkeep : ∀ g, w.heap.size + 2 ≤ g → WF.heap[g]? = WD.heap[g]? := fun g hg => (hoF g (by omega)).trans (HE.out.1 g (by omega))
              have n1 : RwO 8 56 (GdB d) WA.heap.size WF ov4 cv4 (TrN.binds t) := (RwO.below (mvB d) HD0.out hDB).keep (mvB d) (by omega) (fun g hg _ => hkeep g (by omega))
              have n2 : RwO 7 29 (GdE d) WB.heap.size WF ov5 cv5 (TrN.args t) := (RwO.below (mvE d) HD1.out hS9.out).keep (mvE d) (by omega) (fun g hg _ => hkeep g (by have := HFB.out; omega))
              have n3' : RwO 11 52 (GdA d) WC.heap.size WF ov6 cv6 (TrN.alts t) := HD2.out.keep (mvA d) (by omega) (fun g hg _ => hkeep g (by have := HFB.out; have := HFC.out; omega))
              have n0 : TxIn (Ms (low w.heap.size) WF) WF.heap.size x3 (TrN.params t) := Mv.txIn ⟨by have := hDA.size; omega, fun g hg hS => ⟨(hkeep g (low_no.1 hS)).trans (hDA.block g hg), low_no.2 (by have := low_no.1 hS; omega)⟩⟩ a4
              have hF1 := HFB.out
              have hF2 := HFC.out
              refine ⟨_, _, _, _, _, _, _, _, _, _, _, _, _, _, _, rfl, ⟨x3, y3, ov4, cv4, ov5, cv5, ov6, cv6, ?_, n0, n1.rowB (by omega), n2.rowE (by omega), n3'.rowA (by omega)⟩, ?_⟩
              · obtain ⟨e1, e2, e3, e4⟩ := HEq.out
                rw [e1, e2, e3, e4]
              · exact bF
theorem copyEx_all : ∀ d, CpE d
  | 0 => fun t => nomatch t
  | d + 1 => fun t v B w h1 h2 h3 => copyEx_succ d (copyEx_all d) t v B w h1 h2 h3
end Go.Proofs.YtjmpjfggbhongaaDoor
