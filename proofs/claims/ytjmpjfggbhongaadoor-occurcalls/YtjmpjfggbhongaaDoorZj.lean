/-
  Worlds without some blocks; rows that are made of copies; the kit's Texts, by a contract.
-/
import Derived.Test.YtjmpjfggbhongaaDoorZg
import Derived.Test.YtjmpjfggbhongaaDoorP09
import Derived.Laws.MakeOwn
namespace Go.Proofs.YtjmpjfggbhongaaDoor
open Go.RowKit Go.Shelf Go.Maps
set_option linter.unusedVariables false

/-- A world without some blocks. -/
def Ms (S : Nat → Bool) (W : World) : World := { W with heap := W.heap.mapIdx (fun i o => if S i then .cells #[] 0 (0, 0) else o) }
theorem ms_cell (S : Nat → Bool) (W : World) (g off : Nat) : (Ms S W).cell? ⟨g, off, none⟩ = if S g then none else W.cell? ⟨g, off, none⟩ := by
  have e : (Ms S W).heap[g]? = (W.heap[g]?).map (fun o => if S g then .cells #[] 0 (0, 0) else o) := by
    show (W.heap.mapIdx _)[g]? = _
    rw [Array.getElem?_mapIdx]
  unfold World.cell?
  show (match (Ms S W).heap[g]? with | _ => _) = _
  rw [e]
  cases hS : S g with
  | false => cases W.heap[g]? <;> simp
  | true => cases W.heap[g]? <;> simp
def low (F : Nat) : Nat → Bool := fun g => decide (g < F)
section
variable {W W' : World} {B : Nat}
theorem TxIn.imp {o : Option Addr} {l : List ByteArray} (hb : ∀ g off v, g < B → W.cell? ⟨g, off, none⟩ = some v → W'.cell? ⟨g, off, none⟩ = some v) (h : TxIn W B o l) : TxIn W' B o l := by
  rcases h with h | ⟨g, off, e, hg, h⟩
  · exact .inl h
  · exact .inr ⟨g, off, e, hg, fun k hk => hb g _ _ hg (h k hk)⟩
theorem ExAt.imp (hb : ∀ g off v, g < B → W.cell? ⟨g, off, none⟩ = some v → W'.cell? ⟨g, off, none⟩ = some v) : ∀ (d : Nat) (t : Tr d) (g off : Nat), ExAt W B d t g off → ExAt W' B d t g off
  | 0, t, _, _, _ => nomatch t
  | d + 1, t, g, off, h => by
    obtain ⟨hg, h0, h1, h2, ⟨o3, c3, h3, k3⟩, ⟨o4, c4, h4, k4⟩, ⟨o5, c5, h5, k5⟩, ⟨o6, c6, h6, k6⟩⟩ := h
    refine ⟨hg, hb _ _ _ hg h0, hb _ _ _ hg h1, hb _ _ _ hg h2, ⟨o3, c3, hb _ _ _ hg h3, k3.imp hb⟩, ⟨o4, c4, hb _ _ _ hg h4, k4.mono ?_⟩, ⟨o5, c5, hb _ _ _ hg h5, k5.mono ?_⟩, ⟨o6, c6, hb _ _ _ hg h6, k6.mono ?_⟩⟩
    · rintro x g off hg ⟨e1, e2⟩
      exact ⟨hb _ _ _ hg e1, ExAt.imp hb d _ _ _ e2⟩
    · intro x g off hg e
      exact ExAt.imp hb d _ _ _ e
    · rintro x g off hg ⟨e1, e2, e3, ⟨o, c, e4, e5⟩, e6⟩
      exact ⟨hb _ _ _ hg e1, hb _ _ _ hg e2, hb _ _ _ hg e3, ⟨o, c, hb _ _ _ hg e4, e5.imp hb⟩, ExAt.imp hb d _ _ _ e6⟩
theorem ExVd.imp (hb : ∀ g off v, g < B → W.cell? ⟨g, off, none⟩ = some v → W'.cell? ⟨g, off, none⟩ = some v) : ∀ {d : Nat} {t : Tr d} {v : Value}, ExVd W B d t v → ExVd W' B d t v
  | 0, t, _, _ => nomatch t
  | d + 1, t, v, h => by
    obtain ⟨o3, c3, o4, c4, o5, c5, o6, c6, ea, k3, k4, k5, k6⟩ := h
    refine ⟨o3, c3, o4, c4, o5, c5, o6, c6, ea, k3.imp hb, k4.mono ?_, k5.mono ?_, k6.mono ?_⟩
    · rintro x g off hg ⟨e1, e2⟩
      exact ⟨hb _ _ _ hg e1, ExAt.imp hb d _ _ _ e2⟩
    · intro x g off hg e
      exact ExAt.imp hb d _ _ _ e
    · rintro x g off hg ⟨e1, e2, e3, ⟨o, c, e4, e5⟩, e6⟩
      exact ⟨hb _ _ _ hg e1, hb _ _ _ hg e2, hb _ _ _ hg e3, ⟨o, c, hb _ _ _ hg e4, e5.imp hb⟩, ExAt.imp hb d _ _ _ e6⟩
end
theorem ExVd.up {W : World} {B B' : Nat} (hB : B ≤ B') : ∀ {d : Nat} {t : Tr d} {v : Value}, ExVd W B d t v → ExVd W B' d t v
  | 0, t, _, _ => nomatch t
  | d + 1, t, v, h => ExVal.up h hB
theorem ExVd.seven {W : World} {B : Nat} : ∀ {d : Nat} {t : Tr d} {v : Value}, ExVd W B d t v → ∃ k0 k1 k2 p3 l3 m3 p4 l4 m4 p5 l5 m5 p6 l6 m6, v = .agg #[.int .i64 k0, .string k1, .int .i64 k2, .slice p3 l3 m3, .slice p4 l4 m4, .slice p5 l5 m5, .slice p6 l6 m6]
  | 0, t, _, _ => nomatch t
  | d + 1, t, v, h => by
    obtain ⟨o3, c3, o4, c4, o5, c5, o6, c6, ea, -⟩ := h
    exact ⟨_, _, _, _, _, _, _, _, _, _, _, _, _, _, _, ea⟩
/-- What may change of a world from which blocks are taken away. -/
def Mv (S : Nat → Bool) (W : World) (S' : Nat → Bool) (W' : World) : Prop := W.heap.size ≤ W'.heap.size ∧ ∀ g, g < W.heap.size → S g = false → W'.heap[g]? = W.heap[g]? ∧ S' g = false
theorem Mv.cells {S S' : Nat → Bool} {W W' : World} (h : Mv S W S' W') : ∀ g off v, g < W.heap.size → (Ms S W).cell? ⟨g, off, none⟩ = some v → (Ms S' W').cell? ⟨g, off, none⟩ = some v := by
  intro g off v hg e
  rw [ms_cell] at e ⊢
  cases hS : S g with
  | true => rw [hS] at e; cases e
  | false =>
    obtain ⟨h1, h2⟩ := h.2 g hg hS
    rw [hS] at e
    rw [h2]
    have : W'.cell? ⟨g, off, none⟩ = W.cell? ⟨g, off, none⟩ := cell_of_block h1 off
    exact this.trans e
theorem Mv.txIn {S S' : Nat → Bool} {W W' : World} (h : Mv S W S' W') {o : Option Addr} {l : List ByteArray} (k : TxIn (Ms S W) W.heap.size o l) : TxIn (Ms S' W') W'.heap.size o l := (k.imp h.cells).mono h.1
theorem Mv.exV {S S' : Nat → Bool} {W W' : World} (h : Mv S W S' W') {d : Nat} {t : Tr d} {v : Value} (k : ExVd (Ms S W) W.heap.size d t v) : ExVd (Ms S' W') W'.heap.size d t v := (k.imp h.cells).up h.1
theorem Mv.exC {S S' : Nat → Bool} {W W' : World} (h : Mv S W S' W') {d : Nat} {t : Tr d} {c : Nat → Option Value} (k : ExC (Ms S W) W.heap.size d t c) : ExC (Ms S' W') W'.heap.size d t c := by
  obtain ⟨k0, k1, k2, p3, l3, m3, p4, l4, m4, p5, l5, m5, p6, l6, m6, z0, z1, z2, z3, z4, z5, z6, zv⟩ := k
  exact ⟨k0, k1, k2, p3, l3, m3, p4, l4, m4, p5, l5, m5, p6, l6, m6, z0, z1, z2, z3, z4, z5, z6, h.exV zv⟩
theorem Mv.below {S : Nat → Bool} {W W' : World} (h : Below W.heap.size W W') : Mv S W S W' := ⟨h.size, fun g hg hS => ⟨h.block g hg, hS⟩⟩
theorem Mv.less {S S' : Nat → Bool} {W : World} (h : ∀ g, S g = false → S' g = false) : Mv S W S' W := ⟨Nat.le_refl _, fun g hg hS => ⟨rfl, h g hS⟩⟩
theorem Mv.trans {S S' S'' : Nat → Bool} {W W' W'' : World} (h : Mv S W S' W') (k : Mv S' W' S'' W'') : Mv S W S'' W'' := ⟨Nat.le_trans h.1 k.1, fun g hg hS => by
  obtain ⟨h1, h2⟩ := h.2 g hg hS
  obtain ⟨k1, k2⟩ := k.2 g (Nat.lt_of_lt_of_le hg h.1) h2
  exact ⟨k1.trans h1, k2⟩⟩
/-- All below a number, and a row's own block. -/
def inS (F : Nat) (o : Option Addr) : Nat → Bool := fun g => decide (g < F) || (Value.ownBlock (.slice o 0 0) == some g)
theorem inS_no {F : Nat} {o : Option Addr} {g : Nat} : inS F o g = false ↔ F ≤ g ∧ Value.ownBlock (.slice o 0 0) ≠ some g := by
  unfold inS
  rw [Bool.or_eq_false_iff, decide_eq_false_iff_not, beq_eq_false_iff_ne, Nat.not_lt]
theorem low_no {F g : Nat} : low F g = false ↔ F ≤ g := by unfold low; rw [decide_eq_false_iff_not, Nat.not_lt]
theorem ob_eq (o : Option Addr) (n c : Nat) : Value.ownBlock (.slice o n c) = Value.ownBlock (.slice o 0 0) := by cases o <;> rfl
/-- What is told of a part is kept where its own blocks are. -/
def Moves {α : Type} (Gd : (Nat → Bool) → World → α → (Nat → Option Value) → Prop) : Prop := ∀ S W S' W' x c, Gd S W x c → Mv S W S' W' → Gd S' W' x c
/-- A row of one's own of parts that lie in blocks of their own. -/
def RwO {α : Type} (z e : Nat) (Gd : (Nat → Bool) → World → α → (Nat → Option Value) → Prop) (F : Nat) (W : World) (o : Option Addr) (c : Nat) (l : List α) : Prop := RwG z e (Gd (inS F o) W) F W o c l
section
variable {α : Type} {z e : Nat} {Gd : (Nat → Bool) → World → α → (Nat → Option Value) → Prop} {F : Nat} {W W' : World} {o : Option Addr} {c : Nat} {l : List α}
theorem RwO.below (hM : Moves Gd) (h : RwO z e Gd F W o c l) (hb : Below W.heap.size W W') : RwO z e Gd F W' o c l := (RwG.below h hb).imp (fun x f hx => hM _ _ _ _ _ _ hx (Mv.below hb))
theorem RwO.lt (h : RwO z e Gd F W o c l) {g : Nat} (hg : Value.ownBlock (.slice o 0 0) = some g) : F ≤ g ∧ g < W.heap.size := RwG.blk h (by rw [ob_eq]; exact hg)
/-- A part, where it lies, in a world without what is below a number. -/
theorem RwO.at (hM : Moves Gd) (h : RwO z e Gd F W o c l) {F0 : Nat} (hF : F0 ≤ F) {k : Nat} (hk : k < l.length) : ∃ g, o = some ⟨g, 0, none⟩ ∧ g < W.heap.size ∧ Gd (low F0) W l[k] (cut z (fun j => (Ms (low F0) W).cell? ⟨g, k * z + j, none⟩)) := by
  obtain ⟨g, e1, hg1, hg2, hG⟩ := RwG.at h hk
  refine ⟨g, e1, hg2, ?_⟩
  have : cut z (fun j => (Ms (low F0) W).cell? ⟨g, k * z + j, none⟩) = cut z (fun j => W.cell? ⟨g, k * z + j, none⟩) := cut_eq (fun j hj => by
    rw [ms_cell, low_no.2 (by omega)]; rfl)
  rw [this]
  exact hM _ _ _ _ _ _ hG (Mv.less (fun g hg => low_no.2 (by have := (inS_no.1 hg).1; omega)))
end
/-- append, of a row of one's own and one part more. -/
theorem app_ro {α : Type} {z e by_ : Nat} {zv : Value} {TS : TypeId} (hu : Tryd.prog.underlying TS = some (.slice e)) (hinfo : (Tryd.prog.info? e).map (fun i => (i.zero, i.size, i.bytes)) = some (some zv, z, by_)) (hzc : zv.cells.size = z) (hz0 : 0 < z) (hby : by_ ≤ 200)
    {Gd : (Nat → Bool) → World → α → (Nat → Option Value) → Prop} (hM : Moves Gd) {o : Oper} {a : Act} {K : Act → World → Prop} {Q : Exit → Act → World → Prop} {w : World} (s x : Operand) (ho : o.op = .call { callee := .builtin .append, args := #[s, x], argTypes := #[TS, TS] }) (F lo gB : Nat) (l : List α) (y : α) (ov : Option Addr) (cv : Nat) (cs : Array Value)
    (hs : a.eval s = .slice ov l.length cv) (hx : a.eval x = .slice (some ⟨gB, 0, none⟩) 1 1) (hr : RwO z e Gd F w ov cv l) (hk : Blk w gB cs e) (hl : cs.size = z) (h1 : ∀ u ∈ cs.toList, u.oneCell' = true)
    (hg : Gd (low lo) w y (cut z (fun j => cs.toList[j]?))) (hlo : F ≤ lo) (hrl : ∀ g, Value.ownBlock (.slice ov 0 0) = some g → g < lo) (hF : F ≤ w.heap.size) (hn : l.length + 1 ≤ 3000000)
    (h : ∀ o' c' w', RwO z e Gd F w' o' c' (l ++ [y]) → w.grownBy w' (Value.ownBlock (.slice ov 0 0)) → K (a.put o.dst (.slice o' (l ++ [y]).length c')) w') : o.wp Tryd.prog a w K Q := by
  refine app_rw hu hinfo hzc hz0 hby s x ho (Gd (inS F ov) w) F l [y] ov (some ⟨gB, 0, none⟩) cv 1 hs hx hr cs.toList (by rw [Array.length_toList, hl]; simp) (fun e => (by cases e)) (fun ad e j u hu => by cases e; rw [Addr.add_lit, Nat.zero_add]; exact hk.cell j u (by rw [← Array.getElem?_toList]; exact hu)) h1 (fun i hi => ?_) hF hn (fun o' c' w' hw hgr hat => h o' c' w' ?_ (by rw [← ob_eq ov l.length cv]; exact hgr))
  · have hi0 : i = 0 := by simpa using hi
    subst hi0
    have e0 : cut z (fun j => cs.toList[0 * z + j]?) = cut z (fun j => cs.toList[j]?) := cut_eq (fun j hj => by rw [Nat.zero_mul, Nat.zero_add])
    rw [e0]
    exact hM _ _ _ _ _ _ hg (Mv.less (fun g hg2 => inS_no.2 ⟨Nat.le_trans hlo (low_no.1 hg2), fun e => by have := hrl g e; have := low_no.1 hg2; omega⟩))
  · refine hw.imp (fun x f hx => hM _ _ _ _ _ _ hx ⟨hgr.size, fun g hg2 hS => ?_⟩)
    obtain ⟨q1, q2⟩ := inS_no.1 hS
    refine ⟨hgr.block g hg2 (fun e => q2 (by rw [← ob_eq ov l.length cv]; exact e.symm)), inS_no.2 ⟨q1, fun e => ?_⟩⟩
    rw [← ob_eq o' (l ++ [y]).length c'] at e
    rcases hat with h9 | h9
    · rw [h9, ob_eq] at e; exact q2 e
    · rw [h9] at e; injection e with e; omega
theorem appL_ro {α : Type} {z e by_ : Nat} {zv : Value} {TS : TypeId} (hu : Tryd.prog.underlying TS = some (.slice e)) (hinfo : (Tryd.prog.info? e).map (fun i => (i.zero, i.size, i.bytes)) = some (some zv, z, by_)) (hzc : zv.cells.size = z) (hz0 : 0 < z) (hby : by_ ≤ 200)
    {Gd : (Nat → Bool) → World → α → (Nat → Option Value) → Prop} (hM : Moves Gd) {ops : Array Oper} {rest : List Oper} {o : Oper} {a : Act} {Q : Exit → Act → World → Prop} {w : World} (hgd : o.guard = none) (s x : Operand) (ho : o.op = .call { callee := .builtin .append, args := #[s, x], argTypes := #[TS, TS] }) (F lo gB : Nat) (l : List α) (y : α) (ov : Option Addr) (cv : Nat) (cs : Array Value)
    (hs : a.eval s = .slice ov l.length cv) (hx : a.eval x = .slice (some ⟨gB, 0, none⟩) 1 1) (hr : RwO z e Gd F w ov cv l) (hk : Blk w gB cs e) (hl : cs.size = z) (h1 : ∀ u ∈ cs.toList, u.oneCell' = true)
    (hg : Gd (low lo) w y (cut z (fun j => cs.toList[j]?))) (hlo : F ≤ lo) (hrl : ∀ g, Value.ownBlock (.slice ov 0 0) = some g → g < lo) (hF : F ≤ w.heap.size) (hn : l.length + 1 ≤ 3000000)
    (h : ∀ o' c' w', RwO z e Gd F w' o' c' (l ++ [y]) → w.grownBy w' (Value.ownBlock (.slice ov 0 0)) → wpList Tryd.prog ops Q rest (a.put o.dst (.slice o' (l ++ [y]).length c')) w') : wpList Tryd.prog ops Q (o :: rest) a w :=
  wpList_plain hgd fun K hK => app_ro hu hinfo hzc hz0 hby hM s x ho F lo gB l y ov cv cs hs hx hr hk hl h1 hg hlo hrl hF hn fun o' c' w' h2 h3 => hK _ _ (h o' c' w' h2 h3)
/-- A row that was made. -/
theorem RwO.made {α : Type} {z e : Nat} {Gd : (Nat → Bool) → World → α → (Nat → Option Value) → Prop} {W : World} {cs : Array Value} {n : Nat} (hs : cs.size = n * z) (hn : n ≤ 4000000) : RwO z e Gd W.heap.size (W.alloc (.cells cs e)) (some ⟨W.heap.size, 0, none⟩) n ([] : List α) :=
  ⟨[], World.ownsRow_made W cs n (Nat.le_refl _) (by unfold maxLen; omega) hs, fun u h => (by cases h), fun i h => (by cases h)⟩
/-- A text's cell. -/
def GdT (S : Nat → Bool) (W : World) (x : ByteArray) (c : Nat → Option Value) : Prop := c 0 = some (.string x)
theorem infoStrZ : (Tryd.prog.info? 9).map (fun i => (i.zero, i.size, i.bytes)) = some (some (.string ⟨#[]⟩), 1, 16) := by kernel_rfl
set_option maxRecDepth 100000 in
set_option maxHeartbeats 4000000 in
theorem texts_c (l : List ByteArray) (o : Option Addr) (c B : Nat) (w : World) (hl : TxIn w B o l) (hB : B ≤ w.heap.size) (hn : l.length ≤ 3000000) :
    Calls Tryd.prog 24 #[.slice o l.length c] w fun e w' => ∃ o' c', e = .returned (.slice o' l.length c') ∧ TxIn (Ms (low w.heap.size) w') w'.heap.size o' l ∧ Below w.heap.size w w' := by
  obtain ⟨i0, hi, hz, hsz, hb⟩ := info_parts16 infoStrZ
  obtain ⟨n, hnn⟩ : ∃ n, l.length = n := ⟨_, rfl⟩
  have hmk : ∀ W : World, (Instr.makeSlice 24 (.int .i64 0) (.int .i64 ((n : Int) + 2))).run Tryd.prog W = .ok (.slice (some ⟨W.heap.size, 0, none⟩) 0 (n + 2)) (W.alloc (.cells (madeCells #[.string ⟨#[]⟩] (n + 2)) 9)) := by
    intro W
    have hr := run_make (P := Tryd.prog) W 24 9 i0 _ Tryd.underlying24 hi hz .i64 .i64 0 ((n : Int) + 2) (by omega) (by omega) (by rw [hb]; omega) (by omega)
    rw [hsz, show ((n : Int) + 2).toNat = n + 2 by omega, Nat.mul_one] at hr
    exact hr
  obtain ⟨V, hV⟩ : ∃ V, w.alloc (.cells (madeCells #[.string ⟨#[]⟩] (n + 2)) 9) = V := ⟨_, rfl⟩
  have HV : Hid (w.alloc (.cells (madeCells #[.string ⟨#[]⟩] (n + 2)) 9) = V) := hV
  have bV : Below w.heap.size w V := by rw [← hV]; exact below1 w _
  have HR : Hid (RwG 1 9 (fun x c => GdT (low 0) w x c) w.heap.size V (some ⟨w.heap.size, 0, none⟩) (n + 2) ([] : List ByteArray)) := by
    have h : RwO 1 9 GdT w.heap.size V (some ⟨w.heap.size, 0, none⟩) (n + 2) ([] : List ByteArray) := by rw [← hV]; exact RwO.made (by rw [size_madeCells, Nat.mul_one]) (by omega)
    exact h
  have HB : Hid (Below w.heap.size w V ∧ w.heap.size ≤ V.heap.size) := ⟨bV, bV.size⟩
  have HNw : Hid ((o = none → l = []) ∧ (∀ ad, o = some ad → ∀ j u, (l.map Value.string)[j]? = some u → V.cell? (ad.add j) = some u) ∧ (∀ u ∈ l.map Value.string, u.oneCell' = true) ∧ ∀ i (h : i < l.length), GdT (low 0) w l[i] (cut 1 (fun j => (l.map Value.string)[i * 1 + j]?))) := by
    refine ⟨fun e => ?_, fun ad e j u hu => ?_, fun u hu => ?_, fun i h => ?_⟩
    · rcases hl with h | ⟨g, off, e', -⟩
      · exact h
      · rw [e] at e'; cases e'
    · rcases hl with h | ⟨g, off, e', hg, h⟩
      · rw [h] at hu; cases hu
      · rw [e'] at e; cases e
        rw [List.getElem?_map] at hu
        obtain ⟨y, hy, rfl⟩ := Option.map_eq_some_iff.1 hu
        obtain ⟨hj, rfl⟩ := List.getElem?_eq_some_iff.1 hy
        rw [Addr.add_lit]
        exact (bV.cell (p := ⟨g, off + j, none⟩) (by show g < _; omega)).trans (h j hj)
    · obtain ⟨y, -, rfl⟩ := List.mem_map.1 hu; rfl
    · show (if 0 < 1 then (l.map Value.string)[i * 1 + 0]? else none) = _
      rw [if_pos (by decide), Nat.mul_one, Nat.add_zero, List.getElem?_map, List.getElem?_eq_getElem h]; rfl
  have HL : Hid (l.length = n ∧ n ≤ 3000000) := ⟨hnn, by omega⟩
  have hni : (n : Int) ≤ 3000000 := by omega
  rw [hnn]
  clear hl hB hn hnn hi hz hsz hb hV bV
  go_enter Tryd.func24, Tryd.ntmps24
  go_wp2_with (at_builtin; rw [HV.out]; refine appL_rw Tryd.underlying24 infoStrZ rfl (by decide) (by decide) rfl _ _ rfl (fun x c => GdT (low 0) w x c) w.heap.size [] l (some ⟨w.heap.size, 0, none⟩) o (n + 2) c rfl (by rw [HL.out.1]; rfl) HR.out (l.map Value.string) (by rw [List.length_map, Nat.mul_one]) HNw.out.1 HNw.out.2.1 HNw.out.2.2.1 HNw.out.2.2.2 HB.out.2 (by have := HL.out; show 0 + l.length ≤ _; omega) (fun o' c' w' hown hgr hat => ?_); have HW : Hid (RwG 1 9 (fun x c => GdT (low 0) w x c) w.heap.size w' o' c' l ∧ Below w.heap.size w w') := ⟨hown, HB.out.1.grown hgr HB.out.2 (fun k e => by cases e; exact Nat.le_refl _)⟩; clear hown hgr hat)
  go_ret
  refine ⟨o', c', by show Ending.returned (.slice o' ([] ++ l).length c') = _; rw [List.nil_append, HL.out.1], ?_, HW.out.2⟩
  by_cases h0 : l = []
  · exact .inl h0
  · have hp : 0 < l.length := List.length_pos_iff.2 h0
    obtain ⟨g, e1, hg1, hg2, -⟩ := HW.out.1.at hp
    refine .inr ⟨g, 0, e1, hg2, fun k hk => ?_⟩
    obtain ⟨g', e2, -, -, hG⟩ := HW.out.1.at hk
    rw [e1] at e2; cases e2
    rw [ms_cell, low_no.2 hg1]
    have : (if 0 < 1 then w'.cell? ⟨g, k * 1 + 0, none⟩ else none) = some (.string l[k]) := hG
    rw [if_pos (by decide), Nat.mul_one, Nat.add_zero] at this
    rw [Nat.zero_add]
    exact this
end Go.Proofs.YtjmpjfggbhongaaDoor
