/-
  Rows of one's own, in general; the document's answer for sizes (thunkmillref07): Parts, measure, Within, Long, by contracts.
-/
import Derived.Test.YtjmpjfggbhongaaDoorZf
namespace Go.Proofs.YtjmpjfggbhongaaDoor
open Go.RowKit Go.Shelf Go.Maps
set_option linter.unusedVariables false

/-- An expression's cells. -/
def ExC (W : World) (B d : Nat) (t : Tr d) (c : Nat → Option Value) : Prop := ∃ k0 k1 k2 p3 l3 m3 p4 l4 m4 p5 l5 m5 p6 l6 m6, c 0 = some (.int .i64 k0) ∧ c 1 = some (.string k1) ∧ c 2 = some (.int .i64 k2) ∧ c 3 = some (.slice p3 l3 m3) ∧ c 4 = some (.slice p4 l4 m4) ∧ c 5 = some (.slice p5 l5 m5) ∧ c 6 = some (.slice p6 l6 m6) ∧ ExVd W B d t (.agg #[.int .i64 k0, .string k1, .int .i64 k2, .slice p3 l3 m3, .slice p4 l4 m4, .slice p5 l5 m5, .slice p6 l6 m6])
theorem Ld7.exC {W : World} {B d : Nat} {t : Tr d} {g off : Nat} (h : Ld7 W B d t g off) : ExC W B d t (fun j => W.cell? ⟨g, off + j, none⟩) := h
theorem ExC.ld7 {W W' : World} {B d : Nat} {t : Tr d} {c : Nat → Option Value} (h : ExC W B d t c) {g off : Nat} (hc : ∀ j, j < 7 → W'.cell? ⟨g, off + j, none⟩ = c j) (hV : ∀ v, ExVd W B d t v → ExVd W' B d t v) : Ld7 W' B d t g off := by
  obtain ⟨k0, k1, k2, p3, l3, m3, p4, l4, m4, p5, l5, m5, p6, l6, m6, z0, z1, z2, z3, z4, z5, z6, zv⟩ := h
  exact ⟨k0, k1, k2, p3, l3, m3, p4, l4, m4, p5, l5, m5, p6, l6, m6, (hc 0 (by decide)).trans z0, (hc 1 (by decide)).trans z1, (hc 2 (by decide)).trans z2, (hc 3 (by decide)).trans z3, (hc 4 (by decide)).trans z4, (hc 5 (by decide)).trans z5, (hc 6 (by decide)).trans z6, hV _ zv⟩
/-- The first cells alone. -/
def cut (z : Nat) (f : Nat → Option Value) : Nat → Option Value := fun j => if j < z then f j else none
theorem cut_eq {z : Nat} {f g : Nat → Option Value} (h : ∀ j, j < z → f j = g j) : cut z f = cut z g := by
  funext j; unfold cut; by_cases hj : j < z
  · rw [if_pos hj, if_pos hj, h j hj]
  · rw [if_neg hj, if_neg hj]
/-- A row of one's own whose parts are told by their cells. -/
def RwG {α : Type} (z e : Nat) (Good : α → (Nat → Option Value) → Prop) (F : Nat) (W : World) (o : Option Addr) (c : Nat) (l : List α) : Prop :=
  ∃ xs, W.ownsRow F e z (.slice o l.length c) l.length xs ∧ (∀ u ∈ xs, u.oneCell' = true) ∧ ∀ i (h : i < l.length), Good l[i] (cut z (fun j => xs[i * z + j]?))
theorem RwG.nil {α : Type} {z e : Nat} {Good : α → (Nat → Option Value) → Prop} (F : Nat) (W : World) : RwG z e Good F W none 0 ([] : List α) := ⟨[], owns_nil W F e z, fun u h => (by cases h), fun i h => (by cases h)⟩
theorem RwG.below {α : Type} {z e : Nat} {Good : α → (Nat → Option Value) → Prop} {F : Nat} {W W' : World} {o : Option Addr} {c : Nat} {l : List α} (h : RwG z e Good F W o c l) (hb : Below W.heap.size W W') : RwG z e Good F W' o c l := by
  obtain ⟨xs, h1, h2, h3⟩ := h
  exact ⟨xs, owns_same16 h1 (fun g hg => hb.block g (owns_lt h1 hg).2), h2, h3⟩
theorem RwG.mono {α : Type} {z e : Nat} {Good : α → (Nat → Option Value) → Prop} {F F' : Nat} {W : World} {o : Option Addr} {c : Nat} {l : List α} (h : RwG z e Good F W o c l) (hF : F' ≤ F) : RwG z e Good F' W o c l := by
  obtain ⟨xs, h1, h2, h3⟩ := h
  exact ⟨xs, owns_mono4 h1 hF, h2, h3⟩
theorem RwG.imp {α : Type} {z e : Nat} {Good Good' : α → (Nat → Option Value) → Prop} {F : Nat} {W : World} {o : Option Addr} {c : Nat} {l : List α} (h : RwG z e Good F W o c l) (hG : ∀ x f, Good x f → Good' x f) : RwG z e Good' F W o c l := by
  obtain ⟨xs, h1, h2, h3⟩ := h
  exact ⟨xs, h1, h2, fun i hi => hG _ _ (h3 i hi)⟩
theorem RwG.blk {α : Type} {z e : Nat} {Good : α → (Nat → Option Value) → Prop} {F : Nat} {W : World} {o : Option Addr} {c : Nat} {l : List α} (h : RwG z e Good F W o c l) {g : Nat} (hg : Value.ownBlock (.slice o l.length c) = some g) : F ≤ g ∧ g < W.heap.size := by
  obtain ⟨xs, h1, h2, h3⟩ := h
  exact owns_lt h1 hg
theorem RwG.ne {α : Type} {z e : Nat} {Good : α → (Nat → Option Value) → Prop} {F : Nat} {W : World} {o : Option Addr} {c : Nat} {l : List α} (h : RwG z e Good F W o c l) {b : Nat} {vs : Array Value} {T : TypeId} (hb : Blk W b vs T) (hT : T ≠ e) : some b ≠ Value.ownBlock (.slice o l.length c) := by
  obtain ⟨xs, h1, -⟩ := h
  intro e'
  rcases h1.2 with ⟨e1, -⟩ | ⟨g, cap, cur, e1, -, h3, -⟩
  · rw [e1] at e'; cases e'
  · rw [e1] at e'
    have : b = g := Option.some.inj e'
    subst this
    have := hb.symm.trans h3
    injection this with this
    injection this with _ e2 _
    exact hT e2
/-- Where a part lies. -/
theorem RwG.at {α : Type} {z e : Nat} {Good : α → (Nat → Option Value) → Prop} {F : Nat} {W : World} {o : Option Addr} {c : Nat} {l : List α} (h : RwG z e Good F W o c l) {k : Nat} (hk : k < l.length) : ∃ g, o = some ⟨g, 0, none⟩ ∧ F ≤ g ∧ g < W.heap.size ∧ Good l[k] (cut z (fun j => W.cell? ⟨g, k * z + j, none⟩)) := by
  obtain ⟨xs, h1, h2, h3⟩ := h
  rcases h1.2 with ⟨e1, hl⟩ | ⟨g, cap, cur, e1, hF, hb, -⟩
  · omega
  · have e2 := e1
    injection e2 with e2 _ e3
    subst e2
    refine ⟨g, rfl, hF, (Array.getElem?_eq_some_iff.1 hb).1, ?_⟩
    have : cut z (fun j => W.cell? ⟨g, k * z + j, none⟩) = cut z (fun j => xs[k * z + j]?) := cut_eq (fun j hj => by
      refine World.ownsRow.cellAt h1 (k * z + j) ?_
      have : (k + 1) * z ≤ l.length * z := Nat.mul_le_mul_right z hk
      rw [Nat.succ_mul] at this
      omega)
    rw [this]
    exact h3 k hk
theorem run_append_none0 {P : Program} {w : World} (base : Nat) (t ty e : TypeId) (i : TypeInfo) (size : Nat) (ht : P.underlying t = some (.slice e)) (hi : P.info? e = some i) (v : Value) (n : Nat) (xs : List Value) (hown : w.ownsRow base e size v n xs) (c : Nat) :
    (Builtin.append_ #[t, t] ty #[v, .slice none 0 c]).run P w = .ok v w := by
  rcases hown.2 with ⟨rfl, rfl⟩ | ⟨g, cap, cur, rfl, _, _, hnc, _⟩
  · simp [Builtin.append_, run_underlying ht, sizeOf, typeInfo, hi, Builtin.lenOf, Builtin.firstCells]
  · simp [Builtin.append_, run_underlying ht, sizeOf, typeInfo, hi, Builtin.lenOf, Builtin.firstCells, hnc, storeCells]
set_option maxHeartbeats 2000000 in
set_option maxRecDepth 100000 in
/-- append, of a row of one's own and some parts more. -/
theorem app_rw {α : Type} {z e by_ : Nat} {zv : Value} {TS : TypeId} (hu : Tryd.prog.underlying TS = some (.slice e)) (hinfo : (Tryd.prog.info? e).map (fun i => (i.zero, i.size, i.bytes)) = some (some zv, z, by_)) (hzc : zv.cells.size = z) (hz0 : 0 < z) (hby : by_ ≤ 200)
    {o : Oper} {a : Act} {K : Act → World → Prop} {Q : Exit → Act → World → Prop} {w : World} (s x : Operand) (ho : o.op = .call { callee := .builtin .append, args := #[s, x], argTypes := #[TS, TS] }) (Good : α → (Nat → Option Value) → Prop) (F : Nat) (l l' : List α) (ov ov' : Option Addr) (cv cv' : Nat)
    (hs : a.eval s = .slice ov l.length cv) (hx : a.eval x = .slice ov' l'.length cv') (hr : RwG z e Good F w ov cv l) (news : List Value) (hl : news.length = l'.length * z) (hc : ov' = none → l' = []) (hnews : ∀ ad, ov' = some ad → ∀ j u, news[j]? = some u → w.cell? (ad.add j) = some u) (h1 : ∀ u ∈ news, u.oneCell' = true)
    (hg : ∀ i (h : i < l'.length), Good l'[i] (cut z (fun j => news[i * z + j]?))) (hF : F ≤ w.heap.size) (hn : l.length + l'.length ≤ 3000000)
    (h : ∀ o' c' w', RwG z e Good F w' o' c' (l ++ l') → w.grownBy w' (Value.ownBlock (.slice ov l.length cv)) → (Value.ownBlock (.slice o' (l ++ l').length c') = Value.ownBlock (.slice ov l.length cv) ∨ Value.ownBlock (.slice o' (l ++ l').length c') = some w.heap.size) → K (a.put o.dst (.slice o' (l ++ l').length c')) w') : o.wp Tryd.prog a w K Q := by
  obtain ⟨i, hi, hz, hsz, hb⟩ := info_parts16 hinfo
  obtain ⟨xs, r1, r2, r3⟩ := id hr
  cases ov' with
  | none =>
    have hl0 := hc rfl
    subst hl0
    have hrr := run_append_none0 (P := Tryd.prog) (w := w) F TS o.type e i z hu hi _ _ _ r1 cv'
    unfold Oper.wp execOp
    simp only [ho, resolve, invoke, builtin, Sem.run_bind, Sem.run_pure, Result.andThen_ok, List.map_toArray, List.map_cons, List.map_nil, hs, hx]
    rw [show (Builtin.append_ #[TS, TS] o.type #[Value.slice ov l.length cv, Value.slice none ([] : List α).length cv']).run Tryd.prog w = _ from hrr]
    have := h ov cv w (by rw [List.append_nil]; exact hr) ⟨rfl, rfl, rfl, Nat.le_refl _, fun _ _ _ => rfl⟩ (.inl (by rw [List.append_nil]))
    rw [List.append_nil] at this
    exact this
  | some ad =>
    have hm : (l.length + l'.length) * by_ ≤ 140737488355328 := Nat.le_trans (Nat.mul_le_mul hn hby) (by omega)
    obtain ⟨v', w', hrr, h2, h3, -, h4⟩ := run_append_own_at (P := Tryd.prog) w F TS o.type e i zv z by_ hu hi hz hsz hb hzc hz0 _ l.length _ r1 ad l'.length cv' news hl (hnews ad rfl) h1 (by unfold maxLen; omega) hm hF
    unfold Oper.wp execOp
    simp only [ho, resolve, invoke, builtin, Sem.run_bind, Sem.run_pure, Result.andThen_ok, List.map_toArray, List.map_cons, List.map_nil, hs, hx, hrr]
    obtain ⟨o2, c2, rfl, -, -⟩ := owns_form h2
    have hxl := r1.1
    have := h o2 c2 w' ⟨xs ++ news, by rw [List.length_append]; exact h2, fun u hu => (List.mem_append.1 hu).elim (r2 u) (h1 u), fun i hi => ?_⟩ h3 (by rw [List.length_append]; exact h4)
    · rw [List.length_append] at this
      exact this
    · by_cases hil : i < l.length
      · rw [List.getElem_append_left hil]
        have : cut z (fun j => (xs ++ news)[i * z + j]?) = cut z (fun j => xs[i * z + j]?) := cut_eq (fun j hj => by
          refine List.getElem?_append_left ?_
          have : (i + 1) * z ≤ l.length * z := Nat.mul_le_mul_right z hil
          rw [Nat.succ_mul] at this
          omega)
        rw [this]; exact r3 i hil
      · have hi2 : i < l.length + l'.length := by rw [← List.length_append]; exact hi
        rw [List.getElem_append_right (by omega)]
        have : cut z (fun j => (xs ++ news)[i * z + j]?) = cut z (fun j => news[(i - l.length) * z + j]?) := cut_eq (fun j hj => by
          have e1 : i * z = l.length * z + (i - l.length) * z := by rw [← Nat.add_mul]; congr 1; omega
          rw [List.getElem?_append_right (by omega)]
          congr 1
          omega)
        rw [this]; exact hg _ (by omega)
theorem appL_rw {α : Type} {z e by_ : Nat} {zv : Value} {TS : TypeId} (hu : Tryd.prog.underlying TS = some (.slice e)) (hinfo : (Tryd.prog.info? e).map (fun i => (i.zero, i.size, i.bytes)) = some (some zv, z, by_)) (hzc : zv.cells.size = z) (hz0 : 0 < z) (hby : by_ ≤ 200)
    {ops : Array Oper} {rest : List Oper} {o : Oper} {a : Act} {Q : Exit → Act → World → Prop} {w : World} (hgd : o.guard = none) (s x : Operand) (ho : o.op = .call { callee := .builtin .append, args := #[s, x], argTypes := #[TS, TS] }) (Good : α → (Nat → Option Value) → Prop) (F : Nat) (l l' : List α) (ov ov' : Option Addr) (cv cv' : Nat)
    (hs : a.eval s = .slice ov l.length cv) (hx : a.eval x = .slice ov' l'.length cv') (hr : RwG z e Good F w ov cv l) (news : List Value) (hl : news.length = l'.length * z) (hc : ov' = none → l' = []) (hnews : ∀ ad, ov' = some ad → ∀ j u, news[j]? = some u → w.cell? (ad.add j) = some u) (h1 : ∀ u ∈ news, u.oneCell' = true)
    (hg : ∀ i (h : i < l'.length), Good l'[i] (cut z (fun j => news[i * z + j]?))) (hF : F ≤ w.heap.size) (hn : l.length + l'.length ≤ 3000000)
    (h : ∀ o' c' w', RwG z e Good F w' o' c' (l ++ l') → w.grownBy w' (Value.ownBlock (.slice ov l.length cv)) → (Value.ownBlock (.slice o' (l ++ l').length c') = Value.ownBlock (.slice ov l.length cv) ∨ Value.ownBlock (.slice o' (l ++ l').length c') = some w.heap.size) → wpList Tryd.prog ops Q rest (a.put o.dst (.slice o' (l ++ l').length c')) w') : wpList Tryd.prog ops Q (o :: rest) a w :=
  wpList_plain hgd fun K hK => app_rw hu hinfo hzc hz0 hby s x ho Good F l l' ov ov' cv cv' hs hx hr news hl hc hnews h1 hg hF hn fun o' c' w' h2 h3 h4 => hK _ _ (h o' c' w' h2 h3 h4)
theorem infoExpr16 : (Tryd.prog.info? 29).map (fun i => (i.zero, i.size, i.bytes)) = some (some (.agg #[.int .i64 0, .string ⟨#[]⟩, .int .i64 0, .slice none 0 0, .slice none 0 0, .slice none 0 0, .slice none 0 0]), 7, 128) := by kernel_rfl
/-- The cells of a row of expressions. -/
theorem row_news {W : World} {B d : Nat} {o : Option Addr} {l : List (Tr d)} (h : RowIn B 7 (fun (x : Tr d) g off => ExAt W B d x g off) o l) : ∃ news : List Value, news.length = l.length * 7 ∧ (o = none → l = []) ∧ (∀ ad, o = some ad → ∀ j u, news[j]? = some u → W.cell? (ad.add j) = some u) ∧ (∀ u ∈ news, u.oneCell' = true) ∧ ∀ i (hi : i < l.length), ExC W B d l[i] (cut 7 (fun j => news[i * 7 + j]?)) := by
  rcases h with rfl | ⟨g, off, rfl, hg, h⟩
  · exact ⟨[], rfl, fun _ => rfl, fun ad _ j u hu => (by cases hu), fun u hu => (by cases hu), fun i hi => (by cases hi)⟩
  · obtain ⟨f, hf⟩ : ∃ f : Nat → Option Value, (fun j => W.cell? ⟨g, off + j, none⟩) = f := ⟨_, rfl⟩
    have hX : ∀ i (hi : i < l.length), ExC W B d l[i] (cut 7 (fun j => f (i * 7 + j))) := fun i hi => by
      obtain ⟨k0, k1, k2, p3, l3, m3, p4, l4, m4, p5, l5, m5, p6, l6, m6, z0, z1, z2, z3, z4, z5, z6, zv⟩ := ld7 d _ _ _ (h i hi)
      rw [← hf]
      exact ⟨k0, k1, k2, p3, l3, m3, p4, l4, m4, p5, l5, m5, p6, l6, m6, z0, by rw [Nat.add_assoc] at z1; exact z1, by rw [Nat.add_assoc] at z2; exact z2, by rw [Nat.add_assoc] at z3; exact z3, by rw [Nat.add_assoc] at z4; exact z4, by rw [Nat.add_assoc] at z5; exact z5, by rw [Nat.add_assoc] at z6; exact z6, zv⟩
    have hone : ∀ j, j < l.length * 7 → ∃ u, f j = some u ∧ u.oneCell' = true := fun j hj => by
      have hi : j / 7 < l.length := by omega
      obtain ⟨k0, k1, k2, p3, l3, m3, p4, l4, m4, p5, l5, m5, p6, l6, m6, z0, z1, z2, z3, z4, z5, z6, zv⟩ := hX (j / 7) hi
      have e : j = j / 7 * 7 + j % 7 := by omega
      have hr : j % 7 < 7 := Nat.mod_lt _ (by decide)
      have hc : f j = cut 7 (fun j' => f (j / 7 * 7 + j')) (j % 7) := by unfold cut; rw [if_pos hr]; show f j = f (j / 7 * 7 + j % 7); rw [← e]
      rw [hc]
      generalize j % 7 = r at hr
      match r, hr with
      | 0, _ => exact ⟨_, z0, rfl⟩
      | 1, _ => exact ⟨_, z1, rfl⟩
      | 2, _ => exact ⟨_, z2, rfl⟩
      | 3, _ => exact ⟨_, z3, rfl⟩
      | 4, _ => exact ⟨_, z4, rfl⟩
      | 5, _ => exact ⟨_, z5, rfl⟩
      | 6, _ => exact ⟨_, z6, rfl⟩
    have hget : ∀ j, j < l.length * 7 → ((List.range (l.length * 7)).map (fun j => (f j).getD undef))[j]? = f j := fun j hj => by
      obtain ⟨u, hu, -⟩ := hone j hj
      rw [List.getElem?_map, List.getElem?_range hj]
      simp [hu]
    refine ⟨(List.range (l.length * 7)).map (fun j => (f j).getD undef), by simp, fun e => (by cases e), fun ad e j u hu => ?_, fun u hu => ?_, fun i hi => ?_⟩
    · cases e
      have hj : j < l.length * 7 := by
        have := (List.getElem?_eq_some_iff.1 hu).1
        simpa using this
      rw [hget j hj] at hu
      rw [Addr.add_lit, ← hu, ← hf]
    · obtain ⟨j, hj, rfl⟩ := List.mem_map.1 hu
      obtain ⟨u, hu, h1⟩ := hone j (List.mem_range.1 hj)
      rw [hu]; exact h1
    · have : cut 7 (fun j => ((List.range (l.length * 7)).map (fun j => (f j).getD undef))[i * 7 + j]?) = cut 7 (fun j => f (i * 7 + j)) := cut_eq (fun j hj => hget _ (by omega))
      rw [this]; exact hX i hi
/-- The expressions that stand right within one. -/
def partsM {d : Nat} (t : Tr (d + 1)) : List (Tr d) := (TrN.binds t).map Prod.snd ++ TrN.args t ++ (TrN.alts t).map Prod.snd
theorem sizeM_parts {d : Nat} (t : Tr (d + 1)) : sizeM (d + 1) t = 1 + ((partsM t).map (sizeM d)).sum := by
  unfold partsM
  rw [List.map_append, List.map_append, List.sum_append, List.sum_append, List.map_map, List.map_map]
  show 1 + ((TrN.binds t).map fun b => sizeM d b.2).sum + ((TrN.args t).map (sizeM d)).sum + ((TrN.alts t).map fun a => sizeM d a.2).sum = _
  show _ = 1 + (((TrN.binds t).map fun b => sizeM d b.2).sum + ((TrN.args t).map (sizeM d)).sum + ((TrN.alts t).map fun a => sizeM d a.2).sum)
  omega
theorem one7 (k0 k2 : Int) (k1 : ByteArray) (p3 p4 p5 p6 : Option Addr) (l3 m3 l4 m4 l5 m5 l6 m6 : Nat) : ∀ u ∈ [Value.int .i64 k0, .string k1, .int .i64 k2, .slice p3 l3 m3, .slice p4 l4 m4, .slice p5 l5 m5, .slice p6 l6 m6], u.oneCell' = true := by
  intro u hu
  simp only [List.mem_cons, List.not_mem_nil, or_false] at hu
  rcases hu with rfl | rfl | rfl | rfl | rfl | rfl | rfl <;> rfl
set_option maxHeartbeats 16000000 in
set_option maxRecDepth 100000 in
theorem rparts_c (d : Nat) (t : Tr (d + 1)) (va : Value) (B : Nat) (w : World) (ha : ExVal w B d t va) (hB : B ≤ w.heap.size) (ht : (partsM t).length ≤ 3000000) :
    Calls Tryd.prog 90 #[va] w fun e w' => ∃ o c, e = .returned (.slice o (partsM t).length c) ∧ RwG 7 29 (ExC w B d) w.heap.size w' o c (partsM t) ∧ Below w.heap.size w w' := by
  obtain ⟨o3, c3, o4, c4, o5, c5, o6, c6, ea, k3, k4, k5, k6⟩ := id ha
  subst ea
  have hpl : (partsM t).length = (TrN.binds t).length + (TrN.args t).length + (TrN.alts t).length := by unfold partsM; simp only [List.length_append, List.length_map]
  obtain ⟨n3, hn3⟩ : ∃ n, (TrN.params t).length = n := ⟨_, rfl⟩
  obtain ⟨nb, hnb⟩ : ∃ n, (TrN.binds t).length = n := ⟨_, rfl⟩
  obtain ⟨nl, hnl⟩ : ∃ n, (TrN.alts t).length = n := ⟨_, rfl⟩
  obtain ⟨em, hem⟩ : ∃ n, TrN.name t = n := ⟨_, rfl⟩
  obtain ⟨kd, hkd⟩ : ∃ n, TrN.kind t = n := ⟨_, rfl⟩
  obtain ⟨nu, hnu⟩ : ∃ n, TrN.num t = n := ⟨_, rfl⟩
  obtain ⟨l5, hl5⟩ : ∃ n, TrN.args t = n := ⟨_, rfl⟩
  rw [hl5] at k5 hpl
  rw [hn3, hnb, hl5, hnl, hem, hkd, hnu]
  obtain ⟨V, hV⟩ : ∃ V, w.alloc (.cells #[.int .i64 kd, .string em, .int .i64 nu, .slice o3 n3 c3, .slice o4 nb c4, .slice o5 l5.length c5, .slice o6 nl c6] 29) = V := ⟨_, rfl⟩
  have kV : Blk V w.heap.size #[.int .i64 kd, .string em, .int .i64 nu, .slice o3 n3 c3, .slice o4 nb c4, .slice o5 l5.length c5, .slice o6 nl c6] 29 := by rw [← hV]; exact Blk.new w _ _
  have bV : Below w.heap.size w V := by rw [← hV]; exact below1 w _
  obtain ⟨ab, hab⟩ : ∃ ab, w.heap.size = ab := ⟨_, rfl⟩
  obtain ⟨PB, hPB⟩ : ∃ P : World → Prop, (fun W => Blk W ab #[.int .i64 kd, .string em, .int .i64 nu, .slice o3 n3 c3, .slice o4 nb c4, .slice o5 l5.length c5, .slice o6 nl c6] 29 ∧ Below w.heap.size w W) = P := ⟨_, rfl⟩
  have HC : Hid (∀ W, PB W → W.cell? ⟨ab, 4, none⟩ = some (.slice o4 nb c4) ∧ W.cell? ⟨ab, 5, none⟩ = some (.slice o5 l5.length c5) ∧ W.cell? ⟨ab, 6, none⟩ = some (.slice o6 nl c6) ∧ ab < W.heap.size) := by
    intro W hW
    rw [← hPB] at hW
    obtain ⟨hk, -⟩ := hW
    exact ⟨hk.cell 4 _ rfl, hk.cell 5 _ rfl, hk.cell 6 _ rfl, hk.lt⟩
  have HPB : Hid (∀ W, PB W → Below w.heap.size w W) := fun W hW => by rw [← hPB] at hW; exact hW.2
  have HAB : Hid (∀ W, PB W → ab + 1 ≤ W.heap.size) := fun W hW => (HC.out W hW).2.2.2
  have HKV : Hid (PB V) := by
    have h : PB V := by rw [← hPB]; exact ⟨by rw [← hab]; exact kV, bV⟩
    exact h
  have HKb : Hid (∀ W W', PB W → Below W.heap.size W W' → PB W') := fun W W' h hb => by
    rw [← hPB] at h ⊢
    exact ⟨h.1.below hb, h.2.trans (hb.mono h.2.size)⟩
  have HKg : Hid (∀ W W' (L : List (Tr d)) ov cv, PB W → RwG 7 29 (ExC w B d) (ab + 1) W ov cv L → W.grownBy W' (Value.ownBlock (.slice ov L.length cv)) → PB W') := fun W W' L ov cv h hr hg => by
    rw [← hPB] at h ⊢
    refine ⟨by unfold Blk; rw [hg.block ab h.1.lt (fun e => by have := (hr.blk e.symm).1; omega)]; exact h.1, h.2.grown hg h.2.size (fun k e => ?_)⟩
    have := (hr.blk e).1
    omega
  have hsame : ∀ W, PB W → ∀ g off, g < B → W.cell? ⟨g, off, none⟩ = w.cell? ⟨g, off, none⟩ := fun W hW g off hg => (HPB.out W hW).cell (p := ⟨g, off, none⟩) (by show g < w.heap.size; omega)
  have HBn : Hid (∀ k (hk : k < (TrN.binds t).length), ∃ g off, o4 = some ⟨g, off, none⟩ ∧ g < B ∧ Ld7 w B d (TrN.binds t)[k].2 g (off + k * 8 + 1)) := by
    intro k hk
    rcases k4 with h9 | ⟨g, off, e, hg, h9⟩
    · rw [h9] at hk; cases hk
    · exact ⟨g, off, e, hg, ld7 d _ _ _ (h9 k hk).2⟩
  have HAl : Hid (∀ k (hk : k < (TrN.alts t).length), ∃ g off, o6 = some ⟨g, off, none⟩ ∧ g < B ∧ Ld7 w B d (TrN.alts t)[k].2 g (off + k * 11 + 4)) := by
    intro k hk
    rcases k6 with h9 | ⟨g, off, e, hg, h9⟩
    · rw [h9] at hk; cases hk
    · obtain ⟨r0, r1, r2, r3, q5⟩ := h9 k hk
      exact ⟨g, off, e, hg, ld7 d _ _ _ q5⟩
  obtain ⟨news, N1, N2, N3, N4, N5⟩ := row_news k5
  have HNs : Hid (news.length = l5.length * 7 ∧ (o5 = none → l5 = []) ∧ (∀ X, PB X → ∀ ad, o5 = some ad → ∀ j u, news[j]? = some u → X.cell? (ad.add j) = some u) ∧ (∀ u ∈ news, u.oneCell' = true) ∧ ∀ i (hi : i < l5.length), ExC w B d l5[i] (cut 7 (fun j => news[i * 7 + j]?))) := by
    refine ⟨N1, N2, fun X hX ad e j u hu => ?_, N4, N5⟩
    have h9 := N3 ad e j u hu
    rcases k5 with h8 | ⟨g, off, e8, hg, -⟩
    · rw [h8] at N1
      rw [List.eq_nil_of_length_eq_zero N1] at hu; cases hu
    · rw [e8] at e; cases e
      rw [Addr.add_lit] at h9 ⊢
      rw [hsame X hX _ _ hg]; exact h9
  have HSm : Hid (∀ W, PB W → ∀ g off, g < B → W.cell? ⟨g, off, none⟩ = w.cell? ⟨g, off, none⟩) := hsame
  have HB : Hid (∀ W g, PB W → g < B → g < W.heap.size) := fun W g hW hg => by have := (HPB.out W hW).size; omega
  have HN : Hid ((TrN.binds t).length = nb ∧ (TrN.alts t).length = nl) := ⟨hnb, hnl⟩
  have hnbI : (nb : Int) ≤ 3000000 := by omega
  have hnlI : (nl : Int) ≤ 3000000 := by omega
  have m1 := stMap_ok ([] : List (Tr d)) (Prod.snd (α := ByteArray)) (TrN.binds t) hnb
  obtain ⟨A1, hA1⟩ : ∃ A, [] ++ (TrN.binds t).map Prod.snd = A := ⟨_, rfl⟩
  have m2 := stMap_ok (A1 ++ l5) (Prod.snd (α := AltH)) (TrN.alts t) hnl
  have hE : partsM t = (A1 ++ l5) ++ (TrN.alts t).map Prod.snd := by unfold partsM; rw [← hA1, ← hl5, List.nil_append]
  rw [hE] at ht hpl ⊢
  obtain ⟨A2, hA2⟩ : ∃ A, (A1 ++ l5) ++ (TrN.alts t).map Prod.snd = A := ⟨_, rfl⟩
  rw [hA2] at m2 ht hpl ⊢
  rw [hA1] at m1
  have hl12 : A1.length + l5.length ≤ A2.length := by rw [← hA2]; simp only [List.length_append]; omega
  generalize stMap ([] : List (Tr d)) (Prod.snd (α := ByteArray)) (TrN.binds t) = G1 at m1
  generalize stMap (A1 ++ l5) (Prod.snd (α := AltH)) (TrN.alts t) = G2 at m2
  have M1 : Hid (G1 0 = [] ∧ (∀ k (h : k < (TrN.binds t).length), G1 (k + 1) = G1 k ++ [(TrN.binds t)[k].2] ∧ (G1 (k + 1)).length ≤ 3000000) ∧ G1 nb = A1 ∧ A1.length + l5.length ≤ 3000000) := ⟨m1.1, fun k h => ⟨m1.2.1 k h, by have := m1.2.2.2 (k + 1); omega⟩, m1.2.2.1, by omega⟩
  have M2 : Hid (G2 0 = A1 ++ l5 ∧ (∀ k (h : k < (TrN.alts t).length), G2 (k + 1) = G2 k ++ [(TrN.alts t)[k].2] ∧ (G2 (k + 1)).length ≤ 3000000) ∧ G2 nl = A2) := ⟨m2.1, fun k h => ⟨m2.2.1 k h, by have := m2.2.2.2 (k + 1); omega⟩, m2.2.2.1⟩
  have HEnd : Hid (w.heap.size = ab) := hab
  have HR0 : Hid (RwG 7 29 (ExC w B d) (ab + 1) V none 0 []) := RwG.nil _ _
  clear ha hB ht k3 k4 k5 k6 hsame kV bV hn3 hnb hl5 hnl hem hkd hnu hPB hE m1 m2 hA1 hA2 hpl hl12 N1 N2 N3 N4 N5
  go_enter Tryd.func90, Tryd.ntmps90
  go_upto_region 3 with fail
  (try rw [hV])
  (try rw [hab])
  clear hV hab
  obtain ⟨q4, q5, q6, ql⟩ := HC.out V HKV.out
  go_wp2
  clear q4 q5 q6 ql
  go_loopw [3, 4] (fun v i wr => ∃ (k : Nat) (L : List (Tr d)) (ov : Option Addr) (cv : Nat), k ≤ nb ∧ v = .slice ov L.length cv ∧ i = .int .i64 k ∧ Hid (L = G1 k) ∧ Hid (RwG 7 29 (ExC w B d) (ab + 1) wr ov cv L) ∧ Hid (PB wr)) (fun _ i _ => nb - (intOf i).toNat)
  case atStart => exact ⟨0, [], none, 0, Nat.zero_le _, rfl, rfl, M1.out.1.symm, HR0, HKV⟩
  case round =>
    clear HKV HR0
    obtain ⟨k, L, ov, cv, hk, rfl, rfl, hL, hR, hS⟩ := hrel
    by_cases hkn : k < nb
    · have hkl : k < (TrN.binds t).length := by rw [HN.out.1]; exact hkn
      obtain ⟨g, off, rfl, hg, hl⟩ := HBn.out k hkl
      obtain ⟨q4, q5, q6, ql⟩ := HC.out wr hS.out
      obtain ⟨k0, k1, k2, p3, l3, m3, p4, l4, m4, p5, q5l, m5, p6, l6, m6, y0, y1, y2, y3, y4, y5, y6, zv⟩ := hl
      have hgw := HB.out wr g hS.out hg
      have z0 := (HSm.out wr hS.out g (off + k * 8 + 1) hg).trans y0
      have z1 := (HSm.out wr hS.out g (off + k * 8 + 1 + 1) hg).trans y1
      have z2 := (HSm.out wr hS.out g (off + k * 8 + 1 + 2) hg).trans y2
      have z3 := (HSm.out wr hS.out g (off + k * 8 + 1 + 3) hg).trans y3
      have z4 := (HSm.out wr hS.out g (off + k * 8 + 1 + 4) hg).trans y4
      have z5 := (HSm.out wr hS.out g (off + k * 8 + 1 + 5) hg).trans y5
      have z6 := (HSm.out wr hS.out g (off + k * 8 + 1 + 6) hg).trans y6
      have HF : Hid (G1 (k + 1) = L ++ [(TrN.binds t)[k].2] ∧ (G1 (k + 1)).length ≤ 3000000) := by rw [hL.out]; exact M1.out.2.1 k hkl
      generalize (TrN.binds t)[k].2 = x at HF zv
      obtain ⟨X, hX⟩ : ∃ X, wr.alloc (.cells #[.int .i64 k0, .string k1, .int .i64 k2, .slice p3 l3 m3, .slice p4 l4 m4, .slice p5 q5l m5, .slice p6 l6 m6] 29) = X := ⟨_, rfl⟩
      have HX : Hid (wr.alloc (.cells #[.int .i64 k0, .string k1, .int .i64 k2, .slice p3 l3 m3, .slice p4 l4 m4, .slice p5 q5l m5, .slice p6 l6 m6] 29) = X) := hX
      have kX : Hid (Blk X wr.heap.size #[.int .i64 k0, .string k1, .int .i64 k2, .slice p3 l3 m3, .slice p4 l4 m4, .slice p5 q5l m5, .slice p6 l6 m6] 29) := by rw [← hX]; exact Blk.new wr _ _
      have bX : Below wr.heap.size wr X := by rw [← hX]; exact below1 wr _
      have hSX : Hid (PB X) := HKb.out _ _ hS.out bX
      have hRX : Hid (RwG 7 29 (ExC w B d) (ab + 1) X ov cv L) := hR.out.below bX
      have HGd : Hid (∀ i (h : i < [x].length), ExC w B d [x][i] (cut 7 (fun j => [.int .i64 k0, .string k1, .int .i64 k2, .slice p3 l3 m3, .slice p4 l4 m4, .slice p5 q5l m5, .slice p6 l6 m6][i * 7 + j]?))) := fun i h => by
        have hi0 : i = 0 := by simpa using h
        subst hi0
        exact ⟨k0, k1, k2, p3, l3, m3, p4, l4, m4, p5, q5l, m5, p6, l6, m6, rfl, rfl, rfl, rfl, rfl, rfl, rfl, zv⟩
      clear hkl hL hg y0 y1 y2 y3 y4 y5 y6 zv hX bX hS hR HBn HAl M1 M2 HNs HSm HB
      go_wp2_with (at_builtin; rw [HX.out]; refine appL_rw Tryd.underlying26 infoExpr16 rfl (by decide) (by decide) rfl _ _ rfl (ExC w B d) (ab + 1) L [x] ov (some ⟨wr.heap.size, 0, none⟩) cv 1 rfl rfl hRX.out [.int .i64 k0, .string k1, .int .i64 k2, .slice p3 l3 m3, .slice p4 l4 m4, .slice p5 q5l m5, .slice p6 l6 m6] rfl (fun e => (by cases e)) (fun ad e j u hu => by cases e; rw [Addr.add_lit, Nat.zero_add]; exact kX.out.cell j u (by simpa using hu)) (one7 _ _ _ _ _ _ _ _ _ _ _ _ _ _ _) HGd.out (HAB.out _ hSX.out) (by have := HF.out.2; rw [HF.out.1, List.length_append] at this; exact this) (fun o' c' y9 hown hgr hat => ?_); have hS3 : Hid (PB y9) := HKg.out _ _ _ _ _ hSX.out hRX.out hgr; have hR3 : Hid (RwG 7 29 (ExC w B d) (ab + 1) y9 o' c' (L ++ [x])) := hown; clear hown hgr hat)
      clear z0 z1 z2 z3 z4 z5 z6 hgw q4 q5 q6 ql HX kX hSX hRX HGd
      go_roundw
      case rel => exact ⟨k + 1, _, o', c', hkn, by rw [List.length_append]; rfl, by go_num, HF.out.1.symm, hR3, hS3⟩
      case measure => simp [intOf]; omega
    · have hke : nb = k := by omega
      subst hke
      obtain ⟨q4, q5, q6, ql⟩ := HC.out wr hS.out
      go_wp2_with (at_builtin; refine appL_rw Tryd.underlying26 infoExpr16 rfl (by decide) (by decide) rfl _ _ rfl (ExC w B d) (ab + 1) L l5 ov o5 cv c5 rfl rfl hR.out news HNs.out.1 HNs.out.2.1 (HNs.out.2.2.1 _ hS.out) HNs.out.2.2.2.1 HNs.out.2.2.2.2 (HAB.out _ hS.out) (by have := M1.out.2.2.2; rw [← M1.out.2.2.1, ← hL.out] at this; exact this) (fun o2 c2 y9 hown hgr hat => ?_); have hS2 : Hid (PB y9) := HKg.out _ _ _ _ _ hS.out hR.out hgr; have hR2 : Hid (RwG 7 29 (ExC w B d) (ab + 1) y9 o2 c2 (L ++ l5)) := hown; clear hown hgr hat)
      clear q4 q5 q6 ql hS hR
      go_loopw [3, 5] (fun v i wr => ∃ (k : Nat) (L : List (Tr d)) (ov : Option Addr) (cv : Nat), k ≤ nl ∧ v = .slice ov L.length cv ∧ i = .int .i64 k ∧ Hid (L = G2 k) ∧ Hid (RwG 7 29 (ExC w B d) (ab + 1) wr ov cv L) ∧ Hid (PB wr)) (fun _ i _ => nl - (intOf i).toNat)
      case atStart => exact ⟨0, L ++ l5, o2, c2, Nat.zero_le _, (by rw [List.length_append]), rfl, (by show L ++ l5 = G2 0; rw [M2.out.1, hL.out, M1.out.2.2.1]), hR2, hS2⟩
      case round =>
        clear hL hR2 hS2 hk hkn
        obtain ⟨k, L, ov, cv, hk, rfl, rfl, hL, hR, hS⟩ := hrel
        by_cases hkn : k < nl
        · have hkl : k < (TrN.alts t).length := by rw [HN.out.2]; exact hkn
          obtain ⟨g, off, rfl, hg, hl⟩ := HAl.out k hkl
          obtain ⟨q4, q5, q6, ql⟩ := HC.out wr hS.out
          obtain ⟨k0, k1, k2, p3, l3, m3, p4, l4, m4, p5, q5l, m5, p6, l6, m6, y0, y1, y2, y3, y4, y5, y6, zv⟩ := hl
          have hgw := HB.out wr g hS.out hg
          have z0 := (HSm.out wr hS.out g (off + k * 11 + 4) hg).trans y0
          have z1 := (HSm.out wr hS.out g (off + k * 11 + 4 + 1) hg).trans y1
          have z2 := (HSm.out wr hS.out g (off + k * 11 + 4 + 2) hg).trans y2
          have z3 := (HSm.out wr hS.out g (off + k * 11 + 4 + 3) hg).trans y3
          have z4 := (HSm.out wr hS.out g (off + k * 11 + 4 + 4) hg).trans y4
          have z5 := (HSm.out wr hS.out g (off + k * 11 + 4 + 5) hg).trans y5
          have z6 := (HSm.out wr hS.out g (off + k * 11 + 4 + 6) hg).trans y6
          have HF : Hid (G2 (k + 1) = L ++ [(TrN.alts t)[k].2] ∧ (G2 (k + 1)).length ≤ 3000000) := by rw [hL.out]; exact M2.out.2.1 k hkl
          generalize (TrN.alts t)[k].2 = x at HF zv
          obtain ⟨X, hX⟩ : ∃ X, wr.alloc (.cells #[.int .i64 k0, .string k1, .int .i64 k2, .slice p3 l3 m3, .slice p4 l4 m4, .slice p5 q5l m5, .slice p6 l6 m6] 29) = X := ⟨_, rfl⟩
          have HX : Hid (wr.alloc (.cells #[.int .i64 k0, .string k1, .int .i64 k2, .slice p3 l3 m3, .slice p4 l4 m4, .slice p5 q5l m5, .slice p6 l6 m6] 29) = X) := hX
          have kX : Hid (Blk X wr.heap.size #[.int .i64 k0, .string k1, .int .i64 k2, .slice p3 l3 m3, .slice p4 l4 m4, .slice p5 q5l m5, .slice p6 l6 m6] 29) := by rw [← hX]; exact Blk.new wr _ _
          have bX : Below wr.heap.size wr X := by rw [← hX]; exact below1 wr _
          have hSX : Hid (PB X) := HKb.out _ _ hS.out bX
          have hRX : Hid (RwG 7 29 (ExC w B d) (ab + 1) X ov cv L) := hR.out.below bX
          have HGd : Hid (∀ i (h : i < [x].length), ExC w B d [x][i] (cut 7 (fun j => [.int .i64 k0, .string k1, .int .i64 k2, .slice p3 l3 m3, .slice p4 l4 m4, .slice p5 q5l m5, .slice p6 l6 m6][i * 7 + j]?))) := fun i h => by
            have hi0 : i = 0 := by simpa using h
            subst hi0
            exact ⟨k0, k1, k2, p3, l3, m3, p4, l4, m4, p5, q5l, m5, p6, l6, m6, rfl, rfl, rfl, rfl, rfl, rfl, rfl, zv⟩
          clear hkl hL hg y0 y1 y2 y3 y4 y5 y6 zv hX bX hS hR HBn HAl M1 M2 HNs HSm HB
          go_wp2_with (at_builtin; rw [HX.out]; refine appL_rw Tryd.underlying26 infoExpr16 rfl (by decide) (by decide) rfl _ _ rfl (ExC w B d) (ab + 1) L [x] ov (some ⟨wr.heap.size, 0, none⟩) cv 1 rfl rfl hRX.out [.int .i64 k0, .string k1, .int .i64 k2, .slice p3 l3 m3, .slice p4 l4 m4, .slice p5 q5l m5, .slice p6 l6 m6] rfl (fun e => (by cases e)) (fun ad e j u hu => by cases e; rw [Addr.add_lit, Nat.zero_add]; exact kX.out.cell j u (by simpa using hu)) (one7 _ _ _ _ _ _ _ _ _ _ _ _ _ _ _) HGd.out (HAB.out _ hSX.out) (by have := HF.out.2; rw [HF.out.1, List.length_append] at this; exact this) (fun o' c' y9 hown hgr hat => ?_); have hS3 : Hid (PB y9) := HKg.out _ _ _ _ _ hSX.out hRX.out hgr; have hR3 : Hid (RwG 7 29 (ExC w B d) (ab + 1) y9 o' c' (L ++ [x])) := hown; clear hown hgr hat)
          clear z0 z1 z2 z3 z4 z5 z6 hgw q4 q5 q6 ql HX kX hSX hRX HGd
          go_roundw
          case rel => exact ⟨k + 1, _, o', c', hkn, by rw [List.length_append]; rfl, by go_num, HF.out.1.symm, hR3, hS3⟩
          case measure => simp [intOf]; omega
        · have hke : nl = k := by omega
          subst hke
          obtain ⟨q4, q5, q6, ql⟩ := HC.out wr hS.out
          go_wp2
          clear q4 q5 q6 ql
          go_ret
          have e5 : L = A2 := by rw [hL.out]; exact M2.out.2.2
          subst e5
          exact ⟨ov, cv, rfl, by rw [HEnd.out]; exact hR.out.mono (Nat.le_succ _), HPB.out _ hS.out⟩
/-- What measure does with an expression of a depth. -/
def MsOK (d : Nat) : Prop := ∀ (t : Tr d) (v : Value) (dp n0 B N : Nat) (w : World), ExVd w B d t v → B ≤ N → Blk w N #[.int .i64 (n0 : Nat)] 3 → n0 + sizeM d t ≤ 1048576 → dp + d ≤ 4097 →
  Calls Tryd.prog 64 #[v, .int .i64 (dp : Nat), .int .i64 4096, .int .i64 1048576, .pointer (some ⟨N, 0, none⟩)] w fun e w' => e = .returned (.bool true) ∧ Blk w' N #[.int .i64 ((n0 + sizeM d t : Nat) : Int)] 3 ∧ But N w w'
theorem But.ofBelow {b : Nat} {W W' : World} (h : Below W.heap.size W W') : But b W W' := ⟨h.os, h.tape, h.output, h.size, fun k hk _ => h.block k hk⟩
theorem parts_len {d : Nat} (t : Tr (d + 1)) : (partsM t).length ≤ ((partsM t).map (sizeM d)).sum := len_le_sum _ _ (fun x _ => sizeM_pos16 d x)
set_option maxHeartbeats 16000000 in
set_option maxRecDepth 100000 in
theorem measure_succ (d : Nat) (ih : MsOK d) (t : Tr (d + 1)) (va : Value) (dp n0 B N : Nat) (w : World) (ha : ExVal w B d t va) (hBN : B ≤ N) (hN : Blk w N #[.int .i64 (n0 : Nat)] 3) (hsz : n0 + sizeM (d + 1) t ≤ 1048576) (hdp : dp + (d + 1) ≤ 4097) :
    Calls Tryd.prog 64 #[va, .int .i64 (dp : Nat), .int .i64 4096, .int .i64 1048576, .pointer (some ⟨N, 0, none⟩)] w fun e w' => e = .returned (.bool true) ∧ Blk w' N #[.int .i64 ((n0 + sizeM (d + 1) t : Nat) : Int)] 3 ∧ But N w w' := by
  have hNl := hN.lt
  have hps := sizeM_parts t
  have hpl := parts_len t
  have hPc : ∀ W : World, (∀ g off, g < B → W.cell? ⟨g, off, none⟩ = w.cell? ⟨g, off, none⟩) → B ≤ W.heap.size → Calls Tryd.prog 90 #[va] W fun e w' => ∃ o c, e = .returned (.slice o (partsM t).length c) ∧ RwG 7 29 (ExC W B d) W.heap.size w' o c (partsM t) ∧ Below W.heap.size W w' := fun W h hs => rparts_c d t va B W (ExVal.same ha h) hs (by omega)
  obtain ⟨o3, c3, o4, c4, o5, c5, o6, c6, ea, k3, k4, k5, k6⟩ := id ha
  subst ea
  obtain ⟨n3, hn3⟩ : ∃ n, (TrN.params t).length = n := ⟨_, rfl⟩
  obtain ⟨nb, hnb⟩ : ∃ n, (TrN.binds t).length = n := ⟨_, rfl⟩
  obtain ⟨na, hna⟩ : ∃ n, (TrN.args t).length = n := ⟨_, rfl⟩
  obtain ⟨nl, hnl⟩ : ∃ n, (TrN.alts t).length = n := ⟨_, rfl⟩
  obtain ⟨em, hem⟩ : ∃ n, TrN.name t = n := ⟨_, rfl⟩
  obtain ⟨kd, hkd⟩ : ∃ n, TrN.kind t = n := ⟨_, rfl⟩
  obtain ⟨nu, hnu⟩ : ∃ n, TrN.num t = n := ⟨_, rfl⟩
  rw [hn3, hnb, hna, hnl, hem, hkd, hnu] at hPc
  rw [hn3, hnb, hna, hnl, hem, hkd, hnu]
  obtain ⟨V, hV⟩ : ∃ V, w.alloc (.cells #[.int .i64 kd, .string em, .int .i64 nu, .slice o3 n3 c3, .slice o4 nb c4, .slice o5 na c5, .slice o6 nl c6] 29) = V := ⟨_, rfl⟩
  have bV : Below w.heap.size w V := by rw [← hV]; exact below1 w _
  have kV : Blk V w.heap.size #[.int .i64 kd, .string em, .int .i64 nu, .slice o3 n3 c3, .slice o4 nb c4, .slice o5 na c5, .slice o6 nl c6] 29 := by rw [← hV]; exact Blk.new w _ _
  obtain ⟨ab, hab⟩ : ∃ ab, w.heap.size = ab := ⟨_, rfl⟩
  have kN : Blk V N #[.int .i64 (n0 : Nat)] 3 := hN.below bV
  obtain ⟨V2, hV2⟩ : ∃ V2, V.setCell ⟨N, 0, none⟩ (.int .i64 ((n0 : Int) + 1)) = V2 := ⟨_, rfl⟩
  have kN2 : Blk V2 N #[.int .i64 ((n0 + 1 : Nat) : Int)] 3 := by rw [← hV2]; exact kN.set 0 _
  have bN2 : But N V V2 := by rw [← hV2]; exact But.set N V 0 _
  have kV2 : Blk V2 ab #[.int .i64 kd, .string em, .int .i64 nu, .slice o3 n3 c3, .slice o4 nb c4, .slice o5 na c5, .slice o6 nl c6] 29 := by unfold Blk; rw [bN2.block ab (by rw [← hab]; exact kV.lt) (by omega), ← hab]; exact kV
  have hB2 : But N w V2 := (But.ofBelow bV).trans bN2
  have hcell : ∀ W, But N w W → ∀ g off, g < B → W.cell? ⟨g, off, none⟩ = w.cell? ⟨g, off, none⟩ := fun W h g off hg => h.cell g off (by omega) (by omega)
  have HP : Hid (Calls Tryd.prog 90 #[.agg #[.int .i64 kd, .string em, .int .i64 nu, .slice o3 n3 c3, .slice o4 nb c4, .slice o5 na c5, .slice o6 nl c6]] V2 fun e w' => ∃ o c, e = .returned (.slice o (partsM t).length c) ∧ RwG 7 29 (ExC V2 B d) V2.heap.size w' o c (partsM t) ∧ Below V2.heap.size V2 w') := hPc V2 (hcell V2 hB2) (by have := hB2.size; omega)
  obtain ⟨pl, hplv⟩ : ∃ pl, partsM t = pl := ⟨_, rfl⟩
  rw [hplv] at HP hps hpl
  obtain ⟨F, hF⟩ : ∃ F : Nat → Nat, (fun k => n0 + 1 + ((pl.take k).map (sizeM d)).sum) = F := ⟨_, rfl⟩
  have HF : Hid (F 0 = n0 + 1 ∧ (∀ k (h : k < pl.length), F (k + 1) = F k + sizeM d pl[k] ∧ F (k + 1) ≤ 1048576) ∧ F pl.length = n0 + sizeM (d + 1) t) := by
    refine ⟨by rw [← hF]; rfl, fun k h => ⟨?_, ?_⟩, ?_⟩
    · rw [← hF]; show _ + _ = _ + _ + _; rw [take_sum _ _ k h]; omega
    · rw [← hF]; show n0 + 1 + _ ≤ _; have := take_le (sizeM d) pl (k + 1); omega
    · rw [← hF]; show n0 + 1 + _ = _; rw [List.take_length]; omega
  rw [← HF.out.2.2]
  have HS : Hid (∀ wp o c, RwG 7 29 (ExC V2 B d) V2.heap.size wp o c pl → Below V2.heap.size V2 wp → ∀ k (hk : k < pl.length), ∃ g, o = some ⟨g, 0, none⟩ ∧ ∀ wr, But N wp wr → g < wr.heap.size ∧ Ld7 wr B d pl[k] g (k * 7) ∧ ∀ v, ExVd wr B d pl[k] v → Blk wr N #[.int .i64 ((F k : Nat) : Int)] 3 → Calls Tryd.prog 64 #[v, .int .i64 ((dp : Int) + 1), .int .i64 4096, .int .i64 1048576, .pointer (some ⟨N, 0, none⟩)] wr fun e w' => e = .returned (.bool true) ∧ Blk w' N #[.int .i64 ((F (k + 1) : Nat) : Int)] 3 ∧ But N wr w') := by
    intro wp o c hr hb k hk
    obtain ⟨g, e, hg1, hg2, hgood⟩ := hr.at hk
    refine ⟨g, e, fun wr hbt => ⟨Nat.lt_of_lt_of_le hg2 hbt.size, ?_, fun v hv hNb => ?_⟩⟩
    · have hNg : g ≠ N := by have := hB2.size; omega
      refine hgood.ld7 (fun j hj => ?_) (fun v hv => ExVd.same16 (fun g2 off hg => ?_) hv)
      · rw [hbt.cell g (k * 7 + j) hg2 hNg]
        show _ = (if j < 7 then _ else _)
        rw [if_pos hj]
      · rw [hbt.cell g2 off (by have := hb.size; have := hB2.size; omega) (by omega), hb.cell (p := ⟨g2, off, none⟩) (by have := hB2.size; show g2 < _; omega)]
    · have hk1 := (HF.out.2.1 k hk)
      have := ih pl[k] v (dp + 1) (F k) B N wr hv hBN hNb (by omega) (by omega)
      rw [hk1.1]
      exact this
  have HBt : Hid (But N w V2) := hB2
  have hdpI : (dp : Int) ≤ 5000 := by omega
  have hn0I : (n0 : Int) ≤ 2000000 := by omega
  have hg1 : decide ((4096 : Int) < (dp : Int)) = false := decide_eq_false (by omega)
  have hg2 : decide ((1048576 : Int) < (n0 : Int) + 1) = false := decide_eq_false (by omega)
  have hn0Z : (0 : Int) ≤ n0 := by omega
  have hplI : (pl.length : Int) ≤ 3000000 := by omega
  have HK2 : Hid (Blk V2 N #[.int .i64 ((n0 + 1 : Nat) : Int)] 3 ∧ Blk V2 ab #[.int .i64 kd, .string em, .int .i64 nu, .slice o3 n3 c3, .slice o4 nb c4, .slice o5 na c5, .slice o6 nl c6] 29) := ⟨kN2, kV2⟩
  have q0 := kN.cell 0 _ rfl
  have f0 := kN.frozen 0
  have hNV := kN.lt
  clear ha hBN hN hsz hdp hps hpl hPc k3 k4 k5 k6 hn3 hnb hna hnl hem hkd hnu bV kV kN kN2 bN2 kV2 hB2 hcell hplv hF ih hNl
  obtain ⟨np, hnp⟩ : ∃ np, pl.length = np := ⟨_, rfl⟩
  have HNp : Hid (pl.length = np) := hnp
  rw [hnp] at HP hplI ⊢
  clear hnp
  go_enter Tryd.func64, Tryd.ntmps64
  go_upto_region 1 with fail
  (try rw [hV])
  (try rw [hab])
  go_upto_region 2 with fail
  (try rw [hV2])
  clear q0 f0 hNV hV hab hV2
  have q0 := HK2.out.1.cell 0 _ rfl
  have hNV := HK2.out.1.lt
  have e1 : ((n0 + 1 : Nat) : Int) = (n0 : Int) + 1 := rfl
  rw [e1] at q0
  obtain ⟨a0, a1, a2, a3, a4, a5, a6⟩ := HK2.out.2.cells7
  have hAV := HK2.out.2.lt
  clear e1
  go_wp2_with (go_at_call 90; fail)
  clear q0 hNV a0 a1 a2 a3 a4 a5 a6 hAV
  refine HP.out.mono ?_
  rintro e wp ⟨o, c, rfl, hr, hb⟩
  have HL : Hid (∀ k (hk : k < pl.length), ∃ g, o = some ⟨g, 0, none⟩ ∧ ∀ wr, But N wp wr → g < wr.heap.size ∧ Ld7 wr B d pl[k] g (k * 7) ∧ ∀ v, ExVd wr B d pl[k] v → Blk wr N #[.int .i64 ((F k : Nat) : Int)] 3 → Calls Tryd.prog 64 #[v, .int .i64 ((dp : Int) + 1), .int .i64 4096, .int .i64 1048576, .pointer (some ⟨N, 0, none⟩)] wr fun e w' => e = .returned (.bool true) ∧ Blk w' N #[.int .i64 ((F (k + 1) : Nat) : Int)] 3 ∧ But N wr w') := HS.out wp o c hr hb
  have HS0 : Hid (Blk wp N #[.int .i64 ((F 0 : Nat) : Int)] 3 ∧ But N wp wp ∧ But N w wp) := ⟨by rw [HF.out.1]; exact HK2.out.1.below hb, But.refl _ _, HBt.out.trans (But.ofBelow hb)⟩
  clear hr hb HS HP HK2 HBt
  go_wp2
  go_loopw [12] (fun i wr => ∃ k : Nat, k ≤ np ∧ i = .int .i64 k ∧ Hid (Blk wr N #[.int .i64 ((F k : Nat) : Int)] 3 ∧ But N wp wr ∧ But N w wr)) (fun i _ => np - (intOf i).toNat)
  case atStart => exact ⟨0, Nat.zero_le _, rfl, HS0⟩
  case round =>
    obtain ⟨k, hk, rfl, hS⟩ := hrel
    clear HS0
    by_cases hkn : k < np
    · have hkl : k < pl.length := by rw [HNp.out]; exact hkn
      obtain ⟨g, rfl, hX⟩ := HL.out k hkl
      obtain ⟨hgw, ⟨k0, k1, k2, p3, l3, m3, p4, l4, m4, p5, q5l, m5, p6, l6, m6, z0, z1, z2, z3, z4, z5, z6, zv⟩, hcall⟩ := hX wr hS.out.2.1
      have HCl : Hid (Calls Tryd.prog 64 #[.agg #[.int .i64 k0, .string k1, .int .i64 k2, .slice p3 l3 m3, .slice p4 l4 m4, .slice p5 q5l m5, .slice p6 l6 m6], .int .i64 ((dp : Int) + 1), .int .i64 4096, .int .i64 1048576, .pointer (some ⟨N, 0, none⟩)] wr fun e w' => e = .returned (.bool true) ∧ Blk w' N #[.int .i64 ((F (k + 1) : Nat) : Int)] 3 ∧ But N wr w') := hcall _ zv hS.out.1
      clear hX hcall zv hkl HL HF
      go_wp2_with (go_at_call 64; fail)
      refine HCl.out.mono ?_
      rintro e y1 ⟨rfl, h1, h2⟩
      have hS1 : Hid (Blk y1 N #[.int .i64 ((F (k + 1) : Nat) : Int)] 3 ∧ But N wp y1 ∧ But N w y1) := ⟨h1, hS.out.2.1.trans h2, hS.out.2.2.trans h2⟩
      clear h1 h2 hS HCl z0 z1 z2 z3 z4 z5 z6 hgw
      go_wp2
      go_roundw
      case rel => exact ⟨k + 1, hkn, by go_num, hS1⟩
      case measure => simp [intOf]; omega
    · have hke : np = k := by omega
      subst hke
      clear HL
      go_wp2
      go_ret
      exact ⟨rfl, hS.out.1, hS.out.2.2⟩
theorem measure_all : ∀ d, MsOK d
  | 0 => fun t => nomatch t
  | d + 1 => fun t v dp n0 B N w h1 h2 h3 h4 h5 => measure_succ d (measure_all d) t v dp n0 B N w h1 h2 h3 h4 h5
set_option maxHeartbeats 4000000 in
set_option maxRecDepth 100000 in
theorem rwithin07_c (d : Nat) (t : Tr (d + 1)) (va : Value) (B : Nat) (w : World) (ha : ExVal w B d t va) (hB : B ≤ w.heap.size) (hsz : sizeM (d + 1) t ≤ 1048576) (hd : d + 1 ≤ 4096) :
    Calls Tryd.prog 41 #[va, .int .i64 1048576, .int .i64 4096] w fun e w' => e = .returned (.bool true) ∧ Below w.heap.size w w' := by
  obtain ⟨o3, c3, o4, c4, o5, c5, o6, c6, ea, -⟩ := id ha
  subst ea
  obtain ⟨cs, hcs⟩ : ∃ cs : Array Value, (#[.int .i64 (TrN.kind t), .string (TrN.name t), .int .i64 (TrN.num t), .slice o3 (TrN.params t).length c3, .slice o4 (TrN.binds t).length c4, .slice o5 (TrN.args t).length c5, .slice o6 (TrN.alts t).length c6] : Array Value) = cs := ⟨_, rfl⟩
  obtain ⟨V, hV⟩ : ∃ V, (w.alloc (.cells cs 29)).alloc (.cells #[.int .i64 0] 3) = V := ⟨_, rfl⟩
  have e1 : (w.alloc (.cells cs 29)).heap.size = w.heap.size + 1 := Array.size_push _
  have b1 := below1 w (.cells cs 29)
  have b2 := below1 (w.alloc (.cells cs 29)) (.cells #[.int .i64 0] 3)
  have bV : Below w.heap.size w V := by rw [← hV]; exact b1.trans (b2.mono b1.size)
  have kE : Blk V w.heap.size cs 29 := by rw [← hV]; exact (Blk.new w _ _).below b2
  have kN : Blk V (w.heap.size + 1) #[.int .i64 ((0 : Nat) : Int)] 3 := by rw [← hV, ← e1]; exact Blk.new _ _ _
  have HM : Hid (Calls Tryd.prog 64 #[.agg cs, .int .i64 1, .int .i64 4096, .int .i64 1048576, .pointer (some ⟨w.heap.size + 1, 0, none⟩)] V fun e w' => e = .returned (.bool true) ∧ Below w.heap.size w w') := by
    refine (measure_all (d + 1) t (.agg cs) 1 0 B (w.heap.size + 1) V (ExVal.same (by rw [← hcs]; exact ha) (fun g off hg => bV.cell (p := ⟨g, off, none⟩) (by show g < w.heap.size; omega))) (by omega) kN (by omega) (by omega)).mono ?_
    rintro e w' ⟨rfl, -, hb⟩
    exact ⟨rfl, hb.os.trans bV.os, hb.tape.trans bV.tape, hb.output.trans bV.output, Nat.le_trans bV.size hb.size, fun k hk => (hb.block k (by have := bV.size; omega) (by omega)).trans (bV.block k hk)⟩
  have hEV := kE.lt
  subst hcs
  obtain ⟨a0, a1, a2, a3, a4, a5, a6⟩ := kE.cells7
  generalize TrN.kind t = kd at *
  generalize TrN.name t = em at *
  generalize TrN.num t = nu at *
  generalize (TrN.params t).length = n3 at *
  generalize (TrN.binds t).length = nb at *
  generalize (TrN.args t).length = na at *
  generalize (TrN.alts t).length = nl at *
  have HV : Hid ((w.alloc (.cells #[.int .i64 kd, .string em, .int .i64 nu, .slice o3 n3 c3, .slice o4 nb c4, .slice o5 na c5, .slice o6 nl c6] 29)).alloc (.cells #[.int .i64 0] 3) = V) := hV
  clear ha hB hsz hd e1 b1 b2 bV kE kN hV
  go_enter Tryd.func41, Tryd.ntmps41
  go_upto_region 2 with fail
  rw [HV.out]
  go_wp2_with (go_at_call 64; fail)
  refine HM.out.mono ?_
  rintro e w1 ⟨rfl, hb⟩
  clear a0 a1 a2 a3 a4 a5 a6 hEV
  go_wp2
  go_ret
  exact ⟨rfl, hb⟩
set_option maxHeartbeats 4000000 in
set_option maxRecDepth 100000 in
theorem rlong_c (d : Nat) (t : Tr (d + 1)) (va : Value) (B : Nat) (w : World) (ha : ExVal w B d t va) (hB : B ≤ w.heap.size) (hsz : sizeM (d + 1) t ≤ 1048576) (hd : d + 1 ≤ 4096) :
    Calls Tryd.prog 26 #[va] w fun e w' => e = .returned (.bool false) ∧ Below w.heap.size w w' := by
  obtain ⟨o3, c3, o4, c4, o5, c5, o6, c6, ea, -⟩ := id ha
  subst ea
  obtain ⟨cs, hcs⟩ : ∃ cs : Array Value, (#[.int .i64 (TrN.kind t), .string (TrN.name t), .int .i64 (TrN.num t), .slice o3 (TrN.params t).length c3, .slice o4 (TrN.binds t).length c4, .slice o5 (TrN.args t).length c5, .slice o6 (TrN.alts t).length c6] : Array Value) = cs := ⟨_, rfl⟩
  obtain ⟨V, hV⟩ : ∃ V, w.alloc (.cells cs 29) = V := ⟨_, rfl⟩
  have bV : Below w.heap.size w V := by rw [← hV]; exact below1 w _
  have kE : Blk V w.heap.size cs 29 := by rw [← hV]; exact Blk.new w _ _
  have HM : Hid (Calls Tryd.prog 41 #[.agg cs, .int .i64 1048576, .int .i64 4096] V fun e w' => e = .returned (.bool true) ∧ Below w.heap.size w w') := by
    refine (rwithin07_c d t (.agg cs) B V (ExVal.same (by rw [← hcs]; exact ha) (fun g off hg => bV.cell (p := ⟨g, off, none⟩) (by show g < w.heap.size; omega))) (by have := bV.size; omega) hsz hd).mono ?_
    rintro e w' ⟨rfl, hb⟩
    exact ⟨rfl, bV.trans (hb.mono bV.size)⟩
  have hEV := kE.lt
  subst hcs
  obtain ⟨a0, a1, a2, a3, a4, a5, a6⟩ := kE.cells7
  generalize TrN.kind t = kd at *
  generalize TrN.name t = em at *
  generalize TrN.num t = nu at *
  generalize (TrN.params t).length = n3 at *
  generalize (TrN.binds t).length = nb at *
  generalize (TrN.args t).length = na at *
  generalize (TrN.alts t).length = nl at *
  have HV : Hid (w.alloc (.cells #[.int .i64 kd, .string em, .int .i64 nu, .slice o3 n3 c3, .slice o4 nb c4, .slice o5 na c5, .slice o6 nl c6] 29) = V) := hV
  clear ha hB hsz hd bV kE hV
  go_enter Tryd.func26, Tryd.ntmps26
  go_upto_region 1 with fail
  rw [HV.out]
  go_wp2_with (go_at_call 41; fail)
  refine HM.out.mono ?_
  rintro e w1 ⟨rfl, hb⟩
  clear a0 a1 a2 a3 a4 a5 a6 hEV
  go_wp2
  go_ret
  exact ⟨rfl, hb⟩
end Go.Proofs.YtjmpjfggbhongaaDoor
