/-
  The document's answer for occurrences (thunkmillref16): all, by a contract.
-/
import Derived.Test.YtjmpjfggbhongaaDoorZd
import Derived.Maps.AppendAt
import Derived.Laws.AppendOwnNone
import Derived.Laws.OwnMore
import Derived.Deep.RegionHeld3
namespace Go.Proofs.YtjmpjfggbhongaaDoor
open Go.RowKit Go.Shelf Go.Maps
set_option linter.unusedVariables false

theorem infoOcc : (Tryd.prog.info? 42).map (fun i => (i.zero, i.size, i.bytes)) = some (some (.agg #[.string ⟨#[]⟩, .int .i64 0]), 2, 24) := by kernel_rfl
/-- Occurrences as cells. -/
def ocL : List (ByteArray × Nat) → List Value
  | [] => []
  | p :: l => .string p.1 :: .int .i64 (p.2 : Nat) :: ocL l
theorem ocL_len : ∀ l, (ocL l).length = l.length * 2
  | [] => rfl
  | p :: l => by show (ocL l).length + 1 + 1 = (l.length + 1) * 2; rw [ocL_len l]; omega
theorem ocL_app : ∀ l l', ocL (l ++ l') = ocL l ++ ocL l'
  | [], l' => rfl
  | p :: l, l' => by show _ :: _ :: ocL (l ++ l') = _ :: _ :: (ocL l ++ ocL l'); rw [ocL_app l l']
theorem ocL_one : ∀ l, ∀ u ∈ ocL l, u.oneCell' = true
  | [], u, h => by cases h
  | p :: l, u, h => by
    rcases List.mem_cons.1 h with rfl | h
    · rfl
    · rcases List.mem_cons.1 h with rfl | h
      · rfl
      · exact ocL_one l u h
/-- A row of occurrences of one's own. -/
def OcR (F : Nat) (W : World) (o : Option Addr) (c : Nat) (l : List (ByteArray × Nat)) : Prop := W.ownsRow F 42 2 (.slice o l.length c) l.length (ocL l)
theorem OcR.below {F : Nat} {W W' : World} {o : Option Addr} {c : Nat} {l : List (ByteArray × Nat)} (h : OcR F W o c l) (hb : Below W.heap.size W W') : OcR F W' o c l :=
  owns_same16 h (fun g hg => hb.block g (owns_lt h hg).2)
theorem OcR.mono {F F' : Nat} {W : World} {o : Option Addr} {c : Nat} {l : List (ByteArray × Nat)} (h : OcR F W o c l) (hb : F' ≤ F) : OcR F' W o c l := owns_mono4 h hb
theorem OcR.nil (F : Nat) (W : World) : OcR F W none 0 [] := owns_nil W F 42 2
theorem OcR.new {W : World} {g : Nat} {y : ByteArray} {r : Nat} (h : Blk W g #[.string y, .int .i64 (r : Nat)] 42) : OcR g W (some ⟨g, 0, none⟩) 1 [(y, r)] :=
  ⟨rfl, .inr ⟨g, 1, #[.string y, .int .i64 (r : Nat)], rfl, Nat.le_refl _, h, Nat.le_refl _, by unfold maxLen; decide, rfl, rfl⟩⟩
/-- A row's block is no block of cells of another type. -/
theorem OcR.ne {F : Nat} {W : World} {o : Option Addr} {c : Nat} {l : List (ByteArray × Nat)} (h : OcR F W o c l) {b : Nat} {vs : Array Value} {T : TypeId} (hb : Blk W b vs T) (hT : T ≠ 42) : some b ≠ Value.ownBlock (.slice o l.length c) := by
  intro e
  rcases h.2 with ⟨e1, -⟩ | ⟨g, cap, cur, e1, -, h3, -⟩
  · rw [e1] at e; cases e
  · rw [e1] at e
    have : b = g := Option.some.inj e
    subst this
    have := hb.symm.trans h3
    injection this with this
    injection this with _ e2 _
    exact hT e2
set_option maxHeartbeats 2000000 in
/-- append, of a row of one's own and any other row. -/
theorem app_ocs {P : Oper → Prop} {o : Oper} {a : Act} {K : Act → World → Prop} {Q : Exit → Act → World → Prop} {w : World} (s x : Operand) (ho : o.op = .call { callee := .builtin .append, args := #[s, x], argTypes := #[38, 38] })
    (F F' : Nat) (l l' : List (ByteArray × Nat)) (ov ov' : Option Addr) (cv cv' : Nat) (hs : a.eval s = .slice ov l.length cv) (hx : a.eval x = .slice ov' l'.length cv') (hr : OcR F w ov cv l) (hr' : OcR F' w ov' cv' l') (hF : F ≤ w.heap.size) (hn : l.length + l'.length ≤ 3000000)
    (h : ∀ o' c' w', OcR F w' o' c' (l ++ l') → w.grownBy w' (Value.ownBlock (.slice ov l.length cv)) → K (a.put o.dst (.slice o' (l ++ l').length c')) w') : o.wp Tryd.prog a w K Q := by
  obtain ⟨i, hi, hz, hsz, hby⟩ := info_parts16 infoOcc
  rcases id hr'.2 with ⟨e, hl0⟩ | ⟨g, cap, cur, e, -⟩
  · have hl : l' = [] := List.eq_nil_of_length_eq_zero hl0
    subst hl
    have hrr := run_append_owned_none (P := Tryd.prog) w F 38 o.type 42 i 2 Tryd.underlying38 hi _ _ _ hr
    unfold Oper.wp execOp
    simp only [ho, resolve, invoke, builtin, Sem.run_bind, Sem.run_pure, Result.andThen_ok, List.map_toArray, List.map_cons, List.map_nil, hs, hx, e]
    rw [show (Builtin.append_ #[38, 38] o.type #[Value.slice ov l.length cv, Value.slice none 0 0]).run Tryd.prog w = _ from hrr]
    have := h ov cv w (by rw [List.append_nil]; exact hr) ⟨rfl, rfl, rfl, Nat.le_refl _, fun _ _ _ => rfl⟩
    rw [List.append_nil] at this
    exact this
  · have hown' := hr'
    unfold OcR at hown'
    rw [e] at hown' hx
    obtain ⟨v', w', hrr, h2, h3, h4⟩ := run_append_own (P := Tryd.prog) w F 38 o.type 42 i (.agg #[.string ⟨#[]⟩, .int .i64 0]) 2 24 Tryd.underlying38 hi hz hsz hby rfl (by omega) _ l.length _ hr ⟨g, 0, none⟩ l'.length cap (ocL l') (ocL_len l') (hown'.cells rfl) (ocL_one l') (by unfold maxLen; omega) (by omega) hF
    unfold Oper.wp execOp
    simp only [ho, resolve, invoke, builtin, Sem.run_bind, Sem.run_pure, Result.andThen_ok, List.map_toArray, List.map_cons, List.map_nil, hs, hx, hrr]
    obtain ⟨o2, c2, rfl, -, -⟩ := owns_form h2
    have := h o2 c2 w' (by unfold OcR; rw [List.length_append, ocL_app]; exact h2) h3
    rw [List.length_append] at this
    exact this
theorem appL_ocs {ops : Array Oper} {rest : List Oper} {o : Oper} {a : Act} {Q : Exit → Act → World → Prop} {w : World} (hgd : o.guard = none) (s x : Operand) (ho : o.op = .call { callee := .builtin .append, args := #[s, x], argTypes := #[38, 38] })
    (F F' : Nat) (l l' : List (ByteArray × Nat)) (ov ov' : Option Addr) (cv cv' : Nat) (hs : a.eval s = .slice ov l.length cv) (hx : a.eval x = .slice ov' l'.length cv') (hr : OcR F w ov cv l) (hr' : OcR F' w ov' cv' l') (hF : F ≤ w.heap.size) (hn : l.length + l'.length ≤ 3000000)
    (h : ∀ o' c' w', OcR F w' o' c' (l ++ l') → w.grownBy w' (Value.ownBlock (.slice ov l.length cv)) → wpList Tryd.prog ops Q rest (a.put o.dst (.slice o' (l ++ l').length c')) w') : wpList Tryd.prog ops Q (o :: rest) a w :=
  wpList_plain hgd fun K hK => app_ocs (P := fun _ => True) s x ho F F' l l' ov ov' cv cv' hs hx hr hr' hF hn fun o' c' w' h2 h3 => hK _ _ (h o' c' w' h2 h3)
/-- A list made by steps of one. -/
def stMap {α β : Type} (A : List β) (f : α → β) (l : List α) (k : Nat) : List β := A ++ (l.take k).map f
/-- A list made by steps of some. -/
def stFlat {α β : Type} (A : List β) (f : α → List β) (l : List α) (k : Nat) : List β := A ++ (l.take k).flatMap f
theorem stMap_ok {α β : Type} (A : List β) (f : α → β) (l : List α) {n : Nat} (hn : l.length = n) : stMap A f l 0 = A ∧ (∀ k (h : k < l.length), stMap A f l (k + 1) = stMap A f l k ++ [f l[k]]) ∧ stMap A f l n = A ++ l.map f ∧ ∀ k, (stMap A f l k).length ≤ (A ++ l.map f).length := by
  subst hn
  refine ⟨by simp [stMap], fun k h => ?_, by simp [stMap], fun k => ?_⟩
  · unfold stMap; rw [List.take_succ_eq_append_getElem h, List.map_append, List.append_assoc]; rfl
  · unfold stMap; simp only [List.length_append, List.length_map, List.length_take]; omega
theorem stFlat_ok {α β : Type} (A : List β) (f : α → List β) (l : List α) {n : Nat} (hn : l.length = n) : stFlat A f l 0 = A ∧ (∀ k (h : k < l.length), stFlat A f l (k + 1) = stFlat A f l k ++ f l[k]) ∧ stFlat A f l n = A ++ l.flatMap f ∧ ∀ k, (stFlat A f l k).length ≤ (A ++ l.flatMap f).length := by
  subst hn
  refine ⟨by simp [stFlat], fun k h => ?_, by simp [stFlat], fun k => ?_⟩
  · unfold stFlat; rw [List.take_succ_eq_append_getElem h, List.flatMap_append, List.append_assoc]; simp
  · unfold stFlat
    rw [List.length_append, List.length_append]
    have : (l.flatMap f).length = ((l.take k).flatMap f).length + ((l.drop k).flatMap f).length := by rw [← List.length_append, ← List.flatMap_append, List.take_append_drop]
    omega
theorem flat_le {α β : Type} (f : α → List β) (g : α → Nat) (h : ∀ x, (f x).length ≤ g x) : ∀ l : List α, (l.flatMap f).length ≤ (l.map g).sum
  | [] => Nat.le_refl _
  | x :: l => by
    rw [List.flatMap_cons, List.map_cons, List.sum_cons, List.length_append]
    have := flat_le f g h l; have := h x; omega
theorem allOc_len : ∀ (d : Nat) (t : Tr d), (allOc d t).length ≤ wM d t
  | 0, t => nomatch t
  | d + 1, t => by
    have h1 := flat_le (fun b : ByteArray × Tr d => allOc d b.2) (fun b => wM d b.2) (fun b => allOc_len d b.2) (TrN.binds t)
    have h2 := flat_le (allOc d) (wM d) (allOc_len d) (TrN.args t)
    have h3 := flat_le (fun a : AltH × Tr d => a.1.vars.map (fun n => (n, ofM d a.2 n.data.toList)) ++ allOc d a.2) (fun a => 4 * a.1.vars.length + wM d a.2) (fun a => by rw [List.length_append, List.length_map]; have := allOc_len d a.2; omega) (TrN.alts t)
    have hM := wM_succ t
    unfold allOc
    simp only [List.length_append, List.length_map]
    omega
theorem allOc_succ {d : Nat} (t : Tr (d + 1)) : allOc (d + 1) t = (bndM t).map (fun n => (n, inN (fun e => ofM d e n.data.toList) t n.data.toList)) ++ ((TrN.binds t).flatMap (fun b => allOc d b.2) ++ (TrN.args t).flatMap (allOc d) ++ (TrN.alts t).flatMap (fun a => a.1.vars.map (fun n => (n, ofM d a.2 n.data.toList)) ++ allOc d a.2)) := rfl
/-- What all does with an expression of a depth. -/
def RAl (d : Nat) : Prop := ∀ (t : Tr d) (v : Value) (B : Nat) (w : World), ExVd w B d t v → B ≤ w.heap.size → wM d t ≤ 3000000 →
  Calls Tryd.prog 32 #[v] w fun e w' => ∃ o c, e = .returned (.slice o (allOc d t).length c) ∧ OcR w.heap.size w' o c (allOc d t) ∧ Below w.heap.size w w'
theorem ExVd.same16 {W W' : World} {B : Nat} (hb : ∀ g off, g < B → W'.cell? ⟨g, off, none⟩ = W.cell? ⟨g, off, none⟩) : ∀ {d : Nat} {t : Tr d} {v : Value}, ExVd W B d t v → ExVd W' B d t v
  | 0, t, _, _ => nomatch t
  | d + 1, t, v, h => ExVal.same h hb
set_option maxHeartbeats 32000000 in
set_option maxRecDepth 100000 in
theorem rall_succ (d : Nat) (hof : ROf d) (ih : RAl d) (t : Tr (d + 1)) (va : Value) (B : Nat) (w : World) (ha : ExVal w B d t va) (hB : B ≤ w.heap.size) (ht : wM (d + 1) t ≤ 3000000) :
    Calls Tryd.prog 32 #[va] w fun e w' => ∃ o c, e = .returned (.slice o (allOc (d + 1) t).length c) ∧ OcR w.heap.size w' o c (allOc (d + 1) t) ∧ Below w.heap.size w w' := by
  obtain ⟨o3, c3, o4, c4, o5, c5, o6, c6, ea, k3, k4, k5, k6⟩ := id ha
  subst ea
  have hM := wM_succ t
  have hLen := Nat.le_trans (allOc_len (d + 1) t) ht
  have hmem : ∀ {α : Type} (f : α → Nat) (l : List α) (k : Nat) (h : k < l.length), f l[k] ≤ (l.map f).sum := fun f l k h => by
    have h1 := take_sum f l k h
    have h2 := take_le f l (k + 1)
    omega
  have lenP : (TrN.params t).length ≤ (bndM t).length := by simp [bndM]
  have lenB : (TrN.binds t).length ≤ (bndM t).length := by simp [bndM]
  have lenA : (TrN.args t).length ≤ ((TrN.args t).map (wM d)).sum := len_le_sum _ _ (fun x _ => wM_pos d x)
  have lenL : (TrN.alts t).length ≤ ((TrN.alts t).map (fun a => 4 * a.1.vars.length + wM d a.2)).sum := len_le_sum _ _ (fun x _ => by have := wM_pos d x.2; omega)
  have HIn : Hid (∀ W n, Below w.heap.size w W → Calls Tryd.prog 44 #[.agg #[.int .i64 (TrN.kind t), .string (TrN.name t), .int .i64 (TrN.num t), .slice o3 (TrN.params t).length c3, .slice o4 (TrN.binds t).length c4, .slice o5 (TrN.args t).length c5, .slice o6 (TrN.alts t).length c6], .string n] W fun e w' => e = .returned (.int .i64 (inN (fun e => ofM d e n.data.toList) t n.data.toList : Nat)) ∧ Below W.heap.size W w') := fun W n hW => rInLet_c d hof t _ B n W (ExVal.same ha (fun g off hg => hW.cell (p := ⟨g, off, none⟩) (by show g < w.heap.size; omega))) (by have := hW.size; omega) ht
  obtain ⟨n3, hn3⟩ : ∃ n, (TrN.params t).length = n := ⟨_, rfl⟩
  obtain ⟨nb, hnb⟩ : ∃ n, (TrN.binds t).length = n := ⟨_, rfl⟩
  obtain ⟨na, hna⟩ : ∃ n, (TrN.args t).length = n := ⟨_, rfl⟩
  obtain ⟨nl, hnl⟩ : ∃ n, (TrN.alts t).length = n := ⟨_, rfl⟩
  obtain ⟨em, hem⟩ : ∃ n, TrN.name t = n := ⟨_, rfl⟩
  obtain ⟨kd, hkd⟩ : ∃ n, TrN.kind t = n := ⟨_, rfl⟩
  obtain ⟨nu, hnu⟩ : ∃ n, TrN.num t = n := ⟨_, rfl⟩
  rw [hn3, hnb, hna, hnl, hem, hkd, hnu] at HIn
  rw [hn3, hnb, hna, hnl, hem, hkd, hnu]
  obtain ⟨V, hV⟩ : ∃ V, w.alloc (.cells #[.int .i64 kd, .string em, .int .i64 nu, .slice o3 n3 c3, .slice o4 nb c4, .slice o5 na c5, .slice o6 nl c6] 29) = V := ⟨_, rfl⟩
  have kV : Blk V w.heap.size #[.int .i64 kd, .string em, .int .i64 nu, .slice o3 n3 c3, .slice o4 nb c4, .slice o5 na c5, .slice o6 nl c6] 29 := by rw [← hV]; exact Blk.new w _ _
  have bV : Below w.heap.size w V := by rw [← hV]; exact below1 w _
  obtain ⟨ab, hab⟩ : ∃ ab, w.heap.size = ab := ⟨_, rfl⟩
  have hsame : ∀ W, Below w.heap.size w W → ∀ g off, g < B → W.cell? ⟨g, off, none⟩ = w.cell? ⟨g, off, none⟩ := fun W hW g off hg => hW.cell (p := ⟨g, off, none⟩) (by show g < w.heap.size; omega)
  obtain ⟨PB, hPB⟩ : ∃ P : World → Prop, (fun W => Blk W ab #[.int .i64 kd, .string em, .int .i64 nu, .slice o3 n3 c3, .slice o4 nb c4, .slice o5 na c5, .slice o6 nl c6] 29 ∧ Below w.heap.size w W) = P := ⟨_, rfl⟩
  have HC : Hid (∀ W, PB W → W.cell? ⟨ab, 0, none⟩ = some (.int .i64 kd) ∧ W.cell? ⟨ab, 1, none⟩ = some (.string em) ∧ W.cell? ⟨ab, 2, none⟩ = some (.int .i64 nu) ∧ W.cell? ⟨ab, 3, none⟩ = some (.slice o3 n3 c3) ∧ W.cell? ⟨ab, 4, none⟩ = some (.slice o4 nb c4) ∧ W.cell? ⟨ab, 5, none⟩ = some (.slice o5 na c5) ∧ W.cell? ⟨ab, 6, none⟩ = some (.slice o6 nl c6) ∧ ab < W.heap.size) := by
    intro W hW
    rw [← hPB] at hW
    obtain ⟨hk, -⟩ := hW
    exact ⟨hk.cell 0 _ rfl, hk.cell 1 _ rfl, hk.cell 2 _ rfl, hk.cell 3 _ rfl, hk.cell 4 _ rfl, hk.cell 5 _ rfl, hk.cell 6 _ rfl, hk.lt⟩
  have HPB : Hid (∀ W, PB W → Below w.heap.size w W) := fun W hW => by rw [← hPB] at hW; exact hW.2
  have HAB : Hid (∀ W, PB W → ab + 1 ≤ W.heap.size) := fun W hW => (HC.out W hW).2.2.2.2.2.2.2
  have HKV : Hid (PB V) := by
    have h : PB V := by rw [← hPB]; exact ⟨by rw [← hab]; exact kV, bV⟩
    exact h
  have HKb : Hid (∀ W W', PB W → Below W.heap.size W W' → PB W') := fun W W' h hb => by
    rw [← hPB] at h ⊢
    exact ⟨h.1.below hb, h.2.trans (hb.mono h.2.size)⟩
  have HKg : Hid (∀ W W' L ov cv, PB W → OcR (ab + 1) W ov cv L → W.grownBy W' (Value.ownBlock (.slice ov L.length cv)) → PB W') := fun W W' L ov cv h hr hg => by
    rw [← hPB] at h ⊢
    have hne := hr.ne h.1 (by decide)
    refine ⟨by unfold Blk; rw [hg.block ab h.1.lt hne]; exact h.1, h.2.grown hg h.2.size (fun k e => ?_)⟩
    have := (owns_lt hr e).1
    omega
  have HPa : Hid (∀ k (hk : k < (TrN.params t).length), ∃ g off, o3 = some ⟨g, off, none⟩ ∧ ∀ W, PB W → W.cell? ⟨g, off + k, none⟩ = some (.string (TrN.params t)[k]) ∧ g < W.heap.size) := by
    intro k hk
    rcases k3 with h9 | ⟨g, off, e, hg, h9⟩
    · rw [h9] at hk; cases hk
    · exact ⟨g, off, e, fun W hW => ⟨(hsame W (HPB.out W hW) _ _ hg).trans (h9 k hk), by have := (HPB.out W hW).size; omega⟩⟩
  have HBn : Hid (∀ k (hk : k < (TrN.binds t).length), ∃ g off, o4 = some ⟨g, off, none⟩ ∧ ∀ W, PB W → W.cell? ⟨g, off + k * 8, none⟩ = some (.string (TrN.binds t)[k].1) ∧ g < W.heap.size ∧ Ld7 W B d (TrN.binds t)[k].2 g (off + k * 8 + 1) ∧ ∀ v, ExVd W B d (TrN.binds t)[k].2 v → Calls Tryd.prog 32 #[v] W fun e w' => ∃ o c, e = .returned (.slice o (allOc d (TrN.binds t)[k].2).length c) ∧ OcR W.heap.size w' o c (allOc d (TrN.binds t)[k].2) ∧ Below W.heap.size W w') := by
    intro k hk
    rcases k4 with h9 | ⟨g, off, e, hg, h9⟩
    · rw [h9] at hk; cases hk
    · exact ⟨g, off, e, fun W hW => ⟨(hsame W (HPB.out W hW) _ _ hg).trans (h9 k hk).1, by have := (HPB.out W hW).size; omega, ld7 d _ _ _ (ExAt.same (hsame W (HPB.out W hW)) d _ _ _ (h9 k hk).2), fun v hv => ih _ v B W hv (by have := (HPB.out W hW).size; omega) (by have := hmem (fun b : ByteArray × Tr d => wM d b.2) (TrN.binds t) k hk; omega)⟩⟩
  have HAr : Hid (∀ k (hk : k < (TrN.args t).length), ∃ g off, o5 = some ⟨g, off, none⟩ ∧ ∀ W, PB W → g < W.heap.size ∧ Ld7 W B d (TrN.args t)[k] g (off + k * 7) ∧ ∀ v, ExVd W B d (TrN.args t)[k] v → Calls Tryd.prog 32 #[v] W fun e w' => ∃ o c, e = .returned (.slice o (allOc d (TrN.args t)[k]).length c) ∧ OcR W.heap.size w' o c (allOc d (TrN.args t)[k]) ∧ Below W.heap.size W w') := by
    intro k hk
    rcases k5 with h9 | ⟨g, off, e, hg, h9⟩
    · rw [h9] at hk; cases hk
    · exact ⟨g, off, e, fun W hW => ⟨by have := (HPB.out W hW).size; omega, ld7 d _ _ _ (ExAt.same (hsame W (HPB.out W hW)) d _ _ _ (h9 k hk)), fun v hv => ih _ v B W hv (by have := (HPB.out W hW).size; omega) (by have := hmem (wM d) (TrN.args t) k hk; omega)⟩⟩
  have HAl : Hid (∀ k (hk : k < (TrN.alts t).length), ∃ g off, o6 = some ⟨g, off, none⟩ ∧ ∀ W, PB W → g < W.heap.size ∧ W.cell? ⟨g, off + k * 11, none⟩ = some (.int .i64 (TrN.alts t)[k].1.kind) ∧ W.cell? ⟨g, off + k * 11 + 1, none⟩ = some (.string (TrN.alts t)[k].1.name) ∧ W.cell? ⟨g, off + k * 11 + 2, none⟩ = some (.int .i64 (TrN.alts t)[k].1.num) ∧ (∃ ov cv, W.cell? ⟨g, off + k * 11 + 3, none⟩ = some (.slice ov (TrN.alts t)[k].1.vars.length cv) ∧ ∀ j (hj : j < (TrN.alts t)[k].1.vars.length), ∃ gv offv, ov = some ⟨gv, offv, none⟩ ∧ ∀ X, PB X → X.cell? ⟨gv, offv + j, none⟩ = some (.string (TrN.alts t)[k].1.vars[j]) ∧ gv < X.heap.size) ∧ (TrN.alts t)[k].1.vars.length ≤ 3000000 ∧ Ld7 W B d (TrN.alts t)[k].2 g (off + k * 11 + 4) ∧ ∀ v, ExVd W B d (TrN.alts t)[k].2 v → ∀ X, PB X → (∀ n, Calls Tryd.prog 27 #[v, .string n] X fun e w' => e = .returned (.int .i64 (ofM d (TrN.alts t)[k].2 n.data.toList : Nat)) ∧ Below X.heap.size X w') ∧ Calls Tryd.prog 32 #[v] X fun e w' => ∃ o c, e = .returned (.slice o (allOc d (TrN.alts t)[k].2).length c) ∧ OcR X.heap.size w' o c (allOc d (TrN.alts t)[k].2) ∧ Below X.heap.size X w') := by
    intro k hk
    rcases k6 with h9 | ⟨g, off, e, hg, h9⟩
    · rw [h9] at hk; cases hk
    · have hm := hmem (fun a : AltH × Tr d => 4 * a.1.vars.length + wM d a.2) (TrN.alts t) k hk
      obtain ⟨r0, r1, r2, ⟨ov, cv, q3, q4⟩, q5⟩ := h9 k hk
      refine ⟨g, off, e, fun W hW => ⟨by have := (HPB.out W hW).size; omega, (hsame W (HPB.out W hW) _ _ hg).trans r0, (hsame W (HPB.out W hW) _ _ hg).trans r1, (hsame W (HPB.out W hW) _ _ hg).trans r2, ⟨ov, cv, (hsame W (HPB.out W hW) _ _ hg).trans q3, fun j hj => ?_⟩, by omega, ld7 d _ _ _ (ExAt.same (hsame W (HPB.out W hW)) d _ _ _ q5), fun v hv X hX => ?_⟩⟩
      · rcases q4 with h8 | ⟨gv, offv, e8, hg8, h8⟩
        · rw [h8] at hj; cases hj
        · exact ⟨gv, offv, e8, fun X hX => ⟨(hsame X (HPB.out X hX) _ _ hg8).trans (h8 j hj), by have := (HPB.out X hX).size; omega⟩⟩
      · have hvX : ExVd X B d (TrN.alts t)[k].2 v := by
          refine ExVd.same16 (fun g off hg => ?_) hv
          rw [hsame X (HPB.out X hX) g off hg, hsame W (HPB.out W hW) g off hg]
        have hBX : B ≤ X.heap.size := by have := (HPB.out X hX).size; omega
        exact ⟨fun n => hof _ v B n X hvX hBX (by omega), ih _ v B X hvX hBX (by omega)⟩
  have HN : Hid ((TrN.params t).length = n3 ∧ (TrN.binds t).length = nb ∧ (TrN.args t).length = na ∧ (TrN.alts t).length = nl) := ⟨hn3, hnb, hna, hnl⟩
  have hn3I : (n3 : Int) ≤ 3000000 := by omega
  have hnbI : (nb : Int) ≤ 3000000 := by omega
  have hnaI : (na : Int) ≤ 3000000 := by omega
  have hnlI : (nl : Int) ≤ 3000000 := by omega
  obtain ⟨A1, hA1⟩ : ∃ A, (TrN.params t).map (fun n => (n, inN (fun e => ofM d e n.data.toList) t n.data.toList)) = A := ⟨_, rfl⟩
  obtain ⟨A2, hA2⟩ : ∃ A, A1 ++ (TrN.binds t).map (fun b => (b.1, inN (fun e => ofM d e b.1.data.toList) t b.1.data.toList)) = A := ⟨_, rfl⟩
  obtain ⟨A3, hA3⟩ : ∃ A, A2 ++ (TrN.binds t).flatMap (fun b => allOc d b.2) = A := ⟨_, rfl⟩
  obtain ⟨A4, hA4⟩ : ∃ A, A3 ++ (TrN.args t).flatMap (allOc d) = A := ⟨_, rfl⟩
  obtain ⟨A5, hA5⟩ : ∃ A, A4 ++ (TrN.alts t).flatMap (fun a => a.1.vars.map (fun n => (n, ofM d a.2 n.data.toList)) ++ allOc d a.2) = A := ⟨_, rfl⟩
  have hE5 : allOc (d + 1) t = A5 := by
    rw [← hA5, ← hA4, ← hA3, ← hA2, ← hA1, allOc_succ]
    simp only [bndM, List.map_append, List.map_map, List.append_assoc]
    rfl
  rw [hE5] at hLen ⊢
  have l5 : A4.length ≤ A5.length := by rw [← hA5, List.length_append]; omega
  have l4 : A3.length ≤ A4.length := by rw [← hA4, List.length_append]; omega
  have l3 : A2.length ≤ A3.length := by rw [← hA3, List.length_append]; omega
  have l2 : A1.length ≤ A2.length := by rw [← hA2, List.length_append]; omega
  have m1 := stMap_ok [] (fun n => (n, inN (fun e => ofM d e n.data.toList) t n.data.toList)) (TrN.params t) hn3
  have m2 := stMap_ok A1 (fun b : ByteArray × Tr d => (b.1, inN (fun e => ofM d e b.1.data.toList) t b.1.data.toList)) (TrN.binds t) hnb
  have m3 := stFlat_ok A2 (fun b : ByteArray × Tr d => allOc d b.2) (TrN.binds t) hnb
  have m4 := stFlat_ok A3 (allOc d) (TrN.args t) hna
  have m5 := stFlat_ok A4 (fun a : AltH × Tr d => a.1.vars.map (fun n => (n, ofM d a.2 n.data.toList)) ++ allOc d a.2) (TrN.alts t) hnl
  rw [List.nil_append, hA1] at m1
  rw [hA2] at m2
  rw [hA3] at m3
  rw [hA4] at m4
  rw [hA5] at m5
  generalize stMap [] (fun n => (n, inN (fun e => ofM d e n.data.toList) t n.data.toList)) (TrN.params t) = G1 at m1
  generalize stMap A1 (fun b : ByteArray × Tr d => (b.1, inN (fun e => ofM d e b.1.data.toList) t b.1.data.toList)) (TrN.binds t) = G2 at m2
  generalize stFlat A2 (fun b : ByteArray × Tr d => allOc d b.2) (TrN.binds t) = G3 at m3
  generalize stFlat A3 (allOc d) (TrN.args t) = G4 at m4
  generalize stFlat A4 (fun a : AltH × Tr d => a.1.vars.map (fun n => (n, ofM d a.2 n.data.toList)) ++ allOc d a.2) (TrN.alts t) = G5 at m5
  have M1 : Hid (G1 0 = [] ∧ (∀ k (h : k < (TrN.params t).length), G1 (k + 1) = G1 k ++ [((TrN.params t)[k], inN (fun e => ofM d e (TrN.params t)[k].data.toList) t (TrN.params t)[k].data.toList)] ∧ (G1 (k + 1)).length ≤ 3000000) ∧ G1 n3 = A1) := ⟨m1.1, fun k h => ⟨m1.2.1 k (by omega), by have := m1.2.2.2 (k + 1); omega⟩, m1.2.2.1⟩
  have M2 : Hid (G2 0 = A1 ∧ (∀ k (h : k < (TrN.binds t).length), G2 (k + 1) = G2 k ++ [((TrN.binds t)[k].1, inN (fun e => ofM d e (TrN.binds t)[k].1.data.toList) t (TrN.binds t)[k].1.data.toList)] ∧ (G2 (k + 1)).length ≤ 3000000) ∧ G2 nb = A2) := ⟨m2.1, fun k h => ⟨m2.2.1 k (by omega), by have := m2.2.2.2 (k + 1); omega⟩, m2.2.2.1⟩
  have M3 : Hid (G3 0 = A2 ∧ (∀ k (h : k < (TrN.binds t).length), G3 (k + 1) = G3 k ++ allOc d (TrN.binds t)[k].2 ∧ (G3 (k + 1)).length ≤ 3000000) ∧ G3 nb = A3) := ⟨m3.1, fun k h => ⟨m3.2.1 k (by omega), by have := m3.2.2.2 (k + 1); omega⟩, m3.2.2.1⟩
  have M4 : Hid (G4 0 = A3 ∧ (∀ k (h : k < (TrN.args t).length), G4 (k + 1) = G4 k ++ allOc d (TrN.args t)[k] ∧ (G4 (k + 1)).length ≤ 3000000) ∧ G4 na = A4) := ⟨m4.1, fun k h => ⟨m4.2.1 k (by omega), by have := m4.2.2.2 (k + 1); omega⟩, m4.2.2.1⟩
  have M5 : Hid (G5 0 = A4 ∧ (∀ k (h : k < (TrN.alts t).length), G5 (k + 1) = G5 k ++ ((TrN.alts t)[k].1.vars.map (fun n => (n, ofM d (TrN.alts t)[k].2 n.data.toList)) ++ allOc d (TrN.alts t)[k].2) ∧ (G5 (k + 1)).length ≤ 3000000) ∧ G5 nl = A5) := ⟨m5.1, fun k h => ⟨m5.2.1 k (by omega), by have := m5.2.2.2 (k + 1); omega⟩, m5.2.2.1⟩
  replace HIn : Hid (∀ W n, PB W → Calls Tryd.prog 44 #[.agg #[.int .i64 kd, .string em, .int .i64 nu, .slice o3 n3 c3, .slice o4 nb c4, .slice o5 na c5, .slice o6 nl c6], .string n] W fun e w' => e = .returned (.int .i64 (inN (fun e => ofM d e n.data.toList) t n.data.toList : Nat)) ∧ Below W.heap.size W w') := fun W n h => HIn.out W n (HPB.out W h)
  have HEnd : Hid (w.heap.size = ab) := hab
  have HR0 : Hid (OcR (ab + 1) V none 0 []) := OcR.nil _ _
  clear ha hB ht k3 k4 k5 k6 hM lenP lenB lenA lenL hmem hsame kV bV hn3 hnb hna hnl hem hkd hnu ih hof hPB hE5 l2 l3 l4 l5 m1 m2 m3 m4 m5 hA1 hA2 hA3 hA4 hA5 hLen
  go_enter Tryd.func32, Tryd.ntmps32
  go_upto_region 3 with fail
  (try rw [hV])
  (try rw [hab])
  clear hV hab
  obtain ⟨q0, q1, q2, q3, q4, q5, q6, ql⟩ := HC.out V HKV.out
  go_wp2
  clear q0 q1 q2 q3 q4 q5 q6 ql
  go_loopw [3, 4] (fun v i wr => ∃ (k : Nat) (L : List (ByteArray × Nat)) (ov : Option Addr) (cv : Nat), k ≤ n3 ∧ v = .slice ov L.length cv ∧ i = .int .i64 k ∧ Hid (L = G1 k) ∧ Hid (OcR (ab + 1) wr ov cv L) ∧ Hid (PB wr)) (fun _ i _ => n3 - (intOf i).toNat)
  case atStart => exact ⟨0, [], none, 0, Nat.zero_le _, rfl, rfl, M1.out.1.symm, HR0, HKV⟩
  case round =>
    clear HKV HR0
    obtain ⟨k, L, ov, cv, hk, rfl, rfl, hL, hR, hS⟩ := hrel
    by_cases hkn : k < n3
    · have hkl : k < (TrN.params t).length := by rw [HN.out.1]; exact hkn
      obtain ⟨g, off, rfl, hX⟩ := HPa.out k hkl
      obtain ⟨y, hy⟩ : ∃ y, (TrN.params t)[k] = y := ⟨_, rfl⟩
      have hXY : ∀ W, PB W → W.cell? ⟨g, off + k, none⟩ = some (.string y) := fun W h => by rw [← hy]; exact (hX W h).1
      have HF : Hid (G1 (k + 1) = L ++ [(y, inN (fun e => ofM d e y.data.toList) t y.data.toList)] ∧ (G1 (k + 1)).length ≤ 3000000) := by rw [← hy, hL.out]; exact M1.out.2.1 k hkl
      have HCl : Hid (∀ X, Hid (PB X) → Calls Tryd.prog 44 #[.agg #[.int .i64 kd, .string em, .int .i64 nu, .slice (some ⟨g, off, none⟩) n3 c3, .slice o4 nb c4, .slice o5 na c5, .slice o6 nl c6], .string y] X fun e w' => e = .returned (.int .i64 (inN (fun e => ofM d e y.data.toList) t y.data.toList : Nat)) ∧ Below X.heap.size X w') := fun X h => HIn.out X y h.out
      have HKP : Hid (∀ X, Hid (PB X) → Hid (PB X) ∧ X.cell? ⟨ab, 0, none⟩ = some (.int .i64 kd) ∧ X.cell? ⟨ab, 1, none⟩ = some (.string em) ∧ X.cell? ⟨ab, 2, none⟩ = some (.int .i64 nu) ∧ X.cell? ⟨ab, 3, none⟩ = some (.slice (some ⟨g, off, none⟩) n3 c3) ∧ X.cell? ⟨ab, 4, none⟩ = some (.slice o4 nb c4) ∧ X.cell? ⟨ab, 5, none⟩ = some (.slice o5 na c5) ∧ X.cell? ⟨ab, 6, none⟩ = some (.slice o6 nl c6) ∧ X.cell? ⟨g, off + k, none⟩ = some (.string y)) := fun X h => by obtain ⟨q0, q1, q2, q3, q4, q5, q6, ql⟩ := HC.out X h.out; exact ⟨h, q0, q1, q2, q3, q4, q5, q6, hXY X h.out⟩
      generalize inN (fun e => ofM d e y.data.toList) t y.data.toList = oc at HCl HF
      have hgw := (hX wr hS.out).2
      obtain ⟨q0, q1, q2, q3, q4, q5, q6, ql⟩ := HC.out wr hS.out
      clear hX hXY hkl hL hy HIn HPa HBn HAr HAl M1 M2 M3 M4 M5
      have hnk : (k : Int) < n3 := by omega
      have hHg : Hid (g < wr.heap.size) := hgw
      skip
      have hS9 : Hid (PB wr.drew) := HKb.out _ _ hS.out ((Below.refl _ _).drew)
      have hR9 : Hid (OcR (ab + 1) wr.drew ov cv L) := hR.out.below ((Below.refl _ _).drew)
      clear hS hR
      go_upto_region 5 with fail
      refine wp_region_held_drew (S := fun X : World => Hid (PB X) ∧ X.cell? ⟨ab, 0, none⟩ = some (.int .i64 kd) ∧ X.cell? ⟨ab, 1, none⟩ = some (.string em) ∧ X.cell? ⟨ab, 2, none⟩ = some (.int .i64 nu) ∧ X.cell? ⟨ab, 3, none⟩ = some (.slice (some ⟨g, off, none⟩) n3 c3) ∧ X.cell? ⟨ab, 4, none⟩ = some (.slice o4 nb c4) ∧ X.cell? ⟨ab, 5, none⟩ = some (.slice o5 na c5) ∧ X.cell? ⟨ab, 6, none⟩ = some (.slice o6 nl c6) ∧ X.cell? ⟨g, off + k, none⟩ = some (.string y)) (by kernel_rfl) (HKP.out _ hS9) (fun hHeld => ?_)
      generalize wr.drew = x0 at hS9 hR9 hHeld ⊢
      refine wpAnyH_take (i := 0) (v := .slice ov L.length cv) rfl (by kernel_rfl) (by kernel_rfl) (by kernel_rfl) (fun _ _ _ h => h) (Or.inl ⟨by kernel_rfl, fun X hX => ?_⟩) (by assumption) ?_
      · clear hX; go_simp
      try simp only [Act.put, List.setIfInBounds_toArray]
      refine wpAnyH_take (i := 1) (v := .pointer (some ⟨ab, 3, none⟩)) rfl (by kernel_rfl) (by kernel_rfl) (by kernel_rfl) (fun _ _ _ h => h) (Or.inl ⟨by kernel_rfl, fun X hX => ?_⟩) (by assumption) ?_
      · clear hX; go_simp
      try simp only [Act.put]
      refine wpAnyH_take (i := 2) (v := .slice (some ⟨g, off, none⟩) n3 c3) rfl (by kernel_rfl) (by kernel_rfl) (by kernel_rfl) (fun _ _ _ h => h) (Or.inl ⟨by kernel_rfl, fun X hX => ?_⟩) (by assumption) ?_
      · obtain ⟨-, -, -, -, q3, -, -, -, -⟩ := hX; go_simp
      try simp only [Act.put]
      refine wpAnyH_take (i := 3) (v := .int .i64 k) rfl (by kernel_rfl) (by kernel_rfl) (by kernel_rfl) (fun _ _ _ h => h) (Or.inl ⟨by kernel_rfl, fun X hX => ?_⟩) (by assumption) ?_
      · clear hX; go_simp
      try simp only [Act.put]
      refine wpAnyH_take (i := 4) (v := .pointer (some ⟨g, off + k, none⟩)) rfl (by kernel_rfl) (by kernel_rfl) (by kernel_rfl) (fun _ _ _ h => h) (Or.inl ⟨by kernel_rfl, fun X hX => ?_⟩) (by assumption) ?_
      · clear hX; go_simp
      try simp only [Act.put]
      refine wpAnyH_take (i := 5) (v := .string y) rfl (by kernel_rfl) (by kernel_rfl) (by kernel_rfl) (fun _ _ _ h => h) (Or.inl ⟨by kernel_rfl, fun X hX => ?_⟩) (by assumption) ?_
      · obtain ⟨-, -, -, -, -, -, -, -, q7⟩ := hX; go_simp
      try simp only [Act.put]
      refine wpAnyH_take (i := 6) (v := .agg #[.int .i64 kd, .string em, .int .i64 nu, .slice (some ⟨g, off, none⟩) n3 c3, .slice o4 nb c4, .slice o5 na c5, .slice o6 nl c6]) rfl (by kernel_rfl) (by kernel_rfl) (by kernel_rfl) (fun _ _ _ h => h) (Or.inl ⟨by kernel_rfl, fun X hX => ?_⟩) (by assumption) ?_
      · obtain ⟨-, q0, q1, q2, q3, q4, q5, q6, -⟩ := hX; go_simp
      try simp only [Act.put]
      refine wpAnyH_take (i := 7) (v := .pointer (some ⟨ab, 3, none⟩)) rfl (by kernel_rfl) (by kernel_rfl) (by kernel_rfl) (fun _ _ _ h => h) (Or.inl ⟨by kernel_rfl, fun X hX => ?_⟩) (by assumption) ?_
      · clear hX; go_simp
      try simp only [Act.put]
      refine wpAnyH_take (i := 8) (v := .slice (some ⟨g, off, none⟩) n3 c3) rfl (by kernel_rfl) (by kernel_rfl) (by kernel_rfl) (fun _ _ _ h => h) (Or.inl ⟨by kernel_rfl, fun X hX => ?_⟩) (by assumption) ?_
      · obtain ⟨-, -, -, -, q3, -, -, -, -⟩ := hX; go_simp
      try simp only [Act.put]
      refine wpAnyH_take (i := 9) (v := .int .i64 k) rfl (by kernel_rfl) (by kernel_rfl) (by kernel_rfl) (fun _ _ _ h => h) (Or.inl ⟨by kernel_rfl, fun X hX => ?_⟩) (by assumption) ?_
      · clear hX; go_simp
      try simp only [Act.put]
      refine wpAnyH_take (i := 10) (v := .pointer (some ⟨g, off + k, none⟩)) rfl (by kernel_rfl) (by kernel_rfl) (by kernel_rfl) (fun _ _ _ h => h) (Or.inl ⟨by kernel_rfl, fun X hX => ?_⟩) (by assumption) ?_
      · clear hX; go_simp
      try simp only [Act.put]
      refine wpAnyH_take (i := 11) (v := .string y) rfl (by kernel_rfl) (by kernel_rfl) (by kernel_rfl) (fun _ _ _ h => h) (Or.inl ⟨by kernel_rfl, fun X hX => ?_⟩) (by assumption) ?_
      · obtain ⟨-, -, -, -, -, -, -, -, q7⟩ := hX; go_simp
      try simp only [Act.put]
      refine wpAnyH_ready (rs := [12]) (by kernel_rfl) (by simp) ?_
      refine AllReadyH.cons (o := _) rfl (fun K hK => ?_) AllReadyH.nil
      go_simp
      go_at_call 44
      refine (HCl.out x0 hS9).mono ?_
      rintro e x1 ⟨rfl, hb⟩
      have hS1 : Hid (PB x1) := HKb.out _ _ hS9.out hb
      have hR1 : Hid (OcR (ab + 1) x1 ov cv L) := hR9.out.below hb
      refine hK.out _ _ (HKP.out _ hS1) (fun hHeld1 => ?_)
      clear hK K hb hS9 hR9 hHeld HCl
      try simp only [Act.put, List.setIfInBounds_toArray, List.set_cons_zero, List.set_cons_succ]
      refine wpAnyH_take (i := 13) (v := .agg #[.string y, .int .i64 (oc : Nat)]) rfl (by kernel_rfl) (by kernel_rfl) (by kernel_rfl) (fun _ _ _ h => h) (Or.inl ⟨by kernel_rfl, fun X hX => ?_⟩) (by assumption) ?_
      · clear hX; go_simp
      try simp only [Act.put, List.setIfInBounds_toArray]
      refine wpAnyH_ready (rs := [14]) (by kernel_rfl) (by simp) ?_
      refine AllReadyH.cons (o := _) rfl (fun K hK => ?_) AllReadyH.nil
      go_simp
      have kB : Blk (x1.alloc (.cells #[.string y, .int .i64 (oc : Nat)] 42)) x1.heap.size #[.string y, .int .i64 (oc : Nat)] 42 := Blk.new _ _ _
      have hS2 : Hid (PB (x1.alloc (.cells #[.string y, .int .i64 (oc : Nat)] 42))) := HKb.out _ _ hS1.out (below1 _ _)
      have hR2 : Hid (OcR (ab + 1) (x1.alloc (.cells #[.string y, .int .i64 (oc : Nat)] 42)) ov cv L) := hR1.out.below (below1 _ _)
      refine hK.out _ _ (HKP.out _ hS2) (fun hHeld2 => ?_)
      clear hK K hS1 hR1 hHeld1
      generalize x1.alloc (.cells #[.string y, .int .i64 (oc : Nat)] 42) = x2 at kB hS2 hR2 hHeld2 ⊢
      generalize x1.heap.size = gB at kB ⊢
      try simp only [Act.put, List.setIfInBounds_toArray, List.set_cons_zero, List.set_cons_succ]
      refine wpAnyH_ready (rs := [15]) (by kernel_rfl) (by simp) ?_
      refine AllReadyH.cons (o := _) rfl (fun K hK => ?_) AllReadyH.nil
      rw [if_pos (by kernel_rfl)]
      refine app_ocs (P := fun _ => True) (.tmp 18) (.tmp 32) rfl (ab + 1) gB L [(y, oc)] ov (some ⟨gB, 0, none⟩) cv 1 (by rfl) (by rfl) hR2.out (OcR.new kB) (HAB.out _ hS2.out) (by have := HF.out.2; rw [HF.out.1, List.length_append] at this; exact this) (fun o' c' x3 hown hgr => ?_)
      have hS3 : Hid (PB x3) := HKg.out _ _ _ _ _ hS2.out hR2.out hgr
      have hR3 : Hid (OcR (ab + 1) x3 o' c' (L ++ [(y, oc)])) := hown
      refine hK.out _ _ (HKP.out _ hS3) (fun hHeld3 => ?_)
      clear hK K hS2 hR2 hHeld2 hown hgr kB hHeld3
      try simp only [Act.put, List.setIfInBounds_toArray]
      refine wpAnyH_take (i := 16) (v := .slice o' (L ++ [(y, oc)]).length c') rfl (by kernel_rfl) (by kernel_rfl) (by kernel_rfl) (fun _ _ _ h => h) (Or.inl ⟨by kernel_rfl, fun X hX => ?_⟩) (HKP.out _ hS3) ?_
      · clear hX; go_simp
      simp only [Act.put, List.getElem_toArray, List.getElem_cons_succ, List.getElem_cons_zero, List.setIfInBounds_toArray, List.set_cons_zero, List.set_cons_succ]
      refine wpAnyH_done (by kernel_rfl) ?_ _
      clear HKP
      go_wp2
      go_roundw
      case rel => exact ⟨k + 1, _, o', c', hkn, rfl, by go_num, HF.out.1.symm, hR3, hS3⟩
      case measure => simp [intOf]; omega
    · have hke : n3 = k := by omega
      subst hke
      obtain ⟨q0, q1, q2, q3, q4, q5, q6, ql⟩ := HC.out wr hS.out
      go_wp2
      clear q0 q1 q2 q3 q4 q5 q6 ql
      go_loopw [3, 5] (fun v i wr => ∃ (k : Nat) (L : List (ByteArray × Nat)) (ov : Option Addr) (cv : Nat), k ≤ nb ∧ v = .slice ov L.length cv ∧ i = .int .i64 k ∧ Hid (L = G2 k) ∧ Hid (OcR (ab + 1) wr ov cv L) ∧ Hid (PB wr)) (fun _ i _ => nb - (intOf i).toNat)
      case atStart => exact ⟨0, L, ov, cv, Nat.zero_le _, rfl, rfl, (by show L = G2 0; rw [M2.out.1, hL.out, M1.out.2.2]), hR, hS⟩
      case round =>
        clear hL hR hS hk hkn
        obtain ⟨k, L, ov, cv, hk, rfl, rfl, hL, hR, hS⟩ := hrel
        by_cases hkn : k < nb
        · have hkl : k < (TrN.binds t).length := by rw [HN.out.2.1]; exact hkn
          obtain ⟨g, off, rfl, hX⟩ := HBn.out k hkl
          obtain ⟨y, hy⟩ : ∃ y, (TrN.binds t)[k].1 = y := ⟨_, rfl⟩
          have hXY : ∀ W, PB W → W.cell? ⟨g, off + k * 8, none⟩ = some (.string y) := fun W h => by rw [← hy]; exact (hX W h).1
          have HF : Hid (G2 (k + 1) = L ++ [(y, inN (fun e => ofM d e y.data.toList) t y.data.toList)] ∧ (G2 (k + 1)).length ≤ 3000000) := by rw [← hy, hL.out]; exact M2.out.2.1 k hkl
          have HCl : Hid (∀ X, Hid (PB X) → Calls Tryd.prog 44 #[.agg #[.int .i64 kd, .string em, .int .i64 nu, .slice o3 n3 c3, .slice (some ⟨g, off, none⟩) nb c4, .slice o5 na c5, .slice o6 nl c6], .string y] X fun e w' => e = .returned (.int .i64 (inN (fun e => ofM d e y.data.toList) t y.data.toList : Nat)) ∧ Below X.heap.size X w') := fun X h => HIn.out X y h.out
          have HKP : Hid (∀ X, Hid (PB X) → Hid (PB X) ∧ X.cell? ⟨ab, 0, none⟩ = some (.int .i64 kd) ∧ X.cell? ⟨ab, 1, none⟩ = some (.string em) ∧ X.cell? ⟨ab, 2, none⟩ = some (.int .i64 nu) ∧ X.cell? ⟨ab, 3, none⟩ = some (.slice o3 n3 c3) ∧ X.cell? ⟨ab, 4, none⟩ = some (.slice (some ⟨g, off, none⟩) nb c4) ∧ X.cell? ⟨ab, 5, none⟩ = some (.slice o5 na c5) ∧ X.cell? ⟨ab, 6, none⟩ = some (.slice o6 nl c6) ∧ X.cell? ⟨g, off + k * 8, none⟩ = some (.string y)) := fun X h => by obtain ⟨q0, q1, q2, q3, q4, q5, q6, ql⟩ := HC.out X h.out; exact ⟨h, q0, q1, q2, q3, q4, q5, q6, hXY X h.out⟩
          generalize inN (fun e => ofM d e y.data.toList) t y.data.toList = oc at HCl HF
          have hgw := (hX wr hS.out).2.1
          obtain ⟨q0, q1, q2, q3, q4, q5, q6, ql⟩ := HC.out wr hS.out
          clear hX hXY hkl hL hy HIn HPa HBn HAr HAl M1 M2 M3 M4 M5
          have hnk : (k : Int) < nb := by omega
          have hHg : Hid (g < wr.heap.size) := hgw
          skip
          have hS9 : Hid (PB wr.drew) := HKb.out _ _ hS.out ((Below.refl _ _).drew)
          have hR9 : Hid (OcR (ab + 1) wr.drew ov cv L) := hR.out.below ((Below.refl _ _).drew)
          clear hS hR
          go_upto_region 9 with fail
          refine wp_region_held_drew (S := fun X : World => Hid (PB X) ∧ X.cell? ⟨ab, 0, none⟩ = some (.int .i64 kd) ∧ X.cell? ⟨ab, 1, none⟩ = some (.string em) ∧ X.cell? ⟨ab, 2, none⟩ = some (.int .i64 nu) ∧ X.cell? ⟨ab, 3, none⟩ = some (.slice o3 n3 c3) ∧ X.cell? ⟨ab, 4, none⟩ = some (.slice (some ⟨g, off, none⟩) nb c4) ∧ X.cell? ⟨ab, 5, none⟩ = some (.slice o5 na c5) ∧ X.cell? ⟨ab, 6, none⟩ = some (.slice o6 nl c6) ∧ X.cell? ⟨g, off + k * 8, none⟩ = some (.string y)) (by kernel_rfl) (HKP.out _ hS9) (fun hHeld => ?_)
          generalize wr.drew = x0 at hS9 hR9 hHeld ⊢
          refine wpAnyH_take (i := 0) (v := .slice ov L.length cv) rfl (by kernel_rfl) (by kernel_rfl) (by kernel_rfl) (fun _ _ _ h => h) (Or.inl ⟨by kernel_rfl, fun X hX => ?_⟩) (by assumption) ?_
          · clear hX; go_simp
          try simp only [Act.put, List.setIfInBounds_toArray]
          refine wpAnyH_take (i := 1) (v := .pointer (some ⟨ab, 4, none⟩)) rfl (by kernel_rfl) (by kernel_rfl) (by kernel_rfl) (fun _ _ _ h => h) (Or.inl ⟨by kernel_rfl, fun X hX => ?_⟩) (by assumption) ?_
          · clear hX; go_simp
          try simp only [Act.put]
          refine wpAnyH_take (i := 2) (v := .slice (some ⟨g, off, none⟩) nb c4) rfl (by kernel_rfl) (by kernel_rfl) (by kernel_rfl) (fun _ _ _ h => h) (Or.inl ⟨by kernel_rfl, fun X hX => ?_⟩) (by assumption) ?_
          · obtain ⟨-, -, -, -, -, q4, -, -, -⟩ := hX; go_simp
          try simp only [Act.put]
          refine wpAnyH_take (i := 3) (v := .int .i64 k) rfl (by kernel_rfl) (by kernel_rfl) (by kernel_rfl) (fun _ _ _ h => h) (Or.inl ⟨by kernel_rfl, fun X hX => ?_⟩) (by assumption) ?_
          · clear hX; go_simp
          try simp only [Act.put]
          refine wpAnyH_take (i := 4) (v := .pointer (some ⟨g, off + k * 8, none⟩)) rfl (by kernel_rfl) (by kernel_rfl) (by kernel_rfl) (fun _ _ _ h => h) (Or.inl ⟨by kernel_rfl, fun X hX => ?_⟩) (by assumption) ?_
          · clear hX; go_simp
          try simp only [Act.put]
          refine wpAnyH_take (i := 5) (v := .pointer (some ⟨g, off + k * 8, none⟩)) rfl (by kernel_rfl) (by kernel_rfl) (by kernel_rfl) (fun _ _ _ h => h) (Or.inl ⟨by kernel_rfl, fun X hX => ?_⟩) (by assumption) ?_
          · clear hX; go_simp
          try simp only [Act.put]
          refine wpAnyH_take (i := 6) (v := .string y) rfl (by kernel_rfl) (by kernel_rfl) (by kernel_rfl) (fun _ _ _ h => h) (Or.inl ⟨by kernel_rfl, fun X hX => ?_⟩) (by assumption) ?_
          · obtain ⟨-, -, -, -, -, -, -, -, q7⟩ := hX; go_simp
          try simp only [Act.put]
          refine wpAnyH_take (i := 7) (v := .agg #[.int .i64 kd, .string em, .int .i64 nu, .slice o3 n3 c3, .slice (some ⟨g, off, none⟩) nb c4, .slice o5 na c5, .slice o6 nl c6]) rfl (by kernel_rfl) (by kernel_rfl) (by kernel_rfl) (fun _ _ _ h => h) (Or.inl ⟨by kernel_rfl, fun X hX => ?_⟩) (by assumption) ?_
          · obtain ⟨-, q0, q1, q2, q3, q4, q5, q6, -⟩ := hX; go_simp
          try simp only [Act.put]
          refine wpAnyH_take (i := 8) (v := .pointer (some ⟨ab, 4, none⟩)) rfl (by kernel_rfl) (by kernel_rfl) (by kernel_rfl) (fun _ _ _ h => h) (Or.inl ⟨by kernel_rfl, fun X hX => ?_⟩) (by assumption) ?_
          · clear hX; go_simp
          try simp only [Act.put]
          refine wpAnyH_take (i := 9) (v := .slice (some ⟨g, off, none⟩) nb c4) rfl (by kernel_rfl) (by kernel_rfl) (by kernel_rfl) (fun _ _ _ h => h) (Or.inl ⟨by kernel_rfl, fun X hX => ?_⟩) (by assumption) ?_
          · obtain ⟨-, -, -, -, -, q4, -, -, -⟩ := hX; go_simp
          try simp only [Act.put]
          refine wpAnyH_take (i := 10) (v := .int .i64 k) rfl (by kernel_rfl) (by kernel_rfl) (by kernel_rfl) (fun _ _ _ h => h) (Or.inl ⟨by kernel_rfl, fun X hX => ?_⟩) (by assumption) ?_
          · clear hX; go_simp
          try simp only [Act.put]
          refine wpAnyH_take (i := 11) (v := .pointer (some ⟨g, off + k * 8, none⟩)) rfl (by kernel_rfl) (by kernel_rfl) (by kernel_rfl) (fun _ _ _ h => h) (Or.inl ⟨by kernel_rfl, fun X hX => ?_⟩) (by assumption) ?_
          · clear hX; go_simp
          try simp only [Act.put]
          refine wpAnyH_take (i := 12) (v := .pointer (some ⟨g, off + k * 8, none⟩)) rfl (by kernel_rfl) (by kernel_rfl) (by kernel_rfl) (fun _ _ _ h => h) (Or.inl ⟨by kernel_rfl, fun X hX => ?_⟩) (by assumption) ?_
          · clear hX; go_simp
          try simp only [Act.put]
          refine wpAnyH_take (i := 13) (v := .string y) rfl (by kernel_rfl) (by kernel_rfl) (by kernel_rfl) (fun _ _ _ h => h) (Or.inl ⟨by kernel_rfl, fun X hX => ?_⟩) (by assumption) ?_
          · obtain ⟨-, -, -, -, -, -, -, -, q7⟩ := hX; go_simp
          try simp only [Act.put]
          refine wpAnyH_ready (rs := [14]) (by kernel_rfl) (by simp) ?_
          refine AllReadyH.cons (o := _) rfl (fun K hK => ?_) AllReadyH.nil
          go_simp
          go_at_call 44
          refine (HCl.out x0 hS9).mono ?_
          rintro e x1 ⟨rfl, hb⟩
          have hS1 : Hid (PB x1) := HKb.out _ _ hS9.out hb
          have hR1 : Hid (OcR (ab + 1) x1 ov cv L) := hR9.out.below hb
          refine hK.out _ _ (HKP.out _ hS1) (fun hHeld1 => ?_)
          clear hK K hb hS9 hR9 hHeld HCl
          try simp only [Act.put, List.setIfInBounds_toArray, List.set_cons_zero, List.set_cons_succ]
          refine wpAnyH_take (i := 15) (v := .agg #[.string y, .int .i64 (oc : Nat)]) rfl (by kernel_rfl) (by kernel_rfl) (by kernel_rfl) (fun _ _ _ h => h) (Or.inl ⟨by kernel_rfl, fun X hX => ?_⟩) (by assumption) ?_
          · clear hX; go_simp
          try simp only [Act.put, List.setIfInBounds_toArray]
          refine wpAnyH_ready (rs := [16]) (by kernel_rfl) (by simp) ?_
          refine AllReadyH.cons (o := _) rfl (fun K hK => ?_) AllReadyH.nil
          go_simp
          have kB : Blk (x1.alloc (.cells #[.string y, .int .i64 (oc : Nat)] 42)) x1.heap.size #[.string y, .int .i64 (oc : Nat)] 42 := Blk.new _ _ _
          have hS2 : Hid (PB (x1.alloc (.cells #[.string y, .int .i64 (oc : Nat)] 42))) := HKb.out _ _ hS1.out (below1 _ _)
          have hR2 : Hid (OcR (ab + 1) (x1.alloc (.cells #[.string y, .int .i64 (oc : Nat)] 42)) ov cv L) := hR1.out.below (below1 _ _)
          refine hK.out _ _ (HKP.out _ hS2) (fun hHeld2 => ?_)
          clear hK K hS1 hR1 hHeld1
          generalize x1.alloc (.cells #[.string y, .int .i64 (oc : Nat)] 42) = x2 at kB hS2 hR2 hHeld2 ⊢
          generalize x1.heap.size = gB at kB ⊢
          try simp only [Act.put, List.setIfInBounds_toArray, List.set_cons_zero, List.set_cons_succ]
          refine wpAnyH_ready (rs := [17]) (by kernel_rfl) (by simp) ?_
          refine AllReadyH.cons (o := _) rfl (fun K hK => ?_) AllReadyH.nil
          rw [if_pos (by kernel_rfl)]
          refine app_ocs (P := fun _ => True) (.tmp 41) (.tmp 57) rfl (ab + 1) gB L [(y, oc)] ov (some ⟨gB, 0, none⟩) cv 1 (by rfl) (by rfl) hR2.out (OcR.new kB) (HAB.out _ hS2.out) (by have := HF.out.2; rw [HF.out.1, List.length_append] at this; exact this) (fun o' c' x3 hown hgr => ?_)
          have hS3 : Hid (PB x3) := HKg.out _ _ _ _ _ hS2.out hR2.out hgr
          have hR3 : Hid (OcR (ab + 1) x3 o' c' (L ++ [(y, oc)])) := hown
          refine hK.out _ _ (HKP.out _ hS3) (fun hHeld3 => ?_)
          clear hK K hS2 hR2 hHeld2 hown hgr kB hHeld3
          try simp only [Act.put, List.setIfInBounds_toArray]
          refine wpAnyH_take (i := 18) (v := .slice o' (L ++ [(y, oc)]).length c') rfl (by kernel_rfl) (by kernel_rfl) (by kernel_rfl) (fun _ _ _ h => h) (Or.inl ⟨by kernel_rfl, fun X hX => ?_⟩) (HKP.out _ hS3) ?_
          · clear hX; go_simp
          simp only [Act.put, List.getElem_toArray, List.getElem_cons_succ, List.getElem_cons_zero, List.setIfInBounds_toArray, List.set_cons_zero, List.set_cons_succ]
          refine wpAnyH_done (by kernel_rfl) ?_ _
          clear HKP
          go_wp2
          go_roundw
          case rel => exact ⟨k + 1, _, o', c', hkn, rfl, by go_num, HF.out.1.symm, hR3, hS3⟩
          case measure => simp [intOf]; omega
        · have hke : nb = k := by omega
          subst hke
          obtain ⟨q0, q1, q2, q3, q4, q5, q6, ql⟩ := HC.out wr hS.out
          go_wp2
          clear q0 q1 q2 q3 q4 q5 q6 ql
          go_loopw [3, 6] (fun v i wr => ∃ (k : Nat) (L : List (ByteArray × Nat)) (ov : Option Addr) (cv : Nat), k ≤ nb ∧ v = .slice ov L.length cv ∧ i = .int .i64 k ∧ Hid (L = G3 k) ∧ Hid (OcR (ab + 1) wr ov cv L) ∧ Hid (PB wr)) (fun _ i _ => nb - (intOf i).toNat)
          case atStart => exact ⟨0, L, ov, cv, Nat.zero_le _, rfl, rfl, (by show L = G3 0; rw [M3.out.1, hL.out, M2.out.2.2]), hR, hS⟩
          case round =>
            clear hL hR hS hk hkn
            obtain ⟨k, L, ov, cv, hk, rfl, rfl, hL, hR, hS⟩ := hrel
            by_cases hkn : k < nb
            · have hkl : k < (TrN.binds t).length := by rw [HN.out.2.1]; exact hkn
              obtain ⟨g, off, rfl, hX⟩ := HBn.out k hkl
              obtain ⟨q0, q1, q2, q3, q4, q5, q6, ql⟩ := HC.out wr hS.out
              obtain ⟨-, hgw, hl, hcall⟩ := hX wr hS.out
              obtain ⟨k0, k1, k2, p3, l3, m3, p4, l4, m4, p5, l5, m5, p6, l6, m6, z0, z1, z2, z3, z4, z5, z6, zv⟩ := hl
              have HCl : Hid (Calls Tryd.prog 32 #[.agg #[.int .i64 k0, .string k1, .int .i64 k2, .slice p3 l3 m3, .slice p4 l4 m4, .slice p5 l5 m5, .slice p6 l6 m6]] wr fun e w' => ∃ o c, e = .returned (.slice o (allOc d (TrN.binds t)[k].2).length c) ∧ OcR wr.heap.size w' o c (allOc d (TrN.binds t)[k].2) ∧ Below wr.heap.size wr w') := hcall _ zv
              have HF : Hid (G3 (k + 1) = L ++ allOc d (TrN.binds t)[k].2 ∧ (G3 (k + 1)).length ≤ 3000000) := by rw [hL.out]; exact M3.out.2.1 k hkl
              generalize allOc d (TrN.binds t)[k].2 = Lk at HCl HF
              clear hX hcall zv hkl hL HIn HPa HBn HAr HAl M1 M2 M3 M4 M5
              go_wp2_with (go_at_call 32; fail)
              clear q0 q1 q2 q3 q4 q5 q6 ql z0 z1 z2 z3 z4 z5 z6 hgw
              refine HCl.out.mono ?_
              rintro e y1 ⟨o2, c2, rfl, hown2, hb⟩
              have hS1 : Hid (PB y1) := HKb.out _ _ hS.out hb
              have hR1 : Hid (OcR (ab + 1) y1 ov cv L) := hR.out.below hb
              have hR2 : Hid (OcR wr.heap.size y1 o2 c2 Lk) := hown2
              clear hb hS hR HCl hown2
              go_wp2_with (at_builtin; refine appL_ocs rfl _ _ rfl (ab + 1) wr.heap.size L Lk ov o2 cv c2 rfl rfl hR1.out hR2.out (HAB.out _ hS1.out) (by have := HF.out.2; rw [HF.out.1, List.length_append] at this; exact this) (fun o' c' y2 hown hgr => ?_); have hS3 : Hid (PB y2) := HKg.out _ _ _ _ _ hS1.out hR1.out hgr; have hR3 : Hid (OcR (ab + 1) y2 o' c' (L ++ Lk)) := hown; clear hown hgr)
              go_roundw
              case rel => exact ⟨k + 1, _, o', c', hkn, by rw [List.length_append], by go_num, HF.out.1.symm, hR3, hS3⟩
              case measure => simp [intOf]; omega
            · have hke : nb = k := by omega
              subst hke
              obtain ⟨q0, q1, q2, q3, q4, q5, q6, ql⟩ := HC.out wr hS.out
              go_wp2
              clear q0 q1 q2 q3 q4 q5 q6 ql
              go_loopw [3, 7] (fun v i wr => ∃ (k : Nat) (L : List (ByteArray × Nat)) (ov : Option Addr) (cv : Nat), k ≤ na ∧ v = .slice ov L.length cv ∧ i = .int .i64 k ∧ Hid (L = G4 k) ∧ Hid (OcR (ab + 1) wr ov cv L) ∧ Hid (PB wr)) (fun _ i _ => na - (intOf i).toNat)
              case atStart => exact ⟨0, L, ov, cv, Nat.zero_le _, rfl, rfl, (by show L = G4 0; rw [M4.out.1, hL.out, M3.out.2.2]), hR, hS⟩
              case round =>
                clear hL hR hS hk hkn
                obtain ⟨k, L, ov, cv, hk, rfl, rfl, hL, hR, hS⟩ := hrel
                by_cases hkn : k < na
                · have hkl : k < (TrN.args t).length := by rw [HN.out.2.2.1]; exact hkn
                  obtain ⟨g, off, rfl, hX⟩ := HAr.out k hkl
                  obtain ⟨q0, q1, q2, q3, q4, q5, q6, ql⟩ := HC.out wr hS.out
                  obtain ⟨hgw, hl, hcall⟩ := hX wr hS.out
                  obtain ⟨k0, k1, k2, p3, l3, m3, p4, l4, m4, p5, l5, m5, p6, l6, m6, z0, z1, z2, z3, z4, z5, z6, zv⟩ := hl
                  have HCl : Hid (Calls Tryd.prog 32 #[.agg #[.int .i64 k0, .string k1, .int .i64 k2, .slice p3 l3 m3, .slice p4 l4 m4, .slice p5 l5 m5, .slice p6 l6 m6]] wr fun e w' => ∃ o c, e = .returned (.slice o (allOc d (TrN.args t)[k]).length c) ∧ OcR wr.heap.size w' o c (allOc d (TrN.args t)[k]) ∧ Below wr.heap.size wr w') := hcall _ zv
                  have HF : Hid (G4 (k + 1) = L ++ allOc d (TrN.args t)[k] ∧ (G4 (k + 1)).length ≤ 3000000) := by rw [hL.out]; exact M4.out.2.1 k hkl
                  generalize allOc d (TrN.args t)[k] = Lk at HCl HF
                  clear hX hcall zv hkl hL HIn HPa HBn HAr HAl M1 M2 M3 M4 M5
                  go_wp2_with (go_at_call 32; fail)
                  clear q0 q1 q2 q3 q4 q5 q6 ql z0 z1 z2 z3 z4 z5 z6 hgw
                  refine HCl.out.mono ?_
                  rintro e y1 ⟨o2, c2, rfl, hown2, hb⟩
                  have hS1 : Hid (PB y1) := HKb.out _ _ hS.out hb
                  have hR1 : Hid (OcR (ab + 1) y1 ov cv L) := hR.out.below hb
                  have hR2 : Hid (OcR wr.heap.size y1 o2 c2 Lk) := hown2
                  clear hb hS hR HCl hown2
                  go_wp2_with (at_builtin; refine appL_ocs rfl _ _ rfl (ab + 1) wr.heap.size L Lk ov o2 cv c2 rfl rfl hR1.out hR2.out (HAB.out _ hS1.out) (by have := HF.out.2; rw [HF.out.1, List.length_append] at this; exact this) (fun o' c' y2 hown hgr => ?_); have hS3 : Hid (PB y2) := HKg.out _ _ _ _ _ hS1.out hR1.out hgr; have hR3 : Hid (OcR (ab + 1) y2 o' c' (L ++ Lk)) := hown; clear hown hgr)
                  go_roundw
                  case rel => exact ⟨k + 1, _, o', c', hkn, by rw [List.length_append], by go_num, HF.out.1.symm, hR3, hS3⟩
                  case measure => simp [intOf]; omega
                · have hke : na = k := by omega
                  subst hke
                  obtain ⟨q0, q1, q2, q3, q4, q5, q6, ql⟩ := HC.out wr hS.out
                  go_wp2
                  clear q0 q1 q2 q3 q4 q5 q6 ql
                  go_loopw [3, 8] (fun v i wr => ∃ (k : Nat) (L : List (ByteArray × Nat)) (ov : Option Addr) (cv : Nat), k ≤ nl ∧ v = .slice ov L.length cv ∧ i = .int .i64 k ∧ Hid (L = G5 k) ∧ Hid (OcR (ab + 1) wr ov cv L) ∧ Hid (PB wr)) (fun _ i _ => nl - (intOf i).toNat)
                  case atStart => exact ⟨0, L, ov, cv, Nat.zero_le _, rfl, rfl, (by show L = G5 0; rw [M5.out.1, hL.out, M4.out.2.2]), hR, hS⟩
                  case round =>
                    clear hL hR hS hk hkn
                    obtain ⟨k, L5, ov, cv, hk, rfl, rfl, hL, hR, hS⟩ := hrel
                    by_cases hkn : k < nl
                    · have hkl : k < (TrN.alts t).length := by rw [HN.out.2.2.2]; exact hkn
                      obtain ⟨g, off, rfl, hX⟩ := HAl.out k hkl
                      obtain ⟨q0, q1, q2, q3, q4, q5, q6, ql⟩ := HC.out wr hS.out
                      obtain ⟨hgw, b0, b1, b2, ⟨ov3, cv3, b3, HV3⟩, hnv, hl, hcall⟩ := hX wr hS.out
                      obtain ⟨k0, k1, k2, p3, l3, m3, p4, l4, m4, p5, l5, m5, p6, l6, m6, z0, z1, z2, z3, z4, z5, z6, zv⟩ := hl
                      have HCo : Hid (∀ X, PB X → (∀ n, Calls Tryd.prog 27 #[.agg #[.int .i64 k0, .string k1, .int .i64 k2, .slice p3 l3 m3, .slice p4 l4 m4, .slice p5 l5 m5, .slice p6 l6 m6], .string n] X fun e w' => e = .returned (.int .i64 (ofM d (TrN.alts t)[k].2 n.data.toList : Nat)) ∧ Below X.heap.size X w') ∧ Calls Tryd.prog 32 #[.agg #[.int .i64 k0, .string k1, .int .i64 k2, .slice p3 l3 m3, .slice p4 l4 m4, .slice p5 l5 m5, .slice p6 l6 m6]] X fun e w' => ∃ o c, e = .returned (.slice o (allOc d (TrN.alts t)[k].2).length c) ∧ OcR X.heap.size w' o c (allOc d (TrN.alts t)[k].2) ∧ Below X.heap.size X w') := hcall _ zv
                      have HF5 : Hid (G5 (k + 1) = (L5 ++ (TrN.alts t)[k].1.vars.map (fun n => (n, ofM d (TrN.alts t)[k].2 n.data.toList))) ++ allOc d (TrN.alts t)[k].2 ∧ (G5 (k + 1)).length ≤ 3000000) := by rw [hL.out, List.append_assoc]; exact M5.out.2.1 k hkl
                      generalize (TrN.alts t)[k] = at9 at b0 b1 b2 b3 HV3 hnv HCo HF5
                      obtain ⟨⟨ak, an, au, vs⟩, te⟩ := at9
                      dsimp only at b0 b1 b2 b3 HV3 hnv HCo HF5
                      obtain ⟨nv, hnv2⟩ : ∃ n, vs.length = n := ⟨_, rfl⟩
                      have HVv : Hid (∀ j (hj : j < vs.length), ∃ gv offv, ov3 = some ⟨gv, offv, none⟩ ∧ ∀ X, PB X → X.cell? ⟨gv, offv + j, none⟩ = some (.string vs[j]) ∧ gv < X.heap.size) := HV3
                      have m6 := stMap_ok L5 (fun n => (n, ofM d te n.data.toList)) vs hnv2
                      generalize stMap L5 (fun n => (n, ofM d te n.data.toList)) vs = G6 at m6
                      have HL6 : Hid (L5.length + vs.length + (allOc d te).length ≤ 3000000) := by have h := HF5.out.2; rw [HF5.out.1] at h; simp only [List.length_append, List.length_map] at h; exact h
                      have M6 : Hid (G6 0 = L5 ∧ (∀ j (h : j < vs.length), G6 (j + 1) = G6 j ++ [(vs[j], ofM d te vs[j].data.toList)] ∧ (G6 (j + 1)).length ≤ 3000000) ∧ G6 nv = L5 ++ vs.map (fun n => (n, ofM d te n.data.toList))) := ⟨m6.1, fun j h => ⟨m6.2.1 j h, by have h2 := m6.2.2.2 (j + 1); have h3 := HL6.out; simp only [List.length_append, List.length_map] at h2; omega⟩, m6.2.2.1⟩
                      have HNV : Hid (vs.length = nv) := hnv2
                      have hnvI : (nv : Int) ≤ 3000000 := by rw [hnv2] at hnv; omega
                      rw [hnv2] at b3
                      clear hX hcall zv hkl hL HV3 hnv m6 hnv2 HL6 HIn HPa HBn HAr HAl M1 M2 M3 M4 M5
                      go_upto_region 22 with fail
                      obtain ⟨V2, hV2⟩ : ∃ V2, wr.alloc (.cells #[.int .i64 ak, .string an, .int .i64 au, .slice ov3 nv cv3, .int .i64 k0, .string k1, .int .i64 k2, .slice p3 l3 m3, .slice p4 l4 m4, .slice p5 l5 m5, .slice p6 l6 m6] 52) = V2 := ⟨_, rfl⟩
                      have kV2 : Blk V2 wr.heap.size #[.int .i64 ak, .string an, .int .i64 au, .slice ov3 nv cv3, .int .i64 k0, .string k1, .int .i64 k2, .slice p3 l3 m3, .slice p4 l4 m4, .slice p5 l5 m5, .slice p6 l6 m6] 52 := by rw [← hV2]; exact Blk.new wr _ 52
                      have bV2 : Below wr.heap.size wr V2 := by rw [← hV2]; exact below1 wr _
                      rw [hV2]
                      clear hV2 q0 q1 q2 q3 q4 q5 q6 ql z0 z1 z2 z3 z4 z5 z6 hgw b0 b1 b2 b3
                      have hS2 : Hid (PB V2) := HKb.out _ _ hS.out bV2
                      have hR2 : Hid (OcR (ab + 1) V2 ov cv L5) := hR.out.below bV2
                      generalize wr.heap.size = bb at kV2 ⊢
                      obtain ⟨PA, hPA⟩ : ∃ P : World → Prop, (fun W => PB W ∧ Blk W bb #[.int .i64 ak, .string an, .int .i64 au, .slice ov3 nv cv3, .int .i64 k0, .string k1, .int .i64 k2, .slice p3 l3 m3, .slice p4 l4 m4, .slice p5 l5 m5, .slice p6 l6 m6] 52) = P := ⟨_, rfl⟩
                      have HA0 : Hid (PA V2) := by have h : PA V2 := (by rw [← hPA]; exact ⟨hS2.out, kV2⟩); exact h
                      have HAP : Hid (∀ W, PA W → PB W) := fun W h => by rw [← hPA] at h; exact h.1
                      have HAC : Hid (∀ W, PA W → W.cell? ⟨bb, 3, none⟩ = some (.slice ov3 nv cv3) ∧ W.cell? ⟨bb, 4, none⟩ = some (.int .i64 k0) ∧ W.cell? ⟨bb, 5, none⟩ = some (.string k1) ∧ W.cell? ⟨bb, 6, none⟩ = some (.int .i64 k2) ∧ W.cell? ⟨bb, 7, none⟩ = some (.slice p3 l3 m3) ∧ W.cell? ⟨bb, 8, none⟩ = some (.slice p4 l4 m4) ∧ W.cell? ⟨bb, 9, none⟩ = some (.slice p5 l5 m5) ∧ W.cell? ⟨bb, 10, none⟩ = some (.slice p6 l6 m6) ∧ bb < W.heap.size) := fun W h => by rw [← hPA] at h; exact ⟨h.2.cell 3 _ rfl, h.2.cell 4 _ rfl, h.2.cell 5 _ rfl, h.2.cell 6 _ rfl, h.2.cell 7 _ rfl, h.2.cell 8 _ rfl, h.2.cell 9 _ rfl, h.2.cell 10 _ rfl, h.2.lt⟩
                      have HAb : Hid (∀ W W', PA W → Below W.heap.size W W' → PA W') := fun W W' h hb => by rw [← hPA] at h ⊢; exact ⟨HKb.out _ _ h.1 hb, h.2.below hb⟩
                      have HAg : Hid (∀ W W' L ov cv, PA W → OcR (ab + 1) W ov cv L → W.grownBy W' (Value.ownBlock (.slice ov L.length cv)) → PA W') := fun W W' L ov cv h hr hg => by rw [← hPA] at h ⊢; exact ⟨HKg.out _ _ _ _ _ h.1 hr hg, by unfold Blk; rw [hg.block bb h.2.lt (hr.ne h.2 (by decide))]; exact h.2⟩
                      clear hS hR bV2 kV2 hS2 hPA hk
                      obtain ⟨a3, a4, a5, a6, a7, a8, a9, a10, al⟩ := HAC.out V2 HA0.out
                      go_wp2
                      clear a3 a4 a5 a6 a7 a8 a9 a10 al
                      go_loopw [3, 10] (fun v i wr => ∃ (j : Nat) (L : List (ByteArray × Nat)) (ov : Option Addr) (cv : Nat), j ≤ nv ∧ v = .slice ov L.length cv ∧ i = .int .i64 j ∧ Hid (L = G6 j) ∧ Hid (OcR (ab + 1) wr ov cv L) ∧ Hid (PA wr)) (fun _ i _ => nv - (intOf i).toNat)
                      case atStart => exact ⟨0, L5, ov, cv, Nat.zero_le _, rfl, rfl, M6.out.1.symm, hR2, HA0⟩
                      case round =>
                        clear HA0 hR2
                        obtain ⟨j, L, ov, cv, hj, rfl, rfl, hL, hR, hS⟩ := hrel
                        by_cases hjn : j < nv
                        · have hjl : j < vs.length := by rw [HNV.out]; exact hjn
                          obtain ⟨gv, offv, rfl, hX⟩ := HVv.out j hjl
                          obtain ⟨y, hy⟩ : ∃ y, vs[j] = y := ⟨_, rfl⟩
                          have hXY : ∀ W, PA W → W.cell? ⟨gv, offv + j, none⟩ = some (.string y) := fun W h => by rw [← hy]; exact (hX W (HAP.out _ h)).1
                          have HF : Hid (G6 (j + 1) = L ++ [(y, ofM d te y.data.toList)] ∧ (G6 (j + 1)).length ≤ 3000000) := by rw [← hy, hL.out]; exact M6.out.2.1 j hjl
                          have HCl : Hid (∀ X, Hid (PA X) → Calls Tryd.prog 27 #[.agg #[.int .i64 k0, .string k1, .int .i64 k2, .slice p3 l3 m3, .slice p4 l4 m4, .slice p5 l5 m5, .slice p6 l6 m6], .string y] X fun e w' => e = .returned (.int .i64 (ofM d te y.data.toList : Nat)) ∧ Below X.heap.size X w') := fun X h => (HCo.out X (HAP.out _ h.out)).1 y
                          have HKP : Hid (∀ X, Hid (PA X) → Hid (PA X) ∧ X.cell? ⟨bb, 3, none⟩ = some (.slice (some ⟨gv, offv, none⟩) nv cv3) ∧ X.cell? ⟨bb, 4, none⟩ = some (.int .i64 k0) ∧ X.cell? ⟨bb, 5, none⟩ = some (.string k1) ∧ X.cell? ⟨bb, 6, none⟩ = some (.int .i64 k2) ∧ X.cell? ⟨bb, 7, none⟩ = some (.slice p3 l3 m3) ∧ X.cell? ⟨bb, 8, none⟩ = some (.slice p4 l4 m4) ∧ X.cell? ⟨bb, 9, none⟩ = some (.slice p5 l5 m5) ∧ X.cell? ⟨bb, 10, none⟩ = some (.slice p6 l6 m6) ∧ X.cell? ⟨gv, offv + j, none⟩ = some (.string y)) := fun X h => by obtain ⟨q3, q4, q5, q6, q7, q8, q9, q10, ql⟩ := HAC.out X h.out; exact ⟨h, q3, q4, q5, q6, q7, q8, q9, q10, hXY X h.out⟩
                          generalize ofM d te y.data.toList = oc at HCl HF
                          have hgw := (hX wr (HAP.out _ hS.out)).2
                          obtain ⟨a3, a4, a5, a6, a7, a8, a9, a10, al⟩ := HAC.out wr hS.out
                          clear hX hXY hjl hL hy HVv HCo M6 HF5
                          skip
                          skip
                          have hS9 : Hid (PA wr.drew) := HAb.out _ _ hS.out ((Below.refl _ _).drew)
                          have hR9 : Hid (OcR (ab + 1) wr.drew ov cv L) := hR.out.below ((Below.refl _ _).drew)
                          clear hS hR
                          go_upto_region 25 with fail
                          refine wp_region_held_drew (S := fun X : World => Hid (PA X) ∧ X.cell? ⟨bb, 3, none⟩ = some (.slice (some ⟨gv, offv, none⟩) nv cv3) ∧ X.cell? ⟨bb, 4, none⟩ = some (.int .i64 k0) ∧ X.cell? ⟨bb, 5, none⟩ = some (.string k1) ∧ X.cell? ⟨bb, 6, none⟩ = some (.int .i64 k2) ∧ X.cell? ⟨bb, 7, none⟩ = some (.slice p3 l3 m3) ∧ X.cell? ⟨bb, 8, none⟩ = some (.slice p4 l4 m4) ∧ X.cell? ⟨bb, 9, none⟩ = some (.slice p5 l5 m5) ∧ X.cell? ⟨bb, 10, none⟩ = some (.slice p6 l6 m6) ∧ X.cell? ⟨gv, offv + j, none⟩ = some (.string y)) (by kernel_rfl) (HKP.out _ hS9) (fun hHeld => ?_)
                          generalize wr.drew = x0 at hS9 hR9 hHeld ⊢
                          refine wpAnyH_take (i := 0) (v := .slice ov L.length cv) rfl (by kernel_rfl) (by kernel_rfl) (by kernel_rfl) (fun _ _ _ h => h) (Or.inl ⟨by kernel_rfl, fun X hX => ?_⟩) (by assumption) ?_
                          · clear hX; go_simp
                          try simp only [Act.put, List.setIfInBounds_toArray]
                          refine wpAnyH_take (i := 1) (v := .pointer (some ⟨bb, 3, none⟩)) rfl (by kernel_rfl) (by kernel_rfl) (by kernel_rfl) (fun _ _ _ h => h) (Or.inl ⟨by kernel_rfl, fun X hX => ?_⟩) (by assumption) ?_
                          · clear hX; go_simp
                          try simp only [Act.put]
                          refine wpAnyH_take (i := 2) (v := .slice (some ⟨gv, offv, none⟩) nv cv3) rfl (by kernel_rfl) (by kernel_rfl) (by kernel_rfl) (fun _ _ _ h => h) (Or.inl ⟨by kernel_rfl, fun X hX => ?_⟩) (by assumption) ?_
                          · obtain ⟨-, q0, -, -, -, -, -, -, -, -⟩ := hX; go_simp
                          try simp only [Act.put]
                          refine wpAnyH_take (i := 3) (v := .int .i64 j) rfl (by kernel_rfl) (by kernel_rfl) (by kernel_rfl) (fun _ _ _ h => h) (Or.inl ⟨by kernel_rfl, fun X hX => ?_⟩) (by assumption) ?_
                          · clear hX; go_simp
                          try simp only [Act.put]
                          refine wpAnyH_take (i := 4) (v := .pointer (some ⟨gv, offv + j, none⟩)) rfl (by kernel_rfl) (by kernel_rfl) (by kernel_rfl) (fun _ _ _ h => h) (Or.inl ⟨by kernel_rfl, fun X hX => ?_⟩) (by assumption) ?_
                          · clear hX; go_simp
                          try simp only [Act.put]
                          refine wpAnyH_take (i := 5) (v := .string y) rfl (by kernel_rfl) (by kernel_rfl) (by kernel_rfl) (fun _ _ _ h => h) (Or.inl ⟨by kernel_rfl, fun X hX => ?_⟩) (by assumption) ?_
                          · obtain ⟨-, -, -, -, -, -, -, -, -, q8⟩ := hX; go_simp
                          try simp only [Act.put]
                          refine wpAnyH_take (i := 6) (v := .pointer (some ⟨bb, 4, none⟩)) rfl (by kernel_rfl) (by kernel_rfl) (by kernel_rfl) (fun _ _ _ h => h) (Or.inl ⟨by kernel_rfl, fun X hX => ?_⟩) (by assumption) ?_
                          · clear hX; go_simp
                          try simp only [Act.put]
                          refine wpAnyH_take (i := 7) (v := .agg #[.int .i64 k0, .string k1, .int .i64 k2, .slice p3 l3 m3, .slice p4 l4 m4, .slice p5 l5 m5, .slice p6 l6 m6]) rfl (by kernel_rfl) (by kernel_rfl) (by kernel_rfl) (fun _ _ _ h => h) (Or.inl ⟨by kernel_rfl, fun X hX => ?_⟩) (by assumption) ?_
                          · obtain ⟨-, -, q1, q2, q3, q4, q5, q6, q7, -⟩ := hX; go_simp
                          try simp only [Act.put]
                          refine wpAnyH_take (i := 8) (v := .pointer (some ⟨bb, 3, none⟩)) rfl (by kernel_rfl) (by kernel_rfl) (by kernel_rfl) (fun _ _ _ h => h) (Or.inl ⟨by kernel_rfl, fun X hX => ?_⟩) (by assumption) ?_
                          · clear hX; go_simp
                          try simp only [Act.put]
                          refine wpAnyH_take (i := 9) (v := .slice (some ⟨gv, offv, none⟩) nv cv3) rfl (by kernel_rfl) (by kernel_rfl) (by kernel_rfl) (fun _ _ _ h => h) (Or.inl ⟨by kernel_rfl, fun X hX => ?_⟩) (by assumption) ?_
                          · obtain ⟨-, q0, -, -, -, -, -, -, -, -⟩ := hX; go_simp
                          try simp only [Act.put]
                          refine wpAnyH_take (i := 10) (v := .int .i64 j) rfl (by kernel_rfl) (by kernel_rfl) (by kernel_rfl) (fun _ _ _ h => h) (Or.inl ⟨by kernel_rfl, fun X hX => ?_⟩) (by assumption) ?_
                          · clear hX; go_simp
                          try simp only [Act.put]
                          refine wpAnyH_take (i := 11) (v := .pointer (some ⟨gv, offv + j, none⟩)) rfl (by kernel_rfl) (by kernel_rfl) (by kernel_rfl) (fun _ _ _ h => h) (Or.inl ⟨by kernel_rfl, fun X hX => ?_⟩) (by assumption) ?_
                          · clear hX; go_simp
                          try simp only [Act.put]
                          refine wpAnyH_take (i := 12) (v := .string y) rfl (by kernel_rfl) (by kernel_rfl) (by kernel_rfl) (fun _ _ _ h => h) (Or.inl ⟨by kernel_rfl, fun X hX => ?_⟩) (by assumption) ?_
                          · obtain ⟨-, -, -, -, -, -, -, -, -, q8⟩ := hX; go_simp
                          try simp only [Act.put]
                          refine wpAnyH_ready (rs := [13]) (by kernel_rfl) (by simp) ?_
                          refine AllReadyH.cons (o := _) rfl (fun K hK => ?_) AllReadyH.nil
                          go_simp
                          go_at_call 27
                          refine (HCl.out x0 hS9).mono ?_
                          rintro e x1 ⟨rfl, hb⟩
                          have hS1 : Hid (PA x1) := HAb.out _ _ hS9.out hb
                          have hR1 : Hid (OcR (ab + 1) x1 ov cv L) := hR9.out.below hb
                          refine hK.out _ _ (HKP.out _ hS1) (fun hHeld1 => ?_)
                          clear hK K hb hS9 hR9 hHeld HCl
                          try simp only [Act.put, List.setIfInBounds_toArray, List.set_cons_zero, List.set_cons_succ]
                          refine wpAnyH_take (i := 14) (v := .agg #[.string y, .int .i64 (oc : Nat)]) rfl (by kernel_rfl) (by kernel_rfl) (by kernel_rfl) (fun _ _ _ h => h) (Or.inl ⟨by kernel_rfl, fun X hX => ?_⟩) (by assumption) ?_
                          · clear hX; go_simp
                          try simp only [Act.put, List.setIfInBounds_toArray]
                          refine wpAnyH_ready (rs := [15]) (by kernel_rfl) (by simp) ?_
                          refine AllReadyH.cons (o := _) rfl (fun K hK => ?_) AllReadyH.nil
                          go_simp
                          have kB : Blk (x1.alloc (.cells #[.string y, .int .i64 (oc : Nat)] 42)) x1.heap.size #[.string y, .int .i64 (oc : Nat)] 42 := Blk.new _ _ _
                          have hS2 : Hid (PA (x1.alloc (.cells #[.string y, .int .i64 (oc : Nat)] 42))) := HAb.out _ _ hS1.out (below1 _ _)
                          have hR2 : Hid (OcR (ab + 1) (x1.alloc (.cells #[.string y, .int .i64 (oc : Nat)] 42)) ov cv L) := hR1.out.below (below1 _ _)
                          refine hK.out _ _ (HKP.out _ hS2) (fun hHeld2 => ?_)
                          clear hK K hS1 hR1 hHeld1
                          generalize x1.alloc (.cells #[.string y, .int .i64 (oc : Nat)] 42) = x2 at kB hS2 hR2 hHeld2 ⊢
                          generalize x1.heap.size = gB at kB ⊢
                          try simp only [Act.put, List.setIfInBounds_toArray, List.set_cons_zero, List.set_cons_succ]
                          refine wpAnyH_ready (rs := [16]) (by kernel_rfl) (by simp) ?_
                          refine AllReadyH.cons (o := _) rfl (fun K hK => ?_) AllReadyH.nil
                          rw [if_pos (by kernel_rfl)]
                          refine app_ocs (P := fun _ => True) (.tmp 109) (.tmp 124) rfl (ab + 1) gB L [(y, oc)] ov (some ⟨gB, 0, none⟩) cv 1 (by rfl) (by rfl) hR2.out (OcR.new kB) (HAB.out _ (HAP.out _ hS2.out)) (by have := HF.out.2; rw [HF.out.1, List.length_append] at this; exact this) (fun o' c' x3 hown hgr => ?_)
                          have hS3 : Hid (PA x3) := HAg.out _ _ _ _ _ hS2.out hR2.out hgr
                          have hR3 : Hid (OcR (ab + 1) x3 o' c' (L ++ [(y, oc)])) := hown
                          refine hK.out _ _ (HKP.out _ hS3) (fun hHeld3 => ?_)
                          clear hK K hS2 hR2 hHeld2 hown hgr kB hHeld3
                          try simp only [Act.put, List.setIfInBounds_toArray]
                          refine wpAnyH_take (i := 17) (v := .slice o' (L ++ [(y, oc)]).length c') rfl (by kernel_rfl) (by kernel_rfl) (by kernel_rfl) (fun _ _ _ h => h) (Or.inl ⟨by kernel_rfl, fun X hX => ?_⟩) (HKP.out _ hS3) ?_
                          · clear hX; go_simp
                          simp only [Act.put, List.getElem_toArray, List.getElem_cons_succ, List.getElem_cons_zero, List.setIfInBounds_toArray, List.set_cons_zero, List.set_cons_succ]
                          refine wpAnyH_done (by kernel_rfl) ?_ _
                          clear HKP
                          go_wp2
                          go_roundw
                          case rel => exact ⟨j + 1, _, o', c', hjn, rfl, by go_num, HF.out.1.symm, hR3, hS3⟩
                          case measure => simp [intOf]; omega
                        · have hje : nv = j := by omega
                          subst hje
                          obtain ⟨a3, a4, a5, a6, a7, a8, a9, a10, al⟩ := HAC.out wr hS.out
                          have HCl : Hid (Calls Tryd.prog 32 #[.agg #[.int .i64 k0, .string k1, .int .i64 k2, .slice p3 l3 m3, .slice p4 l4 m4, .slice p5 l5 m5, .slice p6 l6 m6]] wr fun e w' => ∃ o c, e = .returned (.slice o (allOc d te).length c) ∧ OcR wr.heap.size w' o c (allOc d te) ∧ Below wr.heap.size wr w') := (HCo.out wr (HAP.out _ hS.out)).2
                          have HF : Hid (G5 (k + 1) = L ++ allOc d te ∧ (G5 (k + 1)).length ≤ 3000000) := by rw [hL.out, M6.out.2.2]; exact HF5.out
                          generalize allOc d te = Lk at HCl HF
                          clear hL M6 HF5 HCo HVv
                          go_wp2_with (go_at_call 32; fail)
                          clear a3 a4 a5 a6 a7 a8 a9 a10 al
                          refine HCl.out.mono ?_
                          rintro e y1 ⟨o2, c2, rfl, hown2, hb⟩
                          have hS1 : Hid (PB y1) := HKb.out _ _ (HAP.out _ hS.out) hb
                          have hR1 : Hid (OcR (ab + 1) y1 ov cv L) := hR.out.below hb
                          have hR2 : Hid (OcR wr.heap.size y1 o2 c2 Lk) := hown2
                          clear hb hS hR HCl hown2
                          go_wp2_with (at_builtin; refine appL_ocs rfl _ _ rfl (ab + 1) wr.heap.size L Lk ov o2 cv c2 rfl rfl hR1.out hR2.out (HAB.out _ hS1.out) (by have := HF.out.2; rw [HF.out.1, List.length_append] at this; exact this) (fun o' c' y2 hown hgr => ?_); have hS3 : Hid (PB y2) := HKg.out _ _ _ _ _ hS1.out hR1.out hgr; have hR3 : Hid (OcR (ab + 1) y2 o' c' (L ++ Lk)) := hown; clear hown hgr)
                          go_roundw
                          case rel => exact ⟨k + 1, _, o', c', hkn, by rw [List.length_append], by go_num, HF.out.1.symm, hR3, hS3⟩
                          case measure => simp [intOf]; omega
                    · have hke : nl = k := by omega
                      subst hke
                      obtain ⟨q0, q1, q2, q3, q4, q5, q6, ql⟩ := HC.out wr hS.out
                      go_wp2
                      clear q0 q1 q2 q3 q4 q5 q6 ql
                      go_ret
                      have e5 : L5 = A5 := by rw [hL.out]; exact M5.out.2.2
                      subst e5
                      exact ⟨ov, cv, rfl, by rw [HEnd.out]; exact hR.out.mono (Nat.le_succ _), HPB.out _ hS.out⟩
theorem rall_all : ∀ d, RAl d
  | 0 => fun t => nomatch t
  | d + 1 => fun t va B w ha hB ht => rall_succ d (rof_all d) (rall_all d) t va B w ha hB ht
end Go.Proofs.YtjmpjfggbhongaaDoor
