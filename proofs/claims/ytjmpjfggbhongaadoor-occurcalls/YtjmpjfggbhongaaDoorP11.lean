/-
  Of the core, what is wanted here: part 11.
-/
import Derived.Sort.KeysCollected
import Derived.Laws.OwnMore
import Derived.Deep.RegionHeld3
import Derived.Test.YtjmpjfggbhongaaDoorP10
namespace Go.Proofs.YtjmpjfggbhongaaDoor
open Go.RowKit Go.Shelf Go.Maps
set_option linter.unusedVariables false
theorem cnt_all (most : Int) (hm : 0 ≤ most ∧ most ≤ 1000000) : ∀ D : Nat, D ≤ 1000 → CntOK most D
  | 0, _ => cnt_zero most hm
  | D + 1, h => cnt_succ most hm D (by omega) (cnt_all most hm D (by omega))
set_option maxRecDepth 100000 in
set_option maxHeartbeats 4000000 in
/-- The kit's SmallExpr: what is small is of a small depth, and has few expressions and names. -/
theorem smallExpr_c (most : Int) (hm : 0 ≤ most ∧ most ≤ 1000000) (D : Nat) (hD : D ≤ 1000) (d : Nat) (t : Tr (d + 1)) (v : Value) (w : World) (hv : ExVal w w.heap.size d t v) (hw : WfT (d + 1) t) :
    Calls Tryd.prog 11 #[v, .int .i64 most, .int .i64 D] w fun r W' => ∃ b : Bool, r = .returned (.bool b) ∧ (b = true → depLe (d + 1) t D ∧ (cntM (d + 1) t : Int) ≤ most) ∧ Below w.heap.size w W' := by
  obtain ⟨o3, c3, o4, c4, o5, c5, o6, c6, e, -⟩ := id hv
  obtain ⟨V, hV⟩ : ∃ V, V = w.alloc (.cells #[.int .i64 (TrN.kind t), .string (TrN.name t), .int .i64 (TrN.num t), .slice o3 (TrN.params t).length c3, .slice o4 (TrN.binds t).length c4, .slice o5 (TrN.args t).length c5, .slice o6 (TrN.alts t).length c6] 29) := ⟨_, rfl⟩
  have hb : Below w.heap.size w V := by rw [hV]; exact below1 w _
  have HC : Hid (∀ W, Below w.heap.size w W → Calls Tryd.prog 23 #[v, .int .i64 most, .int .i64 D] W fun r W' => CntP most D (d + 1) t W r W') := fun W hW => cnt_all most hm D hD (d + 1) t v W (ExVal.grow hv hW) hw
  have HB : Hid (Below w.heap.size w V ∧ ∀ a, Below w.heap.size w (w.alloc a)) := ⟨hb, fun a => below1 w a⟩
  clear hv hw hb hV
  rw [e] at HC ⊢
  clear e
  generalize TrN.kind t = kd at *
  generalize TrN.name t = nm at *
  generalize TrN.num t = nu at *
  generalize (TrN.params t).length = n3 at *
  generalize (TrN.binds t).length = n4 at *
  generalize (TrN.args t).length = n5 at *
  generalize (TrN.alts t).length = n6 at *
  clear HB V
  have HB : Hid (∀ a, Below w.heap.size w (w.alloc a)) := fun a => below1 w a
  go_enter Tryd.func11, Tryd.ntmps11
  go_wp2_with (go_at_call 23; fail)
  refine (HC.out _ (HB.out _)).mono ?_
  rintro r w2 ⟨x, rfl, -, h2, hb2⟩
  have HX : Hid (x ≤ most → depLe (d + 1) t D ∧ (cntM (d + 1) t : Int) = x) := h2
  have HF : Hid (Below w.heap.size w w2) := (HB.out _).trans (hb2.mono (HB.out _).size)
  clear h2 hb2 HC HB
  by_cases hx : x ≤ most
  · have hd : decide (x ≤ most) = true := decide_eq_true hx
    go_wp2
    go_ret
    exact ⟨_, rfl, fun _ => by have := HX.out hx; exact ⟨this.1, by omega⟩, HF.out⟩
  · have hd : decide (x ≤ most) = false := decide_eq_false hx
    go_wp2
    go_ret
    exact ⟨_, rfl, fun h => by simp at h, HF.out⟩
end Go.Proofs.YtjmpjfggbhongaaDoor
namespace Go.Proofs.YtjmpjfggbhongaaDoor
open Go.RowKit Go.Shelf Go.Maps Go.Sort
set_option linter.unusedVariables false
theorem free_own : ∀ (d : Nat) (t : Tr d) (ns : List (List UInt8)) (x : List UInt8), freeM d t ns x = true → x ∈ allN ownN d t
  | 0, t, _, _, _ => nomatch t
  | d + 1, t, ns, x, h => by
    have e : allN ownN (d + 1) t = ownN d t ++ ((TrN.binds t).flatMap (fun b => allN ownN d b.2) ++ ((TrN.args t).flatMap (fun e => allN ownN d e) ++ (TrN.alts t).flatMap (fun a => allN ownN d a.2))) := rfl
    rw [e]
    have h' : (((TrN.kind t == 1) && (!(dl (bndM t).reverse ++ ns).contains (TrN.name t).data.toList) && (x == (TrN.name t).data.toList)) || (TrN.binds t).any (fun b => freeM d b.2 (dl (bndM t).reverse ++ ns) x) || (TrN.args t).any (fun e => freeM d e (dl (bndM t).reverse ++ ns) x) || (TrN.alts t).any (fun a => freeM d a.2 (dl a.1.vars.reverse ++ (dl (bndM t).reverse ++ ns)) x)) = true := h
    rw [Bool.or_eq_true, Bool.or_eq_true, Bool.or_eq_true] at h'
    rcases h' with ((h | h) | h) | h
    · rw [Bool.and_eq_true, Bool.and_eq_true] at h
      obtain ⟨⟨h1, h2⟩, h3⟩ := h
      refine List.mem_append.2 (.inl ?_)
      unfold ownN
      rw [if_pos (by simpa using h1), eq_of_beq h3]
      simp
    · obtain ⟨b, hb, h⟩ := List.any_eq_true.1 h
      exact List.mem_append.2 (.inr (List.mem_append.2 (.inl (List.mem_flatMap.2 ⟨b, hb, free_own d _ _ _ h⟩))))
    · obtain ⟨b, hb, h⟩ := List.any_eq_true.1 h
      exact List.mem_append.2 (.inr (List.mem_append.2 (.inr (List.mem_append.2 (.inl (List.mem_flatMap.2 ⟨b, hb, free_own d _ _ _ h⟩))))))
    · obtain ⟨b, hb, h⟩ := List.any_eq_true.1 h
      exact List.mem_append.2 (.inr (List.mem_append.2 (.inr (List.mem_append.2 (.inr (List.mem_flatMap.2 ⟨b, hb, free_own d _ _ _ h⟩))))))
/-- Each once. -/
def nub : List (List UInt8) → List (List UInt8)
  | [] => []
  | x :: l => if x ∈ l then nub l else x :: nub l
theorem nub_mem {x : List UInt8} : ∀ {l : List (List UInt8)}, x ∈ nub l ↔ x ∈ l
  | [] => Iff.rfl
  | y :: l => by
    unfold nub
    split
    · rename_i h
      rw [nub_mem, List.mem_cons]
      constructor
      · exact .inr
      · rintro (rfl | h2)
        · exact h
        · exact h2
    · rw [List.mem_cons, List.mem_cons, nub_mem]
theorem nub_nodup : ∀ l : List (List UInt8), (nub l).Nodup
  | [] => List.nodup_nil
  | y :: l => by
    unfold nub
    split
    · exact nub_nodup l
    · rename_i h
      exact List.nodup_cons.2 ⟨fun h2 => h (nub_mem.1 h2), nub_nodup l⟩
theorem nub_len : ∀ l : List (List UInt8), (nub l).length ≤ l.length
  | [] => Nat.le_refl _
  | y :: l => by
    unfold nub
    have := nub_len l
    split
    · rw [List.length_cons]; omega
    · rw [List.length_cons, List.length_cons]; omega
/-- The free names, each once. -/
def frL (d : Nat) (t : Tr d) : List (List UInt8) := (nub (allN ownN d t)).filter (fun x => freeM d t [] x)
theorem frL_nodup (d : Nat) (t : Tr d) : (frL d t).Nodup := (nub_nodup _).filter _
theorem frL_ok (d : Nat) (t : Tr d) (x : List UInt8) : freeM d t [] x = decide (x ∈ frL d t) := by
  rw [Bool.eq_iff_iff, decide_eq_true_iff]
  unfold frL
  rw [List.mem_filter, nub_mem]
  exact ⟨fun h => ⟨free_own d t [] x h, h⟩, fun h => h.2⟩
theorem frL_len (d : Nat) (t : Tr d) : (frL d t).length ≤ cntM d t := Nat.le_trans (List.length_filter_le _ _) (Nat.le_trans (nub_len _) (allOwn_len d t))
/-- Rising. -/
def Rising (l : List (List UInt8)) : Prop := l.Pairwise (· < ·)
theorem rising_sort {l : List (List UInt8)} (h : l.Nodup) : Rising (l.mergeSort leB) := by
  have tr : ∀ a b c : List UInt8, leB a b = true → leB b c = true → leB a c = true := fun a b c h1 h2 => by simp only [leB, decide_eq_true_eq] at *; exact List.le_trans h1 h2
  have tot : ∀ a b : List UInt8, (leB a b || leB b a) = true := fun a b => by simp only [leB, Bool.or_eq_true, decide_eq_true_eq]; exact List.le_total a b
  have h1 := List.pairwise_mergeSort tr tot l
  have h2 : (l.mergeSort leB).Nodup := ((List.mergeSort_perm l leB).nodup_iff).2 h
  exact (List.pairwise_and_iff.2 ⟨h1, h2⟩).imp (fun {a b} h => by
    have h3 : a ≤ b := by simpa [leB] using h.1
    exact Decidable.byContradiction (fun hn => h.2 (List.le_antisymm h3 (List.not_lt.1 hn))))
end Go.Proofs.YtjmpjfggbhongaaDoor
namespace Go.Proofs.YtjmpjfggbhongaaDoor
open Go.RowKit Go.Shelf Go.Maps
set_option linter.unusedVariables false
theorem leaf_num (k : Int) {W : World} {B g off : Nat} (hg : g < B) (h0 : W.cell? ⟨g, off, none⟩ = some (.int .i64 2)) (h1 : W.cell? ⟨g, off + 1, none⟩ = some (.string ⟨#[]⟩)) (h2 : W.cell? ⟨g, off + 2, none⟩ = some (.int .i64 k)) (h3 : W.cell? ⟨g, off + 3, none⟩ = some (.slice none 0 0)) (h4 : W.cell? ⟨g, off + 4, none⟩ = some (.slice none 0 0)) (h5 : W.cell? ⟨g, off + 5, none⟩ = some (.slice none 0 0)) (h6 : W.cell? ⟨g, off + 6, none⟩ = some (.slice none 0 0)) : ExAt W B 1 (numT k) g off :=
  ⟨hg, h0, h1, h2, ⟨none, 0, h3, .inl rfl⟩, ⟨none, 0, h4, .inl rfl⟩, ⟨none, 0, h5, .inl rfl⟩, ⟨none, 0, h6, .inl rfl⟩⟩
end Go.Proofs.YtjmpjfggbhongaaDoor
namespace Go.Proofs.YtjmpjfggbhongaaDoor
open Go.RowKit Go.Shelf Go.Maps Go.Sort
set_option linter.unusedVariables false
/-- Of an expression that may be a variable has its name alone. -/
theorem varOK_of (ab : List AltH → Bool) : ∀ (d : Nat) (t : Tr d), allM (fun _ t => mbN ab t) d t = true → VarOK d t
  | 0, t, _ => nomatch t
  | d + 1, t, h => by
    have h' : (mbN ab (T := Tr d) t && ((TrN.binds t).all (fun b => allM (fun _ t => mbN ab t) d b.2) && ((TrN.args t).all (fun e => allM (fun _ t => mbN ab t) d e) && (TrN.alts t).all (fun a => allM (fun _ t => mbN ab t) d a.2)))) = true := h
    rw [Bool.and_eq_true, Bool.and_eq_true, Bool.and_eq_true] at h'
    obtain ⟨h0, h1, h2, h3⟩ := h'
    refine ⟨fun hk => ?_, fun b hb => varOK_of ab d _ (List.all_eq_true.1 h1 b hb), fun b hb => varOK_of ab d _ (List.all_eq_true.1 h2 b hb), fun b hb => varOK_of ab d _ (List.all_eq_true.1 h3 b hb)⟩
    unfold mbN at h0
    rw [Bool.and_eq_true] at h0
    have h4 := h0.1
    rw [show fieldsM (TrN.kind t) = 1 by rw [hk]; rfl] at h4
    unfold okF at h4
    have q : ∀ i, i < 6 → 1 ≤ i → fillB (T := Tr d) t i = false := fun i hi h1 => by
      have := List.all_eq_true.1 h4 i (List.mem_range.2 hi)
      have e : Nat.testBit 1 i = false := by
        have : i = 1 ∨ i = 2 ∨ i = 3 ∨ i = 4 ∨ i = 5 := by omega
        rcases this with rfl | rfl | rfl | rfl | rfl <;> decide
      rw [e] at this
      simpa using this
    have e2 := q 2 (by omega) (by omega)
    have e3 := q 3 (by omega) (by omega)
    have e4 := q 4 (by omega) (by omega)
    have e5 := q 5 (by omega) (by omega)
    simp only [fillB, decide_eq_false_iff_not, Nat.not_lt, Nat.le_zero, List.length_eq_zero_iff] at e2 e3 e4 e5
    exact ⟨e2, e3, e4, e5⟩
theorem varOK_chk {ab : List AltH → Bool} {fs : List CT} {d : Nat} {n : ByteArray} {t : Tr d} {R : Bool} (h : chkN ab fs d [(n, t)] R ≠ 2) : VarOK d t := by
  unfold chkN at h
  by_cases h1 : [(n, t)].all (fun b => allM (fun _ t => mbN ab t) d b.2) = false
  · rw [if_pos h1] at h; exact absurd rfl h
  · refine varOK_of ab d t ?_
    simpa using h1
/-- Names as a slice of texts. -/
def VarsAt (W : World) (v : Value) (l : List ByteArray) : Prop := ∃ o c, v = .slice o l.length c ∧ ((o = none ∧ l = [] ∧ c = 0) ∨ ∃ g off, o = some ⟨g, off, none⟩ ∧ ∀ k (h : k < l.length), W.cell? ⟨g, off + k, none⟩ = some (.string l[k]))
theorem cell_lt9 {W : World} {b off : Nat} {v : Value} (h : W.cell? ⟨b, off, none⟩ = some v) : b < W.heap.size := by
  by_cases e : b < W.heap.size
  · exact e
  · have : W.heap[b]? = none := Array.getElem?_eq_none (by omega)
    simp [World.cell?, this] at h
theorem VarsAt.below {W W' : World} {v : Value} {l : List ByteArray} (h : VarsAt W v l) (hb : Below W.heap.size W W') : VarsAt W' v l := by
  obtain ⟨o, c, e, h⟩ := h
  refine ⟨o, c, e, ?_⟩
  rcases h with h | ⟨g, off, e2, h⟩
  · exact .inl h
  · exact .inr ⟨g, off, e2, fun k hk => (hb.cell (p := ⟨g, off + k, none⟩) (cell_lt9 (h k hk))).trans (h k hk)⟩
/-- A program's one name, and others behind it. -/
theorem app_vars {o : Oper} {a : Act} {K : Act → World → Prop} {Q : Exit → Act → World → Prop} {w : World} (s x : Operand) (ho : o.op = .call { callee := .builtin .append, args := #[s, x], argTypes := #[24, 24] }) (base gb : Nat) (hk : Blk w gb #[.string mainB] 9) (hbg : base ≤ gb) (hs : a.eval s = .slice (some ⟨gb, 0, none⟩) 1 1)
    (vs : Value) (vl : List ByteArray) (hx : a.eval x = vs) (hv : VarsAt w vs vl) (hl : vl.length ≤ 1000000)
    (h : ∀ g' c' w', base ≤ g' → TxIn w' w'.heap.size (some ⟨g', 0, none⟩) (mainB :: vl) → w.grownBy w' (some gb) → K (a.put o.dst (.slice (some ⟨g', 0, none⟩) (mainB :: vl).length c')) w') : o.wp Tryd.prog a w K Q := by
  obtain ⟨i, hi, hz, hsz, hby⟩ := info_parts infoStr7
  have hown : w.ownsRow base 9 1 (.slice (some ⟨gb, 0, none⟩) 1 1) 1 [.string mainB] := ⟨rfl, .inr ⟨gb, 1, #[.string mainB], rfl, hbg, hk, Nat.le_refl _, by unfold maxLen; omega, rfl, rfl⟩⟩
  obtain ⟨ov, cv, rfl, hv⟩ := hv
  rcases hv with ⟨rfl, rfl, rfl⟩ | ⟨g, off, rfl, hc⟩
  · have hr := run_append_owned_none (P := Tryd.prog) w base 24 o.type 9 i 1 Tryd.underlying24 hi _ _ _ hown
    unfold Oper.wp execOp
    simp only [ho, resolve, invoke, builtin, Sem.run_bind, Sem.run_pure, Result.andThen_ok, List.map_toArray, List.map_cons, List.map_nil, hs, hx]
    rw [show (Builtin.append_ #[24, 24] o.type #[Value.slice (some ⟨gb, 0, none⟩) 1 1, Value.slice none ([] : List ByteArray).length 0]).run Tryd.prog w = _ from hr]
    exact h gb 1 w hbg (.inr ⟨gb, 0, rfl, hk.lt, fun k hk9 => by
      have hk0 : k = 0 := by have : k < 1 := hk9; omega
      subst hk0; exact hk.cell 0 _ rfl⟩) ⟨rfl, rfl, rfl, Nat.le_refl _, fun _ _ _ => rfl⟩
  · have hlw := hk.lt
    obtain ⟨v', w', hr, h2, h3, h4⟩ := run_append_own (P := Tryd.prog) w base 24 o.type 9 i (.string ⟨#[]⟩) 1 16 Tryd.underlying24 hi hz hsz hby rfl (by omega) _ 1 _ hown ⟨g, off, none⟩ vl.length cv (vl.map Value.string) (by simp) (fun j u hj => by
      rw [List.getElem?_map] at hj
      obtain ⟨y, hy, rfl⟩ := Option.map_eq_some_iff.1 hj
      obtain ⟨hj2, rfl⟩ := List.getElem?_eq_some_iff.1 hy
      rw [Addr.add_lit]
      exact hc j hj2) (fun u hu => by obtain ⟨y, -, rfl⟩ := List.mem_map.1 hu; rfl) (by unfold maxLen; omega) (by omega) (by omega)
    unfold Oper.wp execOp
    simp only [ho, resolve, invoke, builtin, Sem.run_bind, Sem.run_pure, Result.andThen_ok, List.map_toArray, List.map_cons, List.map_nil, hs, hx, hr]
    have h2' := h2
    rcases h2'.2 with ⟨rfl, hz⟩ | ⟨g', cap, cur, rfl, hb', hg', -⟩
    · omega
    · have e : (1 + vl.length) = (mainB :: vl).length := by simp; omega
      have hT : TxIn w' w'.heap.size (some ⟨g', 0, none⟩) (mainB :: vl) := by
        refine .inr ⟨g', 0, rfl, (Array.getElem?_eq_some_iff.1 hg').1, fun k hk9 => ?_⟩
        rw [Nat.zero_add, h2.cellAt k (by rw [Nat.mul_one, e]; exact hk9)]
        cases k with
        | zero => rfl
        | succ k =>
          show (vl.map Value.string)[k]? = _
          rw [List.getElem?_map, List.getElem?_eq_getElem (by simpa using hk9)]
          rfl
      have := h g' cap w' hb' hT h3
      rw [← e] at this
      exact this
def NmRow {α : Type} (W : World) (B n : Nat) (l : List (ByteArray × α)) : Prop := ∃ arr : Array Value, Blk W B arr 9 ∧ arr.size = n ∧ ∀ (i : Nat) (y : ByteArray × α), l[i]? = some y → arr[i]? = some (Value.string y.1)
set_option maxRecDepth 100000 in
set_option maxHeartbeats 4000000 in
theorem boundByB_c (d : Nat) (l : List (ByteArray × Tr d)) (o : Option Addr) (cap B : Nat) (w : World) (hl : RowIn B 8 (fun (b : ByteArray × Tr d) g off => w.cell? ⟨g, off, none⟩ = some (.string b.1) ∧ ExAt w B d b.2 g (off + 1)) o l) (hw : B ≤ w.heap.size) (hn : l.length ≤ 2000000) :
    Calls Tryd.prog 36 #[.slice o l.length cap] w fun e w' => e = .returned (.slice (some ⟨w.heap.size, 0, none⟩) l.length l.length) ∧ NmRow w' w.heap.size l.length l ∧ Below w.heap.size w w' := by
  obtain ⟨n, hln⟩ : ∃ n, l.length = n := ⟨_, rfl⟩
  have hmk : ∀ W : World, (Instr.makeSlice 24 (.int .i64 (n : Int)) (.int .i64 (n : Int))).run Tryd.prog W = .ok (.slice (some ⟨W.heap.size, 0, none⟩) n n) (W.alloc (.cells (madeCells #[.string ⟨#[]⟩] n) 9)) := fun W => run_make_row' 24 9 (.string ⟨#[]⟩) 16 Tryd.underlying24 infoStr7 rfl .i64 .i64 n (by omega) (by omega) W
  have HL : Hid (RowIn B 8 (fun (b : ByteArray × Tr d) g off => w.cell? ⟨g, off, none⟩ = some (.string b.1) ∧ ExAt w B d b.2 g (off + 1)) o l ∧ B ≤ w.heap.size ∧ l.length = n) := ⟨hl, hw, hln⟩
  have hni : (n : Int) ≤ 2000000 := by omega
  have H0 : Hid (Blk (w.alloc (.cells (madeCells #[.string ⟨#[]⟩] n) 9)) w.heap.size (madeCells #[.string ⟨#[]⟩] n) 9 ∧ (madeCells #[.string ⟨#[]⟩] n).size = n ∧ Below w.heap.size w (w.alloc (.cells (madeCells #[.string ⟨#[]⟩] n) 9))) := ⟨Blk.new w _ _, size_madeCells _ _, below1 w _⟩
  rw [hln]
  clear hl hw hn hln
  go_enter Tryd.func36, Tryd.ntmps36
  go_wp2
  clear hmk
  go_loopw [10] (fun v wr => ∃ k : Nat, v = .int .i64 (k : Int) ∧ Hid (k ≤ n ∧ ∃ arr : Array Value, Blk wr w.heap.size arr 9 ∧ arr.size = n ∧ (∀ i (h : i < l.length), i < k → arr[i]? = some (.string l[i].1)) ∧ Below w.heap.size w wr)) (fun v _ => n - (intOf v).toNat)
  case atStart => exact ⟨0, rfl, ⟨Nat.zero_le _, _, H0.out.1, H0.out.2.1, fun i h hi => by omega, H0.out.2.2⟩⟩
  case round =>
    clear H0
    obtain ⟨k, rfl, HI⟩ := hrel
    by_cases hk : k < n
    · obtain ⟨-, arr, h1, h2, h3, h4⟩ := HI.out
      have hkl : k < l.length := by rw [HL.out.2.2]; exact hk
      obtain ⟨g, off, rfl, hg, hx⟩ : ∃ g off, o = some ⟨g, off, none⟩ ∧ g < B ∧ w.cell? ⟨g, off + k * 8, none⟩ = some (.string l[k].1) := by
        rcases HL.out.1 with h9 | ⟨g, off, e, hg, h9⟩
        · rw [h9] at hkl; exact absurd hkl (Nat.not_lt_zero _)
        · exact ⟨g, off, e, hg, (h9 k hkl).1⟩
      have hgw : g < wr.heap.size := by have := h4.size; have := HL.out.2.1; omega
      have hcx : wr.cell? ⟨g, off + k * 8, none⟩ = some (.string l[k].1) := (h4.cell (p := ⟨g, off + k * 8, none⟩) (by show g < w.heap.size; have := HL.out.2.1; omega)).trans hx
      obtain ⟨old, hold⟩ : ∃ old, arr[k]? = some old := ⟨_, Array.getElem?_eq_getElem (by omega)⟩
      have hco : wr.cell? ⟨w.heap.size, k, none⟩ = some old := h1.cell k _ hold
      have hfo : wr.frozen? ⟨w.heap.size, k, none⟩ = false := h1.frozen k
      have hlo := h1.lt
      have hki : (k : Int) < (n : Int) := by omega
      obtain ⟨nm, hnm⟩ : ∃ nm, l[k].1 = nm := ⟨_, rfl⟩
      rw [hnm] at hcx
      have HK : Hid (k < n ∧ ∃ h : k < l.length, l[k].1 = nm) := ⟨hk, hkl, hnm⟩
      clear h1 h2 h3 h4 hk hx hold hnm hkl
      go_wp2
      refine ⟨⟨k + 1, by congr 1, ⟨HK.out.1, ?_⟩⟩, ?_⟩
      · obtain ⟨-, arr, h1, h2, h3, h4⟩ := HI.out
        refine ⟨arr.setIfInBounds k (.string nm), h1.set k _, by simpa using h2, fun i hi hik => ?_, h4.setCell (p := ⟨w.heap.size, k, none⟩) (Nat.le_refl _) _⟩
        obtain ⟨q1, q2⟩ := HK.out.2
        by_cases e : i = k
        · subst e
          rw [Array.getElem?_setIfInBounds_self_of_lt (by have := HK.out.1; omega), q2]
        · rw [Array.getElem?_setIfInBounds_ne (Ne.symm e)]
          exact h3 i hi (by omega)
      · show n - ((k : Int) + 1).toNat < n - ((k : Int)).toNat
        have := HK.out.1; omega
    · have hki : ¬ (k : Int) < (n : Int) := by omega
      have HX : Hid (NmRow wr w.heap.size n l ∧ Below w.heap.size w wr) := by
        obtain ⟨q0, arr, h1, h2, h3, h4⟩ := HI.out
        exact ⟨⟨arr, h1, h2, fun i y hy => by obtain ⟨hi, rfl⟩ := List.getElem?_eq_some_iff.1 hy; exact h3 i hi (by have := HL.out.2.2; omega)⟩, h4⟩
      clear hk
      go_wp2
      go_ret
      exact ⟨rfl, HX.out⟩
/-- The names of a program with one binding. -/
theorem boundBy1_c (M : Nat) (c0 c1 c2 c3 c4 c5 c6 : Value) (T : TypeId) (cap : Nat) (w : World) (hM : Blk w M #[.string mainB, c0, c1, c2, c3, c4, c5, c6] T) (d : Nat) (t : Tr d) (hE : ExAt w w.heap.size d t M 1) :
    Calls Tryd.prog 36 #[.slice (some ⟨M, 0, none⟩) 1 cap] w fun e w' => e = .returned (.slice (some ⟨w.heap.size, 0, none⟩) 1 1) ∧ Blk w' w.heap.size #[.string mainB] 9 ∧ Below w.heap.size w w' := by
  refine (boundByB_c d [(mainB, t)] (some ⟨M, 0, none⟩) cap w.heap.size w (.inr ⟨M, 0, rfl, hM.lt, fun k hk => ?_⟩) (Nat.le_refl _) (by simp)).mono ?_
  · have hk0 : k = 0 := by have : k < 1 := hk; omega
    subst hk0
    exact ⟨hM.cell 0 _ rfl, hE⟩
  · rintro r w' ⟨rfl, ⟨arr, h1, h2, h3⟩, h4⟩
    refine ⟨rfl, ?_, h4⟩
    have e : arr = #[.string mainB] := by
      have h5 := h3 0 _ rfl
      apply Array.ext
      · simpa using h2
      · intro i hi _
        have hi0 : i = 0 := by have : arr.size = 1 := h2; omega
        subst hi0
        exact (Array.getElem?_eq_some_iff.1 h5).2
    rw [← e]; exact h1
end Go.Proofs.YtjmpjfggbhongaaDoor
namespace Go.Proofs.YtjmpjfggbhongaaDoor
open Go.RowKit Go.Shelf Go.Maps Go.Sort
set_option linter.unusedVariables false
theorem TxIn.grow {W W' : World} {o : Option Addr} {l : List ByteArray} (h : TxIn W W.heap.size o l) (hb : Below W.heap.size W W') : TxIn W' W'.heap.size o l := (h.same (fun g off hg => hb.cell (p := ⟨g, off, none⟩) hg)).mono hb.size
theorem ExVal2.grow {W W' : World} {d : Nat} {t : Tr (d + 1)} {v : Value} (h : ExVal2 W d t v) (hb : Below W.heap.size W W') : ExVal2 W' d t v := by
  obtain ⟨o3, c3, o4, c4, o5, c5, o6, c6, e, k3, k4, k5, k6, hle⟩ := h
  have hc := fun (g off : Nat) (hg : g < W.heap.size) => hb.cell (p := ⟨g, off, none⟩) hg
  have hE : ∀ (x : Tr d) (g off : Nat), g < W.heap.size → ExAt W W.heap.size d x g off ∧ CpAt W W.heap.size d x g off → ExAt W' W'.heap.size d x g off ∧ CpAt W' W'.heap.size d x g off := fun x g off hg h => by
    have h1 := ExAt.same hc d x g off h.1
    have h2 := CpAt.same hc d x g off hg h.2
    exact ⟨ExAt.up hb.size d x g off h1, CpAt.up d x g off h1 h2⟩
  refine ⟨o3, c3, o4, c4, o5, c5, o6, c6, e, k3.grow hb, k4.up hb.size ?_, k5.up hb.size ?_, k6.up hb.size ?_, hle⟩
  · rintro x g off hg ⟨e1, e2, e3⟩
    exact ⟨(hc _ _ hg).trans e1, hE _ _ _ hg ⟨e2, e3⟩⟩
  · rintro x g off hg ⟨e2, e3⟩
    exact hE _ _ _ hg ⟨e2, e3⟩
  · rintro x g off hg ⟨e1, e2, e3, ⟨o, c, e4, e5⟩, e6, e7⟩
    exact ⟨(hc _ _ hg).trans e1, (hc _ _ hg).trans e2, (hc _ _ hg).trans e3, ⟨o, c, (hc _ _ hg).trans e4, e5.grow hb⟩, hE _ _ _ hg ⟨e6, e7⟩⟩
def CkP (d : Nat) (t : Tr d) (w : World) (r : Ending) (w' : World) : Prop := ∃ z : Int, r = .returned (.int .i64 z) ∧ (z ≠ 2 → VarOK d t) ∧ Below w.heap.size w w'
set_option maxRecDepth 100000 in
set_option maxHeartbeats 8000000 in
theorem checkExpr_c (d : Nat) (t : Tr (d + 1)) (v : Value) (g M : Nat) (vs : Value) (vl : List ByteArray) (w : World) (hv : ExVal2 w d t v) (hFit : Fit (d + 1) t) (hN : NmOK (d + 1) t) (hd : d + 1 ≤ 4096) (hc : (mainB :: vl).length + 2 * costM (d + 1) t ≤ 2000000) (hs : sizeM (d + 1) t ≤ 1048576)
    (hB : Blk w g bi7V 79) (hM : Blk w M #[.string mainB, .int .i64 2, .string ⟨#[]⟩, .int .i64 1, .slice none 0 0, .slice none 0 0, .slice none 0 0, .slice none 0 0] 56) (hV : VarsAt w vs vl) (hvz : ∀ x ∈ vl, x.size ≤ maxLen) (hvl : vl.length ≤ 1000000) :
    Calls Tryd.prog 20 #[.agg #[.slice (some ⟨g, 0, none⟩) 5 5, .slice (some ⟨M, 0, none⟩) 1 1], v, vs] w fun r w' => CkP (d + 1) t w r w' := by
  obtain ⟨o3, c3, o4, c4, o5, c5, o6, c6, rfl, -⟩ := id hv
  obtain ⟨n3, hn3⟩ : ∃ n, (TrN.params t).length = n := ⟨_, rfl⟩
  obtain ⟨n4, hn4⟩ : ∃ n, (TrN.binds t).length = n := ⟨_, rfl⟩
  obtain ⟨n5, hn5⟩ : ∃ n, (TrN.args t).length = n := ⟨_, rfl⟩
  obtain ⟨n6, hn6⟩ : ∃ n, (TrN.alts t).length = n := ⟨_, rfl⟩
  obtain ⟨nm, hnm⟩ : ∃ n, TrN.name t = n := ⟨_, rfl⟩
  obtain ⟨kd, hkd⟩ : ∃ n, TrN.kind t = n := ⟨_, rfl⟩
  obtain ⟨nu, hnu⟩ : ∃ n, TrN.num t = n := ⟨_, rfl⟩
  rw [hn3, hn4, hn5, hn6, hnm, hkd, hnu] at hv ⊢
  obtain ⟨V, hVw⟩ : ∃ V, (w.alloc (.cells #[.slice (some ⟨g, 0, none⟩) 5 5, .slice (some ⟨M, 0, none⟩) 1 1] 49)).alloc (.cells #[.int .i64 kd, .string nm, .int .i64 nu, .slice o3 n3 c3, .slice o4 n4 c4, .slice o5 n5 c5, .slice o6 n6 c6] 29) = V := ⟨_, rfl⟩
  have e1 : (w.alloc (.cells #[.slice (some ⟨g, 0, none⟩) 5 5, .slice (some ⟨M, 0, none⟩) 1 1] 49)).heap.size = w.heap.size + 1 := Array.size_push _
  have b1 := below1 w (.cells #[.slice (some ⟨g, 0, none⟩) 5 5, .slice (some ⟨M, 0, none⟩) 1 1] 49)
  have b2 := below1 (w.alloc (.cells #[.slice (some ⟨g, 0, none⟩) 5 5, .slice (some ⟨M, 0, none⟩) 1 1] 49)) (.cells #[.int .i64 kd, .string nm, .int .i64 nu, .slice o3 n3 c3, .slice o4 n4 c4, .slice o5 n5 c5, .slice o6 n6 c6] 29)
  have kp := (Blk.new w #[.slice (some ⟨g, 0, none⟩) 5 5, .slice (some ⟨M, 0, none⟩) 1 1] 49).below b2
  have ke := Blk.new (w.alloc (.cells #[.slice (some ⟨g, 0, none⟩) 5 5, .slice (some ⟨M, 0, none⟩) 1 1] 49)) #[.int .i64 kd, .string nm, .int .i64 nu, .slice o3 n3 c3, .slice o4 n4 c4, .slice o5 n5 c5, .slice o6 n6 c6] 29
  rw [e1] at ke
  rw [hVw] at b2 kp ke
  have bV : Below w.heap.size w V := b1.trans (b2.mono b1.size)
  obtain ⟨pb, hpb⟩ : ∃ n, w.heap.size = n := ⟨_, rfl⟩
  obtain ⟨eb, heb⟩ : ∃ n, w.heap.size + 1 = n := ⟨_, rfl⟩
  have HVw : Hid ((w.alloc (.cells #[.slice (some ⟨g, 0, none⟩) 5 5, .slice (some ⟨M, 0, none⟩) 1 1] 49)).alloc (.cells #[.int .i64 kd, .string nm, .int .i64 nu, .slice o3 n3 c3, .slice o4 n4 c4, .slice o5 n5 c5, .slice o6 n6 c6] 29) = V ∧ w.heap.size = pb ∧ w.heap.size + 1 = eb) := ⟨hVw, hpb, heb⟩
  rw [heb] at ke
  rw [hpb] at kp
  have HB0 : Hid (Below w.heap.size w V) := bV
  have HK : Hid (Blk V pb #[.slice (some ⟨g, 0, none⟩) 5 5, .slice (some ⟨M, 0, none⟩) 1 1] 49 ∧ Blk V eb #[.int .i64 kd, .string nm, .int .i64 nu, .slice o3 n3 c3, .slice o4 n4 c4, .slice o5 n5 c5, .slice o6 n6 c6] 29) := ⟨kp, ke⟩
  have hE0 : ExAt V V.heap.size (d + 1) t eb 0 := by
    have := ((hv.grow bV).at (g := eb) (off := 0) ke.lt (by rw [hkd] at *; exact ke.cell 0 _ rfl) (ke.cell 1 _ rfl) (ke.cell 2 _ rfl) (ke.cell 3 _ rfl) (ke.cell 4 _ rfl) (ke.cell 5 _ rfl) (ke.cell 6 _ rfl)).1
    exact this
  have HF : Hid (Calls Tryd.prog 34 #[.pointer (some ⟨eb, 0, none⟩)] V fun e w' => e = .returned (.bool true) ∧ Below V.heap.size V w') := fits_c (d + 1) t V.heap.size eb 0 V hE0 (Nat.le_refl _) hs hd
  have HX : Hid (∀ X, Below V.heap.size V X → ExVal2 X d t (.agg #[.int .i64 kd, .string nm, .int .i64 nu, .slice o3 n3 c3, .slice o4 n4 c4, .slice o5 n5 c5, .slice o6 n6 c6]) ∧ Blk X g bi7V 79 ∧ Blk X M #[.string mainB, .int .i64 2, .string ⟨#[]⟩, .int .i64 1, .slice none 0 0, .slice none 0 0, .slice none 0 0, .slice none 0 0] 56 ∧ VarsAt X vs vl) := fun X h => by
    have hb := bV.trans (h.mono bV.size)
    exact ⟨hv.grow hb, hB.below hb, hM.below hb, hV.below hb⟩
  have HP : Hid (Fit (d + 1) t ∧ NmOK (d + 1) t ∧ (mainB :: vl).length + 2 * costM (d + 1) t ≤ 2000000 ∧ sizeM (d + 1) t ≤ 1048576 ∧ (∀ x ∈ vl, x.size ≤ maxLen) ∧ vl.length ≤ 1000000) := ⟨hFit, hN, hc, hs, hvz, hvl⟩
  have hvs : ∃ so sn sc, vs = .slice so sn sc := by
    obtain ⟨o, c, e, -⟩ := hV
    exact ⟨_, _, _, e⟩
  obtain ⟨so, sn, sc, rfl⟩ := hvs
  clear hv hFit hN hc hs hB hM hV hvz hvl kp ke hE0 b1 b2 bV e1 hn3 hn4 hn5 hn6 hnm hkd hnu hVw hpb heb hd
  go_enter Tryd.func20, Tryd.ntmps20
  go_wp2_with (go_at_call 34; fail)
  rw [HVw.out.1, HVw.out.2.2, HVw.out.2.1]
  refine HF.out.mono ?_
  rintro e w1 ⟨rfl, hb1⟩
  have H1 : Hid (Below w.heap.size w w1) := HB0.out.trans (hb1.mono HB0.out.size)
  have HKP : Hid (∀ X, Hid (Below w1.heap.size w1 X) → Hid (Below w1.heap.size w1 X) ∧ X.cell? ⟨eb, 0, none⟩ = some (.int .i64 kd) ∧ X.cell? ⟨eb, 1, none⟩ = some (.string nm) ∧ X.cell? ⟨eb, 2, none⟩ = some (.int .i64 nu) ∧ X.cell? ⟨eb, 3, none⟩ = some (.slice o3 n3 c3) ∧ X.cell? ⟨eb, 4, none⟩ = some (.slice o4 n4 c4) ∧ X.cell? ⟨eb, 5, none⟩ = some (.slice o5 n5 c5) ∧ X.cell? ⟨eb, 6, none⟩ = some (.slice o6 n6 c6) ∧ X.cell? ⟨pb, 0, none⟩ = some (.slice (some ⟨g, 0, none⟩) 5 5) ∧ X.cell? ⟨pb, 1, none⟩ = some (.slice (some ⟨M, 0, none⟩) 1 1)) := fun X h => by
    have hb := hb1.trans (h.out.mono hb1.size)
    have k1 := HK.out.1.below hb
    have k2 := HK.out.2.below hb
    exact ⟨h, k2.cell 0 _ rfl, k2.cell 1 _ rfl, k2.cell 2 _ rfl, k2.cell 3 _ rfl, k2.cell 4 _ rfl, k2.cell 5 _ rfl, k2.cell 6 _ rfl, k1.cell 0 _ rfl, k1.cell 1 _ rfl⟩
  have HMB : Hid (∀ X, Hid (Below w1.heap.size w1 X) → Blk X M #[.string mainB, .int .i64 2, .string ⟨#[]⟩, .int .i64 1, .slice none 0 0, .slice none 0 0, .slice none 0 0, .slice none 0 0] 56 ∧ ExAt X X.heap.size 1 (numT 1) M 1 ∧ Blk X g bi7V 79) := fun X h => by
    obtain ⟨q1, q2, q3, q4⟩ := HX.out X (hb1.trans (h.out.mono hb1.size))
    exact ⟨q3, leaf_num 1 q3.lt (q3.cell 1 _ rfl) (q3.cell 2 _ rfl) (q3.cell 3 _ rfl) (q3.cell 4 _ rfl) (q3.cell 5 _ rfl) (q3.cell 6 _ rfl) (q3.cell 7 _ rfl), q2⟩
  have HVs : Hid (∀ X, Hid (Below w1.heap.size w1 X) → VarsAt X (.slice so sn sc) vl ∧ vl.length ≤ 1000000) := fun X h => ⟨(HX.out X (hb1.trans (h.out.mono hb1.size))).2.2.2, HP.out.2.2.2.2.2⟩
  have HCk : Hid (∀ X, Hid (Below w1.heap.size w1 X) → ∀ gB g' c', Blk X gB #[.string ⟨#[]⟩, .int .i64 kd, .string nm, .int .i64 nu, .slice o3 n3 c3, .slice o4 n4 c4, .slice o5 n5 c5, .slice o6 n6 c6] 56 → TxIn X X.heap.size (some ⟨g', 0, none⟩) (mainB :: vl) → Calls Tryd.prog 35 #[.slice (some ⟨gB, 0, none⟩) 1 1, .slice (some ⟨g, 0, none⟩) 5 5, .slice (some ⟨g', 0, none⟩) (mainB :: vl).length c'] X fun r w2 => ∃ z : Int, r = .returned (.int .i64 z) ∧ (z ≠ 2 → VarOK (d + 1) t) ∧ Below X.heap.size X w2) := fun X h gB g' c' kB hT => by
    obtain ⟨q1, q2, q3, q4⟩ := HX.out X (hb1.trans (h.out.mono hb1.size))
    obtain ⟨p1, p2, p3, p4, p5, p6⟩ := HP.out
    have hA := q1.at (g := gB) (off := 1) kB.lt (kB.cell 1 _ rfl) (kB.cell 2 _ rfl) (kB.cell 3 _ rfl) (kB.cell 4 _ rfl) (kB.cell 5 _ rfl) (kB.cell 6 _ rfl) (kB.cell 7 _ rfl)
    have hl : RowIn X.heap.size 8 (fun (b : ByteArray × Tr (d + 1)) g off => X.cell? ⟨g, off, none⟩ = some (.string b.1) ∧ ExAt X X.heap.size (d + 1) b.2 g (off + 1)) (some ⟨gB, 0, none⟩) [(⟨#[]⟩, t)] := by
      refine .inr ⟨gB, 0, rfl, kB.lt, fun k hk => ?_⟩
      have hk0 : k = 0 := by have : k < 1 := hk; omega
      subst hk0
      exact ⟨kB.cell 0 _ rfl, hA.1⟩
    have one : ∀ {P : ByteArray × Tr (d + 1) → Prop}, P (⟨#[]⟩, t) → ∀ b ∈ [((⟨#[]⟩ : ByteArray), t)], P b := fun hP b hb => by
      have : b = (⟨#[]⟩, t) := by simpa using hb
      rw [this]; exact hP
    refine (check_c (altsB (alkM bi7)) bi7 (some ⟨g, 0, none⟩) 5 (mainB :: vl) (some ⟨g', 0, none⟩) c' (d + 1) [(⟨#[]⟩, t)] (some ⟨gB, 0, none⟩) 1 X.heap.size X hl (bi7_row q2 q2.lt) hT (Nat.le_refl _) (by simp) (by decide) (by decide) (fun x hx => ?_) (one p1) (one p2) (by simpa using p3) (by simp; omega) (fun k hk g2 off e hg2 => ?_) (fun W m c hW hc => mbaOK bi7 m c W hc) (@decide _ (Classical.propDecidable (∃ x, [((⟨#[]⟩ : ByteArray), t)].any (fun b => freeM (d + 1) b.2 (dl (mainB :: vl).reverse) x) = true))) ⟨fun h => @of_decide_eq_true _ (Classical.propDecidable _) h, fun h => @decide_eq_true _ (Classical.propDecidable _) h⟩).mono ?_
    · rcases List.mem_cons.1 hx with rfl | hx
      · unfold maxLen; decide
      · exact p5 x hx
    · cases e
      have hk0 : k = 0 := by have : k < 1 := hk; omega
      subst hk0
      exact hA.2
    · rintro r w2 ⟨rfl, hb⟩
      exact ⟨_, rfl, varOK_chk, hb⟩
  have hS : Hid (Below w1.heap.size w1 w1.drew) := (Below.refl _ _).drew
  clear HF HX HK HP HVw hb1 HB0
  go_upto_region 3 with fail
  refine wp_region_held_drew (S := fun X : World => Hid (Below w1.heap.size w1 X) ∧ X.cell? ⟨eb, 0, none⟩ = some (.int .i64 kd) ∧ X.cell? ⟨eb, 1, none⟩ = some (.string nm) ∧ X.cell? ⟨eb, 2, none⟩ = some (.int .i64 nu) ∧ X.cell? ⟨eb, 3, none⟩ = some (.slice o3 n3 c3) ∧ X.cell? ⟨eb, 4, none⟩ = some (.slice o4 n4 c4) ∧ X.cell? ⟨eb, 5, none⟩ = some (.slice o5 n5 c5) ∧ X.cell? ⟨eb, 6, none⟩ = some (.slice o6 n6 c6) ∧ X.cell? ⟨pb, 0, none⟩ = some (.slice (some ⟨g, 0, none⟩) 5 5) ∧ X.cell? ⟨pb, 1, none⟩ = some (.slice (some ⟨M, 0, none⟩) 1 1)) (by kernel_rfl) (HKP.out _ hS) (fun hHeld => ?_)
  generalize w1.drew = x0 at hS hHeld ⊢
  refine wpAnyH_take (i := 0) (v := .agg #[.int .i64 kd, .string nm, .int .i64 nu, .slice o3 n3 c3, .slice o4 n4 c4, .slice o5 n5 c5, .slice o6 n6 c6]) rfl (by kernel_rfl) (by kernel_rfl) (by kernel_rfl) (fun _ _ _ h => h) (Or.inl ⟨by kernel_rfl, fun X hX => ?_⟩) (by assumption) ?_
  · obtain ⟨-, q0, q1, q2, q3, q4, q5, q6, -, -⟩ := hX; go_simp
  try simp only [Act.put, List.setIfInBounds_toArray]
  refine wpAnyH_take (i := 1) (v := .agg #[.string ⟨#[]⟩, .int .i64 kd, .string nm, .int .i64 nu, .slice o3 n3 c3, .slice o4 n4 c4, .slice o5 n5 c5, .slice o6 n6 c6]) rfl (by kernel_rfl) (by kernel_rfl) (by kernel_rfl) (fun _ _ _ h => h) (Or.inl ⟨by kernel_rfl, fun X hX => ?_⟩) (by assumption) ?_
  · clear hX; go_simp
  try simp only [Act.put]
  refine wpAnyH_take (i := 3) (v := .pointer (some ⟨pb, 0, none⟩)) rfl (by kernel_rfl) (by kernel_rfl) (by kernel_rfl) (fun _ _ _ h => h) (Or.inl ⟨by kernel_rfl, fun X hX => ?_⟩) (by assumption) ?_
  · clear hX; go_simp
  try simp only [Act.put]
  refine wpAnyH_take (i := 4) (v := .slice (some ⟨g, 0, none⟩) 5 5) rfl (by kernel_rfl) (by kernel_rfl) (by kernel_rfl) (fun _ _ _ h => h) (Or.inl ⟨by kernel_rfl, fun X hX => ?_⟩) (by assumption) ?_
  · obtain ⟨-, -, -, -, -, -, -, -, q7, -⟩ := hX; go_simp
  try simp only [Act.put]
  refine wpAnyH_take (i := 5) (v := .pointer (some ⟨pb, 1, none⟩)) rfl (by kernel_rfl) (by kernel_rfl) (by kernel_rfl) (fun _ _ _ h => h) (Or.inl ⟨by kernel_rfl, fun X hX => ?_⟩) (by assumption) ?_
  · clear hX; go_simp
  try simp only [Act.put]
  refine wpAnyH_take (i := 6) (v := .slice (some ⟨M, 0, none⟩) 1 1) rfl (by kernel_rfl) (by kernel_rfl) (by kernel_rfl) (fun _ _ _ h => h) (Or.inl ⟨by kernel_rfl, fun X hX => ?_⟩) (by assumption) ?_
  · obtain ⟨-, -, -, -, -, -, -, -, -, q8⟩ := hX; go_simp
  try simp only [Act.put]
  refine wpAnyH_take (i := 8) (v := .slice so sn sc) rfl (by kernel_rfl) (by kernel_rfl) (by kernel_rfl) (fun _ _ _ h => h) (Or.inl ⟨by kernel_rfl, fun X hX => ?_⟩) (by assumption) ?_
  · clear hX; go_simp
  try simp only [Act.put]
  refine wpAnyH_ready (rs := [2, 7]) (by kernel_rfl) (by simp) ?_
  refine AllReadyH.cons (o := _) rfl (fun K hK => ?_) (AllReadyH.cons (o := _) rfl (fun K hK => ?_) AllReadyH.nil)
  · go_simp
    have kB : Blk (x0.alloc (.cells #[.string ⟨#[]⟩, .int .i64 kd, .string nm, .int .i64 nu, .slice o3 n3 c3, .slice o4 n4 c4, .slice o5 n5 c5, .slice o6 n6 c6] 56)) x0.heap.size #[.string ⟨#[]⟩, .int .i64 kd, .string nm, .int .i64 nu, .slice o3 n3 c3, .slice o4 n4 c4, .slice o5 n5 c5, .slice o6 n6 c6] 56 := Blk.new _ _ _
    have hS' : Hid (Below w1.heap.size w1 (x0.alloc (.cells #[.string ⟨#[]⟩, .int .i64 kd, .string nm, .int .i64 nu, .slice o3 n3 c3, .slice o4 n4 c4, .slice o5 n5 c5, .slice o6 n6 c6] 56))) := up2n hS (below1 _ _)
    refine hK.out _ _ (HKP.out _ hS') (fun hHeld' => ?_)
    clear hK K hS hHeld
    generalize x0.alloc (.cells #[.string ⟨#[]⟩, .int .i64 kd, .string nm, .int .i64 nu, .slice o3 n3 c3, .slice o4 n4 c4, .slice o5 n5 c5, .slice o6 n6 c6] 56) = x1 at kB hS' hHeld' ⊢
    generalize x0.heap.size = gB at kB ⊢
    have hS := hS'; clear hS'; have hHeld := hHeld'; clear hHeld'
    try simp only [Act.put, List.setIfInBounds_toArray, List.set_cons_zero, List.set_cons_succ]
    refine wpAnyH_ready (rs := [7]) (by kernel_rfl) (by simp) ?_
    refine AllReadyH.cons (o := _) rfl (fun K hK => ?_) AllReadyH.nil
    go_simp
    go_at_call 36
    refine (boundBy1_c M _ _ _ _ _ _ _ 56 1 x1 (HMB.out _ hS).1 1 (numT 1) (HMB.out _ hS).2.1).mono ?_
    rintro e x2 ⟨rfl, hn, hb⟩
    have hbase : w1.heap.size ≤ x1.heap.size := hS.out.size
    have hne : gB ≠ x1.heap.size := Nat.ne_of_lt kB.lt
    replace kB := kB.below hb
    have hS' : Hid (Below w1.heap.size w1 x2) := up2n hS hb
    refine hK.out _ _ (HKP.out _ hS') (fun hHeld' => ?_)
    clear hK K hb hS hHeld
    generalize x1.heap.size = gb at hn hbase hne ⊢
    have hS := hS'; clear hS'; have hHeld := hHeld'; clear hHeld'
    try simp only [Act.put, List.setIfInBounds_toArray, List.set_cons_zero, List.set_cons_succ]
    refine wpAnyH_ready (rs := [9]) (by kernel_rfl) (by simp) ?_
    refine AllReadyH.cons (o := _) rfl (fun K hK => ?_) AllReadyH.nil
    rw [if_pos (by kernel_rfl)]
    refine app_vars (.tmp 16) (.tmp 17) rfl w1.heap.size gb hn hbase (by rfl) (.slice so sn sc) vl (by rfl) (HVs.out _ hS).1 (HVs.out _ hS).2 (fun g' c' x3 hb' hT hgr => ?_)
    have hS' : Hid (Below w1.heap.size w1 x3) := hS.out.grown hgr hS.out.size (fun k e => by cases e; exact hbase)
    have kB2 : Blk x3 gB #[.string ⟨#[]⟩, .int .i64 kd, .string nm, .int .i64 nu, .slice o3 n3 c3, .slice o4 n4 c4, .slice o5 n5 c5, .slice o6 n6 c6] 56 := by unfold Blk; rw [hgr.block gB kB.lt (fun e => hne (Option.some.inj e))]; exact kB
    clear kB hne; have kB := kB2; clear kB2
    refine hK.out _ _ (HKP.out _ hS') (fun hHeld' => ?_)
    clear hK K hS hHeld hgr hn hbase hb'
    have hS := hS'; clear hS'; have hHeld := hHeld'; clear hHeld'
    try simp only [Act.put, List.setIfInBounds_toArray]
    refine wpAnyH_ready (rs := [10]) (by kernel_rfl) (by simp) ?_
    refine AllReadyH.cons (o := _) rfl (fun K hK => ?_) AllReadyH.nil
    go_simp
    go_at_call 35
    refine (HCk.out x3 hS gB g' c' kB hT).mono ?_
    rintro e x4 ⟨z, rfl, hz, hb⟩
    have hS' : Hid (Below w1.heap.size w1 x4) := up2n hS hb
    have HZ : Hid (z ≠ 2 → VarOK (d + 1) t) := hz
    refine hK.out _ _ (HKP.out _ hS') (fun hHeld' => ?_)
    clear hK K hb hS hHeld hz hT kB
    have hS := hS'; clear hS'; have hHeld := hHeld'; clear hHeld'
    try simp only [Act.put, List.setIfInBounds_toArray, List.set_cons_zero, List.set_cons_succ]
    refine wpAnyH_take (i := 11) (v := .int .i64 z) rfl (by kernel_rfl) (by kernel_rfl) (by kernel_rfl) (fun _ _ _ h => h) (Or.inl ⟨by kernel_rfl, fun X hX => ?_⟩) (by assumption) ?_
    · clear hX; go_simp
    simp only [Act.put, List.getElem_toArray, List.getElem_cons_succ, List.getElem_cons_zero, List.setIfInBounds_toArray, List.set_cons_zero, List.set_cons_succ]
    refine wpAnyH_done (by kernel_rfl) ?_ _
    go_wp2
    go_ret
    exact ⟨z, rfl, HZ.out, H1.out.trans (hS.out.mono H1.out.size)⟩
  · go_simp
    go_at_call 36
    refine (boundBy1_c M _ _ _ _ _ _ _ 56 1 x0 (HMB.out _ hS).1 1 (numT 1) (HMB.out _ hS).2.1).mono ?_
    rintro e x5 ⟨rfl, hn, hb⟩
    have hbase : w1.heap.size ≤ x0.heap.size := hS.out.size
    have hS' : Hid (Below w1.heap.size w1 x5) := up2n hS hb
    refine hK.out _ _ (HKP.out _ hS') (fun hHeld' => ?_)
    clear hK K hb hS hHeld
    generalize x0.heap.size = gb at hn hbase ⊢
    have hS := hS'; clear hS'; have hHeld := hHeld'; clear hHeld'
    try simp only [Act.put, List.setIfInBounds_toArray, List.set_cons_zero, List.set_cons_succ]
    refine wpAnyH_ready (rs := [2, 9]) (by kernel_rfl) (by simp) ?_
    refine AllReadyH.cons (o := _) rfl (fun K hK => ?_) (AllReadyH.cons (o := _) rfl (fun K hK => ?_) AllReadyH.nil)
    · go_simp
      have kB : Blk (x5.alloc (.cells #[.string ⟨#[]⟩, .int .i64 kd, .string nm, .int .i64 nu, .slice o3 n3 c3, .slice o4 n4 c4, .slice o5 n5 c5, .slice o6 n6 c6] 56)) x5.heap.size #[.string ⟨#[]⟩, .int .i64 kd, .string nm, .int .i64 nu, .slice o3 n3 c3, .slice o4 n4 c4, .slice o5 n5 c5, .slice o6 n6 c6] 56 := Blk.new _ _ _
      have hS' : Hid (Below w1.heap.size w1 (x5.alloc (.cells #[.string ⟨#[]⟩, .int .i64 kd, .string nm, .int .i64 nu, .slice o3 n3 c3, .slice o4 n4 c4, .slice o5 n5 c5, .slice o6 n6 c6] 56))) := up2n hS (below1 _ _)
      have hne : x5.heap.size ≠ gb := Nat.ne_of_gt hn.lt
      replace hn := hn.below (below1 x5 (.cells #[.string ⟨#[]⟩, .int .i64 kd, .string nm, .int .i64 nu, .slice o3 n3 c3, .slice o4 n4 c4, .slice o5 n5 c5, .slice o6 n6 c6] 56))
      refine hK.out _ _ (HKP.out _ hS') (fun hHeld' => ?_)
      clear hK K hS hHeld
      generalize x5.alloc (.cells #[.string ⟨#[]⟩, .int .i64 kd, .string nm, .int .i64 nu, .slice o3 n3 c3, .slice o4 n4 c4, .slice o5 n5 c5, .slice o6 n6 c6] 56) = x6 at hn kB hS' hHeld' ⊢
      generalize x5.heap.size = gB at kB hne ⊢
      have hS := hS'; clear hS'; have hHeld := hHeld'; clear hHeld'
      try simp only [Act.put, List.setIfInBounds_toArray, List.set_cons_zero, List.set_cons_succ]
      refine wpAnyH_ready (rs := [9]) (by kernel_rfl) (by simp) ?_
      refine AllReadyH.cons (o := _) rfl (fun K hK => ?_) AllReadyH.nil
      rw [if_pos (by kernel_rfl)]
      refine app_vars (.tmp 16) (.tmp 17) rfl w1.heap.size gb hn hbase (by rfl) (.slice so sn sc) vl (by rfl) (HVs.out _ hS).1 (HVs.out _ hS).2 (fun g' c' x7 hb' hT hgr => ?_)
      have hS' : Hid (Below w1.heap.size w1 x7) := hS.out.grown hgr hS.out.size (fun k e => by cases e; exact hbase)
      have kB2 : Blk x7 gB #[.string ⟨#[]⟩, .int .i64 kd, .string nm, .int .i64 nu, .slice o3 n3 c3, .slice o4 n4 c4, .slice o5 n5 c5, .slice o6 n6 c6] 56 := by unfold Blk; rw [hgr.block gB kB.lt (fun e => hne (Option.some.inj e))]; exact kB
      clear kB hne; have kB := kB2; clear kB2
      refine hK.out _ _ (HKP.out _ hS') (fun hHeld' => ?_)
      clear hK K hS hHeld hgr hn hbase hb'
      have hS := hS'; clear hS'; have hHeld := hHeld'; clear hHeld'
      try simp only [Act.put, List.setIfInBounds_toArray]
      refine wpAnyH_ready (rs := [10]) (by kernel_rfl) (by simp) ?_
      refine AllReadyH.cons (o := _) rfl (fun K hK => ?_) AllReadyH.nil
      go_simp
      go_at_call 35
      refine (HCk.out x7 hS gB g' c' kB hT).mono ?_
      rintro e x8 ⟨z, rfl, hz, hb⟩
      have hS' : Hid (Below w1.heap.size w1 x8) := up2n hS hb
      have HZ : Hid (z ≠ 2 → VarOK (d + 1) t) := hz
      refine hK.out _ _ (HKP.out _ hS') (fun hHeld' => ?_)
      clear hK K hb hS hHeld hz hT kB
      have hS := hS'; clear hS'; have hHeld := hHeld'; clear hHeld'
      try simp only [Act.put, List.setIfInBounds_toArray, List.set_cons_zero, List.set_cons_succ]
      refine wpAnyH_take (i := 11) (v := .int .i64 z) rfl (by kernel_rfl) (by kernel_rfl) (by kernel_rfl) (fun _ _ _ h => h) (Or.inl ⟨by kernel_rfl, fun X hX => ?_⟩) (by assumption) ?_
      · clear hX; go_simp
      simp only [Act.put, List.getElem_toArray, List.getElem_cons_succ, List.getElem_cons_zero, List.setIfInBounds_toArray, List.set_cons_zero, List.set_cons_succ]
      refine wpAnyH_done (by kernel_rfl) ?_ _
      go_wp2
      go_ret
      exact ⟨z, rfl, HZ.out, H1.out.trans (hS.out.mono H1.out.size)⟩
    · rw [if_pos (by kernel_rfl)]
      refine app_vars (.tmp 16) (.tmp 17) rfl w1.heap.size gb hn hbase (by rfl) (.slice so sn sc) vl (by rfl) (HVs.out _ hS).1 (HVs.out _ hS).2 (fun g' c' x9 hb' hT hgr => ?_)
      have hS' : Hid (Below w1.heap.size w1 x9) := hS.out.grown hgr hS.out.size (fun k e => by cases e; exact hbase)
      refine hK.out _ _ (HKP.out _ hS') (fun hHeld' => ?_)
      clear hK K hS hHeld hgr hn hbase hb'
      have hS := hS'; clear hS'; have hHeld := hHeld'; clear hHeld'
      try simp only [Act.put, List.setIfInBounds_toArray]
      refine wpAnyH_ready (rs := [2]) (by kernel_rfl) (by simp) ?_
      refine AllReadyH.cons (o := _) rfl (fun K hK => ?_) AllReadyH.nil
      go_simp
      have kB : Blk (x9.alloc (.cells #[.string ⟨#[]⟩, .int .i64 kd, .string nm, .int .i64 nu, .slice o3 n3 c3, .slice o4 n4 c4, .slice o5 n5 c5, .slice o6 n6 c6] 56)) x9.heap.size #[.string ⟨#[]⟩, .int .i64 kd, .string nm, .int .i64 nu, .slice o3 n3 c3, .slice o4 n4 c4, .slice o5 n5 c5, .slice o6 n6 c6] 56 := Blk.new _ _ _
      have hS' : Hid (Below w1.heap.size w1 (x9.alloc (.cells #[.string ⟨#[]⟩, .int .i64 kd, .string nm, .int .i64 nu, .slice o3 n3 c3, .slice o4 n4 c4, .slice o5 n5 c5, .slice o6 n6 c6] 56))) := up2n hS (below1 _ _)
      replace hT := hT.grow (below1 x9 (.cells #[.string ⟨#[]⟩, .int .i64 kd, .string nm, .int .i64 nu, .slice o3 n3 c3, .slice o4 n4 c4, .slice o5 n5 c5, .slice o6 n6 c6] 56))
      refine hK.out _ _ (HKP.out _ hS') (fun hHeld' => ?_)
      clear hK K hS hHeld
      generalize x9.alloc (.cells #[.string ⟨#[]⟩, .int .i64 kd, .string nm, .int .i64 nu, .slice o3 n3 c3, .slice o4 n4 c4, .slice o5 n5 c5, .slice o6 n6 c6] 56) = x10 at hT kB hS' hHeld' ⊢
      generalize x9.heap.size = gB at kB ⊢
      have hS := hS'; clear hS'; have hHeld := hHeld'; clear hHeld'
      try simp only [Act.put, List.setIfInBounds_toArray, List.set_cons_zero, List.set_cons_succ]
      refine wpAnyH_ready (rs := [10]) (by kernel_rfl) (by simp) ?_
      refine AllReadyH.cons (o := _) rfl (fun K hK => ?_) AllReadyH.nil
      go_simp
      go_at_call 35
      refine (HCk.out x10 hS gB g' c' kB hT).mono ?_
      rintro e x11 ⟨z, rfl, hz, hb⟩
      have hS' : Hid (Below w1.heap.size w1 x11) := up2n hS hb
      have HZ : Hid (z ≠ 2 → VarOK (d + 1) t) := hz
      refine hK.out _ _ (HKP.out _ hS') (fun hHeld' => ?_)
      clear hK K hb hS hHeld hz hT kB
      have hS := hS'; clear hS'; have hHeld := hHeld'; clear hHeld'
      try simp only [Act.put, List.setIfInBounds_toArray, List.set_cons_zero, List.set_cons_succ]
      refine wpAnyH_take (i := 11) (v := .int .i64 z) rfl (by kernel_rfl) (by kernel_rfl) (by kernel_rfl) (fun _ _ _ h => h) (Or.inl ⟨by kernel_rfl, fun X hX => ?_⟩) (by assumption) ?_
      · clear hX; go_simp
      simp only [Act.put, List.getElem_toArray, List.getElem_cons_succ, List.getElem_cons_zero, List.setIfInBounds_toArray, List.set_cons_zero, List.set_cons_succ]
      refine wpAnyH_done (by kernel_rfl) ?_ _
      go_wp2
      go_ret
      exact ⟨z, rfl, HZ.out, H1.out.trans (hS.out.mono H1.out.size)⟩
end Go.Proofs.YtjmpjfggbhongaaDoor
