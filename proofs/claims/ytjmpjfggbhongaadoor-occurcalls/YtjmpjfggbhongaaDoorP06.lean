/-
  Of the core, what is wanted here: part 6.
-/
import Derived.DeepKeys4
import Derived.Test.YtjmpjfggbhongaaDoorP05
namespace Go.Proofs.YtjmpjfggbhongaaDoor
open Go.RowKit Go.Shelf Go.Maps
set_option linter.unusedVariables false
theorem ck_laid : laidOutB Tryd.prog = true := by kernel_rfl
theorem ck_row : 164 < Tryd.prog.types.size := by
  have e : Tryd.prog.types.size + 100 = 291 := by kernel_rfl
  omega
theorem ck_keyed : Keyed Tryd.prog 164 := Keyed.of_law (deep_law_laid ck_laid (m := 2) (by omega) ck_row (by kernel_rfl) (by kernel_rfl))
/-- What a key reads as. -/
def ckL (s : List UInt8) (n : Int) : Lit := .string (keyBytes [.string s, .int .i64 n])
theorem ck_lits (s : ByteArray) (n : Int) (hs : s.size ≤ maxLen) (hn : Lit.wf (.int .i64 n) = true) : Tryd.prog.keyLits (Tryd.prog.types.size + 1) 164 [.string s, .int .i64 n] = some [.string s.data.toList, .int .i64 n] := by
  obtain ⟨m, hm⟩ : ∃ m, Tryd.prog.types.size = m + 1 := ⟨Tryd.prog.types.size - 1, by kernel_rfl⟩
  rw [hm]
  have c1 : Tryd.prog.cellsOf 164 = 2 := by kernel_rfl
  have c2 : Tryd.prog.cellsOf 9 = 1 := by kernel_rfl
  have c3 : Tryd.prog.cellsOf 2 = 1 := by kernel_rfl
  have u9 : Tryd.prog.underlying 9 = some .string := Tryd.underlying9
  have u2 : Tryd.prog.underlying 2 = some (.int .i64) := by kernel_rfl
  simp [Program.keyLits, Tryd.underlying164, c1, c2, c3, u9, u2, hs, hn]
theorem ck_key (s : ByteArray) (n : Int) (hs : s.size ≤ maxLen) (hn : Lit.wf (.int .i64 n) = true) : keyOf Tryd.prog 164 (.agg #[.string s, .int .i64 n]) = some (ckL s.data.toList n) := by
  have h1 : Tryd.prog.keyType 164 = true := by kernel_rfl
  have h2 : Value.formed Tryd.prog 164 (.agg #[.string s, .int .i64 n]) = true := by kernel_rfl
  have h3 := ck_lits s n hs hn
  unfold keyOf
  rw [Tryd.underlying164]
  simp only [h1, h2, Value.cells, Bool.and_self, if_true, h3, ckL, Option.map_some]
/-- A key that can be. -/
def KV (x : List UInt8 × Int) : Prop := x.1.length ≤ maxLen ∧ Lit.wf (.int .i64 x.2) = true
theorem ck_inj {x y : List UInt8 × Int} (hx : KV x) (hy : KV y) (e : ckL x.1 x.2 = ckL y.1 y.2) : x = y := by
  obtain ⟨a, b⟩ := x
  obtain ⟨a', b'⟩ := y
  unfold ckL at e
  injection e with e
  have h := keyBytes_inj (l := [.string a, .int .i64 b]) (l' := [.string a', .int .i64 b']) (by simp [Alike, Lit.sameKind]) (by intro z hz; simp at hz; rcases hz with rfl | rfl; exact hx.1; exact hx.2) (by intro z hz; simp at hz; rcases hz with rfl | rfl; exact hy.1; exact hy.2) e
  simp at h
  obtain ⟨rfl, rfl⟩ := h
  rfl
/-- A set of keys, with its size. -/
def KS (W : World) (b : Nat) (ms : List (List UInt8 × Int)) : Prop := (∀ x ∈ ms, KV x) ∧ ∃ (c : Nat) (D : DataW Value), c ≤ ms.length ∧ W.ownsMap Tryd.prog 164 heldElem b c D ∧ Maps.IsMap D ∧ (∀ x, KV x → Maps.has D (ckL x.1 x.2) = decide (x ∈ ms)) ∧ Maps.size D ≤ ms.length ∧ (Maps.size D = ms.length ↔ ms.Nodup)
theorem ks_new (W : World) : KS (W.alloc (.map #[] 0)) W.heap.size [] := ⟨fun x hx => (by cases hx), 0, .map [], Nat.le_refl _, World.ownsMap_made W Tryd.prog 164 heldElem, ⟨_, rfl⟩, fun x _ => rfl, Nat.le_refl _, ⟨fun _ => .nil, fun _ => rfl⟩⟩
theorem KS.lt {W : World} {b : Nat} {ms : List (List UInt8 × Int)} (h : KS W b ms) : b < W.heap.size := by
  obtain ⟨-, c, D, -, h1, -⟩ := h
  exact h1.lt
theorem KS.same {W W' : World} {b : Nat} {ms : List (List UInt8 × Int)} (h : KS W b ms) (hb : W'.heap[b]? = W.heap[b]?) : KS W' b ms := by
  obtain ⟨h0, c, D, h1, ⟨es, clock, k1, k2⟩, h2⟩ := h
  exact ⟨h0, c, D, h1, ⟨es, clock, by rw [hb]; exact k1, k2⟩, h2⟩
theorem KS.upd {W : World} {b : Nat} {ms : List (List UInt8 × Int)} (h : KS W b ms) (hc : ms.length ≤ 3000000) (s : ByteArray) (n : Int) (hs : s.size ≤ maxLen) (hn : Lit.wf (.int .i64 n) = true) :
    ∃ W', (Instr.mapUpdate 171 (.map (some b)) (.agg #[.string s, .int .i64 n]) (.agg #[])).run Tryd.prog W = .ok () W' ∧ KS W' b (ms ++ [(s.data.toList, n)]) ∧ W.grownBy W' (some b) := by
  obtain ⟨hv, c, D, h0, hown, hD, hhas, hsz, hnd⟩ := h
  obtain ⟨W', hrun, r1, r2⟩ := hown.update ck_keyed Tryd.underlying171 (by unfold maxLen; omega) (ck_key s n hs hn) (show heldElem (.agg #[]) = some (.held (.agg #[]), []) from rfl)
  have hK : KV (s.data.toList, n) := ⟨hs, hn⟩
  have htidy := hown.tidy ck_keyed
  have hput := Maps.size_put (k := ckL s.data.toList n) htidy (.held (.agg #[]))
  have hh := hhas _ hK
  simp only at hh
  rw [hh] at hput
  generalize s.data.toList = nm at hput r1 hK hh ⊢
  refine ⟨W', hrun, ⟨?_, c + 1, _, by simp; omega, r1, ?_, fun x hx => ?_, ?_, ?_⟩, r2⟩
  · intro x hx
    rcases List.mem_append.1 hx with h | h
    · exact hv x h
    · simp at h; subst h; exact hK
  · obtain ⟨es, rfl⟩ := hD
    exact ⟨_, rfl⟩
  · by_cases e : x = (nm, n)
    · subst e
      rw [Maps.has_put_same hD (by unfold ckL; constructor)]; simp
    · rw [Maps.has_put_other (fun e9 => e (ck_inj hx hK (by first | exact e9 | exact e9.symm))), hhas x hx]; simp [e]
  · rw [hput]; simp; split <;> omega
  · rw [hput]
    by_cases hx : (nm, n) ∈ ms
    · simp only [hx, decide_true, if_true, List.length_append, List.length_cons, List.length_nil]
      constructor
      · intro e; omega
      · intro hn
        exact absurd rfl ((List.nodup_append.1 hn).2.2 (nm, n) hx (nm, n) (by simp))
    · simp only [hx, decide_false, List.length_append, List.length_cons, List.length_nil]
      constructor
      · intro e
        have : ms.Nodup := hnd.1 (by simpa using e)
        exact List.nodup_append.2 ⟨this, by simp, fun a ha b hb => by simp at hb; subst hb; intro e2; exact hx (e2 ▸ ha)⟩
      · intro hn
        have := hnd.2 (List.nodup_append.1 hn).1
        simpa using this
theorem KS.len {W : World} {b : Nat} {ms : List (List UInt8 × Int)} (h : KS W b ms) (ty : TypeId) : ∃ k : Nat, (Builtin.len_ #[171] ty #[.map (some b)]).run Tryd.prog W = .ok (.int .i64 (k : Int)) W ∧ k ≤ ms.length ∧ (k = ms.length ↔ ms.Nodup) := by
  obtain ⟨h9, c, D, h0, hown, hD, hhas, hsz, hnd⟩ := h
  exact ⟨Maps.size D, hown.len Tryd.underlying171 ty, hsz, hnd⟩
theorem mmK_run (n : Nat) (W : World) (hn : n ≤ 4611686018427387904) : (Instr.makeMap 171 (some (.int .i64 n))).run Tryd.prog W = .ok (.map (some W.heap.size)) (W.alloc (.map #[] 0)) := by
  simp [Instr.makeMap, go_sem]
/-- Keys in memory. -/
def KyAt (W : World) (x : ByteArray × Int) (g off : Nat) : Prop := W.cell? ⟨g, off, none⟩ = some (.string x.1) ∧ W.cell? ⟨g, off + 1, none⟩ = some (.int .i64 x.2)
def kd2 (l : List (ByteArray × Int)) : List (List UInt8 × Int) := l.map (fun x => (x.1.data.toList, x.2))
set_option maxRecDepth 100000 in
set_option maxHeartbeats 4000000 in
theorem distinctK_c (l : List (ByteArray × Int)) (o : Option Addr) (cap B : Nat) (w : World) (hl : RowIn B 2 (KyAt w) o l) (hw : B ≤ w.heap.size) (hn : l.length ≤ 2000000) (hz : ∀ x ∈ l, x.1.size ≤ maxLen ∧ Lit.wf (.int .i64 x.2) = true) :
    Calls Tryd.prog 109 #[.slice o l.length cap] w fun e w' => e = .returned (.bool (decide ((kd2 l).Nodup))) ∧ Below w.heap.size w w' := by
  obtain ⟨n, hln⟩ : ∃ n, l.length = n := ⟨_, rfl⟩
  have HN : Hid (RowIn B 2 (KyAt w) o l ∧ B ≤ w.heap.size ∧ l.length = n ∧ (∀ x ∈ l, x.1.size ≤ maxLen ∧ Lit.wf (.int .i64 x.2) = true) ∧ n ≤ 2000000) := ⟨hl, hw, hln, hz, by omega⟩
  have hni : (n : Int) ≤ 2000000 := by omega
  have hmm : ∀ W : World, (Instr.makeMap 171 (some (.int .i64 (n : Int)))).run Tryd.prog W = .ok (.map (some W.heap.size)) (W.alloc (.map #[] 0)) := fun W => mmK_run n W (by omega)
  have H0 : Hid (KS (w.alloc (.map #[] 0)) w.heap.size [] ∧ Below w.heap.size w (w.alloc (.map #[] 0))) := ⟨ks_new w, below1 w _⟩
  rw [hln]
  clear hl hw hln hn hz
  go_enter Tryd.func109, Tryd.ntmps109
  go_wp2
  go_loopw [11] (fun v wr => ∃ k : Nat, v = .int .i64 (k : Int) ∧ Hid (k ≤ n ∧ KS wr w.heap.size (kd2 (l.take k)) ∧ Below w.heap.size w wr)) (fun v _ => n - (intOf v).toNat)
  case atStart => exact ⟨0, rfl, ⟨Nat.zero_le _, H0.out.1, H0.out.2⟩⟩
  case round =>
    clear H0 hmm
    obtain ⟨k, rfl, HI⟩ := hrel
    by_cases hk : k < n
    · have hkl : k < l.length := by rw [HN.out.2.2.1]; exact hk
      obtain ⟨g, off, rfl, hg, hx⟩ : ∃ g off, o = some ⟨g, off, none⟩ ∧ g < B ∧ KyAt w l[k] g (off + k * 2) := by
        rcases HN.out.1 with h9 | ⟨g, off, e, hg, h9⟩
        · rw [h9] at hkl; exact absurd hkl (Nat.not_lt_zero _)
        · exact ⟨g, off, e, hg, h9 k hkl⟩
      have hgw : g < w.heap.size := by have := HN.out.2.1; omega
      have hcx := (HI.out.2.2.cell (p := ⟨g, off + k * 2, none⟩) hgw).trans hx.1
      have hcy := (HI.out.2.2.cell (p := ⟨g, off + k * 2 + 1, none⟩) hgw).trans hx.2
      have hgr : g < wr.heap.size := Nat.lt_of_lt_of_le hgw HI.out.2.2.size
      have hB1 : Below w.heap.size w (wr.alloc (.cells #[.string l[k].1, .int .i64 l[k].2] 164)) := HI.out.2.2.trans ((below1 wr _).mono HI.out.2.2.size)
      have hK1 : KS (wr.alloc (.cells #[.string l[k].1, .int .i64 l[k].2] 164)) w.heap.size (kd2 (l.take k)) := HI.out.2.1.same ((below1 wr _).block _ HI.out.2.1.lt)
      obtain ⟨W2, hr2, hp2, hg2⟩ := hK1.upd (by unfold kd2; rw [List.length_map, List.length_take]; have := HN.out.2.2.2.2; omega) l[k].1 l[k].2 (HN.out.2.2.2.1 _ (List.getElem_mem hkl)).1 (HN.out.2.2.2.1 _ (List.getElem_mem hkl)).2
      have H2 : Hid (KS W2 w.heap.size (kd2 (l.take (k + 1))) ∧ Below w.heap.size w W2 ∧ k < n) := ⟨by rw [List.take_succ_eq_append_getElem hkl]; unfold kd2; rw [List.map_append]; exact hp2, hB1.grown hg2 hB1.size (fun j hj => by cases hj; exact Nat.le_refl _), hk⟩
      have hki : (k : Int) < (n : Int) := by omega
      generalize l[k].1 = nk at hcx hr2
      generalize l[k].2 = mk at hcy hr2
      clear hp2 hg2 hk hx hkl hg hgw hB1 hK1
      go_wp2
      refine ⟨⟨k + 1, by congr 1, ⟨H2.out.2.2, H2.out.1, H2.out.2.1⟩⟩, ?_⟩
      show n - ((k : Int) + 1).toNat < n - ((k : Int)).toNat
      have := H2.out.2.2; omega
    · have hki : ¬ (k : Int) < (n : Int) := by omega
      have hke : l.take k = l := List.take_of_length_le (by have := HN.out.2.2.1; omega)
      have hds := HI.out.2.1
      rw [hke] at hds
      obtain ⟨q, hq1, hq2, hq3⟩ := hds.len 3
      have hdl : (kd2 l).length = n := by unfold kd2; rw [List.length_map]; exact HN.out.2.2.1
      rw [hdl] at hq2 hq3
      have hqi : (q : Int) ≤ 2000000 := by omega
      have HQ : Hid (q = n ↔ (kd2 l).Nodup) := hq3
      clear hk hke hds hdl hq3 hq2
      by_cases hqn : q = n
      · have HX : Hid ((kd2 l).Nodup) := HQ.out.1 hqn
        subst hqn
        clear HQ
        go_wp2
        go_ret
        exact ⟨by rw [decide_eq_true HX.out]; first | rfl | simp, HI.out.2.2⟩
      · have e1 : ¬ (q : Int) = (n : Int) := by omega
        have e2 : ((q : Int) == (n : Int)) = false := by simp; omega
        have HX : Hid (¬ (kd2 l).Nodup) := fun h9 => hqn (HQ.out.2 h9)
        clear hqn HQ
        go_wp2
        go_ret
        exact ⟨by rw [decide_eq_false HX.out]; first | rfl | simp, HI.out.2.2⟩
end Go.Proofs.YtjmpjfggbhongaaDoor
