/-
  The laws' own chains, by a contract.
-/
import Derived.Test.YtppnhaacmhfenabGreatDoorGFxC
import Derived.Test.YtppnhaacmhfenabGreatDoorGLevM
import Derived.Deep.RegionLaw
import Derived.Deep.CutRange
import Derived.Deep.AppendLies
namespace Go.Proofs.YtppnhaacmhfenabGreatDoor
open Go.RowKit Go.Shelf Go.Maps
set_option linter.unusedVariables false

/-- A leaf's cells. -/
def lfC (n : Nd) : List Value := [.int .i64 n.kind, .string (bs n.name), .int .i64 n.num, .slice none 0 0, .int .i64 n.pos]
theorem lf_get : ∀ (ts : List Nd) (k : Nat) (h : k < ts.length) (q : Nat), q < 5 → (ts.flatMap lfC)[k * 5 + q]? = (lfC ts[k])[q]?
  | t :: ts, 0, h, q, hq => by
    rw [List.flatMap_cons, Nat.zero_mul, Nat.zero_add, List.getElem?_append_left (by show q < 5; exact hq)]; rfl
  | t :: ts, k + 1, h, q, hq => by
    have hf : (lfC t).length = 5 := rfl
    rw [List.flatMap_cons, List.getElem?_append_right (by rw [hf]; omega), hf, show (k + 1) * 5 + q - 5 = k * 5 + q by omega]
    exact lf_get ts k (by simpa using h) q hq
theorem lf_len (ts : List Nd) : (ts.flatMap lfC).length = ts.length * 5 := by
  induction ts with
  | nil => rfl
  | cons t ts ih => rw [List.flatMap_cons, List.length_append, ih, List.length_cons]; show 5 + _ = _; omega
theorem kids_row {W : World} {base B : Nat} {o : Option Addr} {cap : Nat} : ∀ (l : List Nd), (∀ x ∈ l, x.kids = [] ∧ (-9223372036854775808 ≤ x.kind ∧ x.kind ≤ 9223372036854775807) ∧ x.name.length ≤ 9223372036854775807 ∧ (-9223372036854775808 ≤ x.num ∧ x.num ≤ 9223372036854775807)) → ∀ (g off : Nat), (∀ k (h : k < l.length) q u, (lfC l[k])[q]? = some u → W.cell? ⟨g, off + k * 5 + q, none⟩ = some u) → KidsAt W B l g off
  | [], _, g, off, _ => by simp only [KidsAt]
  | x :: l, hx, g, off, h => by
    simp only [KidsAt]
    obtain ⟨h1, h2⟩ := hx x List.mem_cons_self
    have f := h 0 (by simp)
    simp only [Nat.zero_mul, Nat.add_zero, List.getElem_cons_zero] at f
    refine ⟨ndF_at (o := none) (cap := 0) ⟨.inl h1, by rw [h1]; exact Nat.le_refl _, by decide, h2⟩ (f 0 _ rfl) (f 1 _ rfl) (f 2 _ rfl) (by rw [h1]; exact f 3 _ rfl) (f 4 _ rfl), kids_row (base := base) (o := o) (cap := cap) l (fun y hy => hx y (List.mem_cons_of_mem _ hy)) g (off + 5) (fun k hk q u hu => ?_)⟩
    have := h (k + 1) (by simpa using hk) q u (by simpa using hu)
    rw [show off + 5 + k * 5 + q = off + (k + 1) * 5 + q by omega]
    exact this
def ndZ : Value := .agg #[.int .i64 0, .string ⟨#[]⟩, .int .i64 0, .slice none 0 0, .int .i64 0]
theorem infoNd : (Tryz.prog.info? 28).map (fun i => (i.zero, i.size, i.bytes)) = some (some ndZ, 5, 64) := by kernel_rfl
theorem ten_one {k1 n1 p1 k2 n2 p2 : Int} {s1 s2 : ByteArray} : ∀ u ∈ (#[.int .i64 k1, .string s1, .int .i64 n1, .slice none 0 0, .int .i64 p1, .int .i64 k2, .string s2, .int .i64 n2, .slice none 0 0, .int .i64 p2] : Array Value).toList, u.oneCell' = true := by
  intro u hu
  simp only [List.mem_cons, List.not_mem_nil, or_false] at hu
  rcases hu with rfl | rfl | rfl | rfl | rfl | rfl | rfl | rfl | rfl | rfl <;> rfl
theorem tailO_snoc (nm : List UInt8) : ∀ (c k : Nat), tailO nm k (c + 1) = tailO nm k c ++ [opO nm, nmO (k + c)]
  | 0, k => rfl
  | c + 1, k => by
    show opO nm :: nmO k :: tailO nm (k + 1) (c + 1) = _
    rw [tailO_snoc nm c (k + 1), show k + 1 + c = k + (c + 1) by omega]
    rfl

structure CI (nm : List UInt8) (w : World) (b1 b3 k : Nat) (o : Option Addr) (cap : Nat) (wr : World) : Prop where
  out : Blk wr b3 #[.int .i64 17, .string ⟨#[]⟩, .int .i64 0, .slice o (2 * k + 1) cap, .int .i64 0] 28
  row : wr.ownsRow b1 28 5 (.slice o (2 * k + 1) cap) (2 * k + 1) ((nmO 0 :: tailO nm 1 k).flatMap lfC)
  ne : ∀ r, (Value.slice o (2 * k + 1) cap).ownBlock = some r → r ≠ b3
  z : Blk wr w.heap.size #[.int .i64 0, .string ⟨#[]⟩, .int .i64 0, .slice none 0 0, .int .i64 0] 28
  bel : Below w.heap.size w wr
  b1ge : w.heap.size < b1
  b3ge : b1 < b3


theorem cast_k (k : Nat) : Value.int IntKind.i64 ((k : Int) + 1) = Value.int IntKind.i64 ((k + 1 : Nat) : Int) := by
  have h : ((k + 1 : Nat) : Int) = (k : Int) + 1 := by omega
  rw [h]
theorem meas_k (k n : Nat) (h : k < n) : n - (intOf (Value.int IntKind.i64 ((k : Int) + 1))).toNat < n - (intOf (Value.int IntKind.i64 (k : Int))).toNat := by
  show n - ((k : Int) + 1).toNat < n - ((k : Int)).toNat
  omega
theorem ci_rows (nm : List UInt8) (k : Nat) : (nmO 0 :: tailO nm 1 (k + 1)).flatMap lfC = (nmO 0 :: tailO nm 1 k).flatMap lfC ++ (#[.int .i64 5, .string (bs nm), .int .i64 0, .slice none 0 0, .int .i64 0, .int .i64 13, .string ⟨#[]⟩, .int .i64 ((k : Int) + 1), .slice none 0 0, .int .i64 0] : Array Value).toList := by
  rw [tailO_snoc, ← List.cons_append, List.flatMap_append]
  have : [opO nm, nmO (1 + k)].flatMap lfC = (#[.int .i64 5, .string (bs nm), .int .i64 0, .slice none 0 0, .int .i64 0, .int .i64 13, .string ⟨#[]⟩, .int .i64 ((k : Int) + 1), .slice none 0 0, .int .i64 0] : Array Value).toList := by
    have h : ((1 + k : Nat) : Int) = (k : Int) + 1 := by omega
    show [Value.int .i64 5, .string (bs nm), .int .i64 0, .slice none 0 0, .int .i64 0, .int .i64 13, .string (bs []), .int .i64 ((1 + k : Nat) : Int), .slice none 0 0, .int .i64 0] = _
    rw [h]
    rfl
  rw [this]
structure AP (nm : List UInt8) (wn : World) (b1 k L : Nat) (o : Option Addr) (cap o7 c7 : Nat) (w7 : World) : Prop where
  own : w7.ownsRow b1 28 5 (.slice (some ⟨o7, 0, none⟩) (L + 2) c7) (L + 2) ((nmO 0 :: tailO nm 1 k).flatMap lfC ++ (#[.int .i64 5, .string (bs nm), .int .i64 0, .slice none 0 0, .int .i64 0, .int .i64 13, .string ⟨#[]⟩, .int .i64 ((k : Int) + 1), .slice none 0 0, .int .i64 0] : Array Value).toList)
  gr : (wn.alloc (.cells #[.int .i64 5, .string (bs nm), .int .i64 0, .slice none 0 0, .int .i64 0, .int .i64 13, .string ⟨#[]⟩, .int .i64 ((k : Int) + 1), .slice none 0 0, .int .i64 0] 28)).grownBy w7 (Value.slice o L cap).ownBlock
  at7 : (Value.slice o L cap).ownBlock = some o7 ∨ o7 = wn.heap.size + 1
theorem ci_step {nm : List UInt8} {n : Nat} {w wr wn w7 : World} {b1 b3 k L o7 c7 : Nat} {o : Option Addr} {cap : Nat} (HL : Hid (2 * k + 1 = L)) (HO1 : Hid (Blk wr b3 #[.int .i64 17, .string ⟨#[]⟩, .int .i64 0, .slice o (L) cap, .int .i64 0] 28)) (HN1 : Hid (∀ r, (Value.slice o L cap).ownBlock = some r → r ≠ b3)) (HZ1 : Hid (Blk wr w.heap.size #[.int .i64 0, .string ⟨#[]⟩, .int .i64 0, .slice none 0 0, .int .i64 0] 28 ∧ Below w.heap.size w wr ∧ w.heap.size < b1 ∧ b1 < b3 ∧ k < n ∧ L ≤ 300)) (HR1 : Hid (wr.ownsRow b1 28 5 (.slice o L cap) L ((nmO 0 :: tailO nm 1 k).flatMap lfC))) (Bn : Hid (Below wr.heap.size wr wn))
    (H7 : Hid (AP nm wn b1 k L o cap o7 c7 w7)) :
    Hid (CI nm w b1 b3 (k + 1) (some ⟨o7, 0, none⟩) c7 (w7.setCell ⟨b3, 3, none⟩ (.slice (some ⟨o7, 0, none⟩) (L + 2) c7))) := by
  show CI nm w b1 b3 (k + 1) (some ⟨o7, 0, none⟩) c7 (w7.setCell ⟨b3, 3, none⟩ (.slice (some ⟨o7, 0, none⟩) (L + 2) c7))
  obtain ⟨z1, z2, z3, z4, z5, z6⟩ := HZ1.out
  have O7 := H7.out.own
  have G7 := H7.out.gr
  have T7 := H7.out.at7
  have e2 : 2 * (k + 1) + 1 = L + 2 := by have := HL.out; omega
  have hb3 := HO1.out.lt
  have hsz := Bn.out.size
  have hne : o7 ≠ b3 := by
    rcases T7 with h | h
    · exact HN1.out o7 h
    · omega
  have X7 : Blk w7 b3 #[.int .i64 17, .string ⟨#[]⟩, .int .i64 0, .slice o (L) cap, .int .i64 0] 28 := ((HO1.out.below Bn.out).alloc _).gr G7 (fun r e => (HN1.out r e).symm)
  refine ⟨?_, ?_, ?_, ?_, ?_, z3, z4⟩
  · rw [e2]; exact X7.set 3 _
  · rw [e2, ci_rows]
    refine ownsB O7 (fun j hj => Below.heap_setCell _ _ _ _ ?_)
    obtain rfl : o7 = j := by simpa [Value.ownBlock] using hj
    exact hne
  · rw [e2]
    intro r e
    obtain rfl : o7 = r := by simpa [Value.ownBlock] using e
    exact hne
  · exact (((z1.below Bn.out).alloc _).gr G7 (fun r e => by have := (HR1.out.lt r e).1; omega)).but (b := b3) (by omega) (but_set _ _ _ _)
  · exact (((z2.trans (Bn.out.mono z2.size)).alloc (by have := z2.size; omega) _).grown G7 (by have := z2.size; simp; omega) (fun r e => by have := (HR1.out.lt r e).1; omega)).setCell (p := ⟨b3, 3, none⟩) (by show w.heap.size ≤ b3; omega) _
theorem ci_nd {nm : List UInt8} (hnl : nm.length ≤ 9223372036854775807) {n : Nat} (hn : n ≤ 100) {w wr W : World} {b1 b3 : Nat} {o : Option Addr} {cap : Nat} (h : CI nm w b1 b3 n o cap wr) (hb : But w.heap.size wr W) : NdIn W W.heap.size (chainO nm n) o cap := by
  rcases h.row with ⟨hl, ⟨h1, h2⟩ | ⟨g, cap', cur, h1, h2, h3, h4, h5, h6, h7⟩⟩
  · omega
  · simp only [Value.slice.injEq] at h1
    obtain ⟨rfl, -, rfl⟩ := h1
    have hbk : Blk wr g cur 28 := h3
    have hb1 := h.b1ge
    have hbW : Blk W g cur 28 := hbk.but (by omega) hb
    have hkl : (chainO nm n).kids.length = 2 * n + 1 := by show (nmO 0 :: tailO nm 1 n).length = _; rw [List.length_cons, tailO_len]
    refine ⟨.inr ⟨g, 0, rfl, hbW.lt, ?_⟩, by rw [hkl]; exact h4, h5, ?_⟩
    · refine kids_row (base := 0) (o := none) (cap := 0) _ (fun x hx => ⟨(chain_leaf nm n x hx), chain_wf nm hnl n hn x hx⟩) g 0 (fun k hk q u hu => hbW.cell _ _ ?_)
      have hq : q < 5 := by
        rcases Nat.lt_or_ge q 5 with hq | hq
        · exact hq
        · rw [List.getElem?_eq_none (by show 5 ≤ q; exact hq)] at hu; cases hu
      have e := lf_get _ k hk q hq
      rw [hu] at e
      have e' : (cur.toList.take ((2 * n + 1) * 5))[k * 5 + q]? = some u := by rw [h7]; exact e
      rw [List.getElem?_take] at e'
      rw [Nat.zero_add]
      split at e'
      · rw [← Array.getElem?_toList]; exact e'
      · cases e'
    · exact ⟨show (-9223372036854775808 : Int) ≤ 17 ∧ (17 : Int) ≤ 9223372036854775807 by decide, show (0 : Nat) ≤ 9223372036854775807 by decide, show (-9223372036854775808 : Int) ≤ 0 ∧ (0 : Int) ≤ 9223372036854775807 by decide⟩

theorem app_arm {ops : Array Oper} {oo : Oper} {a : Act} {K : Act → World → Prop} {Q : Exit → Act → World → Prop} {E : Prop} {nm : List UInt8} {w wr wn : World} {b1 b3 k L n cap : Nat} {o : Option Addr} {i0 : TypeInfo}
    (HI : Hid (Tryz.prog.info? 28 = some i0 ∧ i0.zero = some ndZ ∧ i0.size = 5 ∧ i0.bytes = 64)) (HO1 : Hid (Blk wr b3 #[.int .i64 17, .string ⟨#[]⟩, .int .i64 0, .slice o (L) cap, .int .i64 0] 28)) (HN1 : Hid (∀ r, (Value.slice o L cap).ownBlock = some r → r ≠ b3)) (HZ1 : Hid (Blk wr w.heap.size #[.int .i64 0, .string ⟨#[]⟩, .int .i64 0, .slice none 0 0, .int .i64 0] 28 ∧ Below w.heap.size w wr ∧ w.heap.size < b1 ∧ b1 < b3 ∧ k < n ∧ L ≤ 300)) (HR1 : Hid (wr.ownsRow b1 28 5 (.slice o L cap) L ((nmO 0 :: tailO nm 1 k).flatMap lfC))) (Bn : Hid (Below wr.heap.size wr wn))
    (s x : Operand) (hgd : oo.guard = none) (ho : oo.op = .call { callee := .builtin .append, args := #[s, x], argTypes := #[26, 26] }) (hs : a.eval s = .slice o L cap) (hx : a.eval x = .slice (some ⟨wn.heap.size, 0, none⟩) 2 2)
    (h : ∀ o7 c7 w7, Hid (AP nm wn b1 k L o cap o7 c7 w7) → w7.cell? ⟨b3, 3, none⟩ = some (.slice o L cap) → w7.frozen? ⟨b3, 3, none⟩ = false → b3 < w7.heap.size → K (a.put oo.dst (.slice (some ⟨o7, 0, none⟩) (L + 2) c7)) w7) :
    if Region.wanted oo (yielded ops a.tmps) = true then Oper.wp Tryz.prog oo a (wn.alloc (.cells #[.int .i64 5, .string (bs nm), .int .i64 0, .slice none 0 0, .int .i64 0, .int .i64 13, .string ⟨#[]⟩, .int .i64 ((k : Int) + 1), .slice none 0 0, .int .i64 0] 28)) K Q else E := by
  obtain ⟨z1, z2, z3, z4, z5, z6⟩ := HZ1.out
  obtain ⟨i1, i2, i3, i4⟩ := HI.out
  have hsz := Bn.out.size
  have hb3 := HO1.out.lt
  refine step_append_lies _ hgd s x 26 ho b1 28 i0 ndZ 5 64 Tryz.underlying26 i1 i2 i3 i4 rfl (by decide) (.slice o L cap) L ((nmO 0 :: tailO nm 1 k).flatMap lfC) hs ((ownsB HR1.out (fun j hj => Bn.out.block j (HR1.out.lt j hj).2)).alloc _) ⟨wn.heap.size, 0, none⟩ 2 2 (#[.int .i64 5, .string (bs nm), .int .i64 0, .slice none 0 0, .int .i64 0, .int .i64 13, .string ⟨#[]⟩, .int .i64 ((k : Int) + 1), .slice none 0 0, .int .i64 0] : Array Value).toList hx rfl (fun j u hu => by rw [Addr.add_lit, Nat.zero_add]; exact (Blk.new wn #[.int .i64 5, .string (bs nm), .int .i64 0, .slice none 0 0, .int .i64 0, .int .i64 13, .string ⟨#[]⟩, .int .i64 ((k : Int) + 1), .slice none 0 0, .int .i64 0] 28).cell j u (by simpa using hu)) ten_one (by decide) (by unfold maxLen; omega) (by omega) (by simp; omega) (wn.heap.size + 1) (by simp) ?_
  intro o7 c7 w7 hown7 hgrow7 hat7 hlt7
  have hX7 : Blk w7 b3 #[.int .i64 17, .string ⟨#[]⟩, .int .i64 0, .slice o (L) cap, .int .i64 0] 28 := ((HO1.out.below Bn.out).alloc _).gr hgrow7 (fun r e => (HN1.out r e).symm)
  exact h o7 c7 w7 ⟨hown7, hgrow7, hat7⟩ (hX7.cell 3 _ rfl) (hX7.frozen 3) hX7.lt
set_option maxRecDepth 100000 in
set_option maxHeartbeats 8000000 in
theorem chain5_c (nm : List UInt8) (hnl : nm.length ≤ 9223372036854775807) (n : Nat) (hn : n ≤ 100) (g off lcap : Nat) (w : World) (hg : g < w.heap.size) (hA : ∀ k, k < n → w.cell? ⟨g, off + k, none⟩ = some (.string (bs nm))) :
    Calls Tryz.prog 7 #[.slice (some ⟨g, off, none⟩) n lcap] w fun e w' => ∃ o cap, e = .returned (.agg #[.int .i64 17, .string ⟨#[]⟩, .int .i64 0, .slice o (2 * n + 1) cap, .int .i64 0]) ∧ NdIn w' w'.heap.size (chainO nm n) o cap ∧ Below w.heap.size w w' := by
  have HN : Hid (∀ (n : Int) (X : World), Calls Tryz.prog 16 #[.int .i64 n] X fun e w' => e = .returned (.agg #[.int .i64 13, .string ⟨#[]⟩, .int .i64 n, .slice none 0 0, .int .i64 0]) ∧ Below X.heap.size X w') := num5_c
  have HP : Hid (∀ (s : ByteArray) (X : World), Calls Tryz.prog 14 #[.string s] X fun e w' => e = .returned (.agg #[.int .i64 5, .string s, .int .i64 0, .slice none 0 0, .int .i64 0]) ∧ Below X.heap.size X w') := op5_c
  have HO : Hid (∀ (k : Int) (o : Option Addr) (l cap : Nat) (X : World), Calls Tryz.prog 11 #[.int .i64 k, .slice o l cap] X fun e w' => e = .returned (.agg #[.int .i64 k, .string ⟨#[]⟩, .int .i64 0, .slice o l cap, .int .i64 0]) ∧ Below X.heap.size X w') := of5_c
  have HA : Hid (∀ k, k < n → w.cell? ⟨g, off + k, none⟩ = some (.string (bs nm))) := hA
  have HNl : Hid (nm.length ≤ 9223372036854775807 ∧ n ≤ 100 ∧ g < w.heap.size) := ⟨hnl, hn, hg⟩
  obtain ⟨i0, hi0, hzz⟩ := Option.map_eq_some_iff.1 infoNd
  simp only [Prod.mk.injEq] at hzz
  have HI : Hid (Tryz.prog.info? 28 = some i0 ∧ i0.zero = some ndZ ∧ i0.size = 5 ∧ i0.bytes = 64) := ⟨hi0, hzz.1, hzz.2.1, hzz.2.2⟩
  have hni : (n : Int) ≤ 100 := by omega
  have hdep : Tryz.prog.follows Departure.mixedOrders = true := by kernel_rfl
  have HB0 : Hid (Below w.heap.size w (w.alloc (.cells #[.int .i64 0, .string ⟨#[]⟩, .int .i64 0, .slice none 0 0, .int .i64 0] 28)) ∧ Blk (w.alloc (.cells #[.int .i64 0, .string ⟨#[]⟩, .int .i64 0, .slice none 0 0, .int .i64 0] 28)) w.heap.size #[.int .i64 0, .string ⟨#[]⟩, .int .i64 0, .slice none 0 0, .int .i64 0] 28) := ⟨(Below.refl _ w).alloc (Nat.le_refl _) _, Blk.new _ _ _⟩
  clear hnl hn hg hA hi0 hzz
  go_enter Tryz.func7, Tryz.ntmps7
  go_wp2_with (go_at_call 16; fail)
  refine (HN.out _ _).mono ?_
  rintro e w1 ⟨rfl, hb1⟩
  have B1 : Hid (Below w.heap.size w w1) := HB0.out.1.trans (hb1.mono HB0.out.1.size)
  have Z1 : Hid (Blk w1 w.heap.size #[.int .i64 0, .string ⟨#[]⟩, .int .i64 0, .slice none 0 0, .int .i64 0] 28) := HB0.out.2.below hb1
  clear hb1
  obtain ⟨V, hV⟩ : ∃ V, w1.alloc (.cells #[.int .i64 13, .string ⟨#[]⟩, .int .i64 0, .slice none 0 0, .int .i64 0] 28) = V := ⟨_, rfl⟩
  have HV : Hid (w1.alloc (.cells #[.int .i64 13, .string ⟨#[]⟩, .int .i64 0, .slice none 0 0, .int .i64 0] 28) = V) := hV
  have DV : Hid (Below w1.heap.size w1 V) := by show Below _ _ _; rw [← hV]; exact (Below.refl _ _).alloc (Nat.le_refl _) _
  have KV : Hid (Blk V w1.heap.size #[.int .i64 13, .string ⟨#[]⟩, .int .i64 0, .slice none 0 0, .int .i64 0] 28) := by show Blk _ _ _ _; rw [← hV]; exact Blk.new _ _ _
  clear hV
  go_wp2_with (go_at_call 11; fail)
  rw [HV.out]
  refine (HO.out _ _ _ _ _).mono ?_
  rintro e w2 ⟨rfl, hb2⟩
  have D2 : Hid (Below w1.heap.size w1 w2) := DV.out.trans (hb2.mono DV.out.size)
  have K2 : Hid (Blk w2 w1.heap.size #[.int .i64 13, .string ⟨#[]⟩, .int .i64 0, .slice none 0 0, .int .i64 0] 28) := KV.out.below hb2
  clear hb2
  have HL0 : Hid (CI nm w w1.heap.size w2.heap.size 0 (some ⟨w1.heap.size, 0, none⟩) 1 (w2.alloc (.cells #[.int .i64 17, .string ⟨#[]⟩, .int .i64 0, .slice (some ⟨w1.heap.size, 0, none⟩) (2 * 0 + 1) 1, .int .i64 0] 28))) := by
    have h := B1.out.size
    have hk := K2.out.lt
    have hz := Z1.out.lt
    have hb : Below w2.heap.size w2 (w2.alloc (.cells #[.int .i64 17, .string ⟨#[]⟩, .int .i64 0, .slice (some ⟨w1.heap.size, 0, none⟩) (2 * 0 + 1) 1, .int .i64 0] 28)) := (Below.refl _ _).alloc (Nat.le_refl _) _
    refine ⟨Blk.new _ _ _, ⟨rfl, .inr ⟨w1.heap.size, 1, #[.int .i64 13, .string ⟨#[]⟩, .int .i64 0, .slice none 0 0, .int .i64 0], rfl, Nat.le_refl _, K2.out.below hb, by decide, by unfold maxLen; decide, rfl, rfl⟩⟩, fun r e => by cases e; show w1.heap.size ≠ w2.heap.size; omega, (Z1.out.below D2.out).below hb, (B1.out.trans (D2.out.mono B1.out.size)).trans (hb.mono (by have := D2.out.size; omega)), by omega, by omega⟩
  go_wp2
  go_loopw [4] (fun i wr => ∃ (k : Nat) (o : Option Addr) (cap : Nat), k ≤ n ∧ i = .int .i64 k ∧ Hid (CI nm w w1.heap.size w2.heap.size k o cap wr)) (fun i _ => n - (intOf i).toNat)
  case atStart => exact ⟨0, _, _, Nat.zero_le _, rfl, HL0⟩
  case round =>
    obtain ⟨k, o, cap, hk, rfl, hC⟩ := hrel
    by_cases hlt : k < n
    · have hki : (k : Int) < (n : Int) := by omega
      obtain ⟨L, hL⟩ : ∃ L, 2 * k + 1 = L := ⟨_, rfl⟩
      have HLk : Hid (2 * k + 1 = L) := hL
      have hO := hC.out.out
      have hRw := hC.out.row
      have hNe := hC.out.ne
      rw [hL] at hO hRw hNe
      have HO1 : Hid (Blk wr w2.heap.size #[.int .i64 17, .string ⟨#[]⟩, .int .i64 0, .slice o (L) cap, .int .i64 0] 28) := hO
      have HR1 : Hid (wr.ownsRow w1.heap.size 28 5 (.slice o L cap) L ((nmO 0 :: tailO nm 1 k).flatMap lfC)) := hRw
      have HN1 : Hid (∀ r, (Value.slice o L cap).ownBlock = some r → r ≠ w2.heap.size) := hNe
      have HZ1 : Hid (Blk wr w.heap.size #[.int .i64 0, .string ⟨#[]⟩, .int .i64 0, .slice none 0 0, .int .i64 0] 28 ∧ Below w.heap.size w wr ∧ w.heap.size < w1.heap.size ∧ w1.heap.size < w2.heap.size ∧ k < n ∧ L ≤ 300) := ⟨hC.out.z, hC.out.bel, hC.out.b1ge, hC.out.b3ge, hlt, by have := HNl.out.2.1; omega⟩
      have cs : wr.cell? ⟨g, off + k, none⟩ = some (.string (bs nm)) := (hC.out.bel.cell (p := ⟨g, off + k, none⟩) HNl.out.2.2).trans (HA.out k hlt)
      have lg : g < wr.heap.size := Nat.lt_of_lt_of_le HNl.out.2.2 hC.out.bel.size
      have c3 : wr.cell? ⟨w2.heap.size, 3, none⟩ = some (.slice o L cap) := hO.cell 3 _ rfl
      have f3 := hO.frozen 3
      have l3 := hO.lt
      have hLi : (L : Int) ≤ 300 := by have := HZ1.out.2.2.2.2.2; omega
      have hwk : IntKind.i64.wrap ((k : Int) + 1) = (k : Int) + 1 := by rw [IntKind.wrap_i64]; omega
      clear hO hRw hNe hC hL hlt
      go_upto_region 5 with fail
      go_region_law (first | (refine app_arm HI HO1 HN1 HZ1 HR1 Bn _ _ (by rfl) (by rfl) (by rfl) (by rfl) ?_; intro o7 c7 w7 H7 c37 f37 l37) | (go_simp; go_wp2_with (first | (go_at_call 14; refine (HP.out _ _).mono ?_; rintro e wa ⟨rfl, hba⟩; have Ba : Hid (Below wr.heap.size wr wa) := (by first | exact hba | exact ((Below.refl wr.heap.size wr).drew).trans hba); have c3a : wa.cell? ⟨w2.heap.size, 3, none⟩ = some (.slice o L cap) := (HO1.out.below Ba.out).cell 3 _ rfl; have l3a := (HO1.out.below Ba.out).lt; clear hba) | (go_at_call 16; refine (HN.out _ _).mono ?_; rintro e wn ⟨rfl, hbn⟩; have Bn : Hid (Below wr.heap.size wr wn) := Ba.out.trans (hbn.mono Ba.out.size); have c3n : wn.cell? ⟨w2.heap.size, 3, none⟩ = some (.slice o L cap) := (HO1.out.below Bn.out).cell 3 _ rfl; have l3n := (HO1.out.below Bn.out).lt; clear hbn))))
      all_goals (clear c3 f3 l3 cs lg c37 f37 l37; have HC := ci_step (n := n) HLk HO1 HN1 HZ1 HR1 Bn H7; have HK : Hid (k < n ∧ n ≤ 100) := ⟨HZ1.out.2.2.2.2.1, HNl.out.2.1⟩; clear H7 HO1 HR1 HN1 HZ1; go_wp2; exact ⟨⟨k + 1, _, _, HK.out.1, cast_k k, HC⟩, meas_k k n HK.out.1⟩)
    · obtain rfl : k = n := by omega
      have hO := hC.out.out
      obtain ⟨a0, a1, a2, a3, a4, -, -, -, -, -⟩ := hO.cells5F
      have la := hO.lt
      have hZ := hC.out.z
      obtain ⟨z0, z1, z2, z3, z4, y0, y1, y2, y3, y4⟩ := hZ.cells5F
      have lz := hZ.lt
      clear hO hZ
      go_wp2
      have hK := hC.out.z.sets5F (.int .i64 17) (.string ⟨#[]⟩) (.int .i64 0) (.slice o (2 * k + 1) cap) (.int .i64 0)
      have hbs := but_sets5 wr w.heap.size (.int .i64 17) (.string ⟨#[]⟩) (.int .i64 0) (.slice o (2 * k + 1) cap) (.int .i64 0)
      have hN := ci_nd HNl.out.1 HNl.out.2.1 hC.out hbs
      have hXc : Below w.heap.size w (((((wr.setCell ⟨w.heap.size, 0, none⟩ (.int .i64 17)).setCell ⟨w.heap.size, 1, none⟩ (.string ⟨#[]⟩)).setCell ⟨w.heap.size, 2, none⟩ (.int .i64 0)).setCell ⟨w.heap.size, 3, none⟩ (.slice o (2 * k + 1) cap)).setCell ⟨w.heap.size, 4, none⟩ (.int .i64 0)) := hC.out.bel.trans (hbs.below (n := w.heap.size) (Nat.le_refl _) hC.out.bel.size)
      generalize (((((wr.setCell ⟨w.heap.size, 0, none⟩ (.int .i64 17)).setCell ⟨w.heap.size, 1, none⟩ (.string ⟨#[]⟩)).setCell ⟨w.heap.size, 2, none⟩ (.int .i64 0)).setCell ⟨w.heap.size, 3, none⟩ (.slice o (2 * k + 1) cap)).setCell ⟨w.heap.size, 4, none⟩ (.int .i64 0)) = WF at hK hN hXc ⊢
      clear hbs a0 a1 a2 a3 a4 z0 z1 z2 z3 z4 y0 y1 y2 y3 y4 la lz
      obtain ⟨g0, g1, g2, g3, g4, -, -, -, -, -⟩ := hK.cells5F
      exact bodyPost_ret (v := .agg #[.int .i64 17, .string ⟨#[]⟩, .int .i64 0, .slice o (2 * k + 1) cap, .int .i64 0]) (by simp [results, Tryz.results7, go_sem, g0, g1, g2, g3, g4]) rfl ⟨_, _, rfl, hN, hXc⟩
end Go.Proofs.YtppnhaacmhfenabGreatDoor
