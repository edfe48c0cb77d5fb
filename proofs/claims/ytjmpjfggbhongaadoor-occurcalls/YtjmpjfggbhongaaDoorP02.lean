/-
  Of the core, what is wanted here: part 2.
-/
import Derived.LaidEqlPtr
import Derived.Lib.Builder
import Derived.Test.YtjmpjfggbhongaaDoorP01
namespace Go.Proofs.YtjmpjfggbhongaaDoor
open Go.RowKit Go.Shelf Go.Maps
set_option linter.unusedVariables false
/-- What an expression binds in all of it. -/
def bndM {d : Nat} (t : Tr (d + 1)) : List ByteArray := TrN.params t ++ (TrN.binds t).map Prod.fst
set_option maxRecDepth 100000 in
set_option maxHeartbeats 2000000 in
theorem enter_c (d : Nat) (t : Tr (d + 1)) (hls : ∀ x ∈ bndM t, x.size ≤ maxLen) (B g off S so m c : Nat) (sc : Sc) (w : World) (hE : ExAt w B (d + 1) t g off) (hS : B ≤ S) (hm : B ≤ m) (hw : B ≤ w.heap.size) (h : ScAt w S so m c sc) (hc : c + (bndM t).length ≤ 2000000) (hn : sc.length + (bndM t).length ≤ 2000000) :
    Calls Tryd.prog 86 #[.pointer (some ⟨S, so, none⟩), .pointer (some ⟨g, off, none⟩)] w fun e w' => e = .returned (.tuple #[]) ∧ Grown w w' S so m c (bndM t) sc := by
  obtain ⟨hg, -, -, -, ⟨o3, c3, h3, k3⟩, ⟨o4, c4, h4, k4⟩, -, -⟩ := hE
  have hlen : (bndM t).length = (TrN.params t).length + (TrN.binds t).length := by simp [bndM]
  have HP : Hid (Calls Tryd.prog 58 #[.pointer (some ⟨S, so, none⟩), .slice o3 (TrN.params t).length c3] w fun e w' => e = .returned (.tuple #[]) ∧ Grown w w' S so m c (TrN.params t) sc) :=
    bindAll_c (TrN.params t) (fun x hx => hls x (List.mem_append_left _ hx)) o3 c3 B S so m c sc w k3 hS hm hw h (by omega) (by omega)
  have HL : Hid (∀ k (hk : k < (TrN.binds t).length), ∃ g' off', o4 = some ⟨g', off', none⟩ ∧ g' < B ∧ ∀ W, ScChg S so m w W → W.cell? ⟨g', off' + k * 8, none⟩ = some (.string (TrN.binds t)[k].1) ∧ g' < W.heap.size) := by
    intro k hk
    rcases k4 with h0 | ⟨g', off', e, hg', hE⟩
    · rw [h0] at hk; cases hk
    · exact ⟨g', off', e, hg', fun W hW => ⟨(hW.tx hS hm hw g' _ hg').trans (hE k hk).1, by have := hW.size; omega⟩⟩
  have HX : Hid ((∀ x ∈ bndM t, x.size ≤ maxLen) ∧ c + (bndM t).length ≤ 2000000 ∧ sc.length + (bndM t).length ≤ 2000000 ∧ (bndM t).length = (TrN.params t).length + (TrN.binds t).length) := ⟨hls, hc, hn, hlen⟩
  have H4 : Hid (∀ W, ScChg S so m w W → W.cell? ⟨g, off + 4, none⟩ = some (.slice o4 (TrN.binds t).length c4) ∧ g < W.heap.size) := fun W hW => ⟨(hW.tx hS hm hw g _ hg).trans h4, by have := hW.size; omega⟩
  have hgw : g < w.heap.size := by omega
  have HB : Hid (bndM t = TrN.params t ++ (TrN.binds t).map Prod.fst) := rfl
  generalize (TrN.params t) = ps at *
  generalize hbs : (TrN.binds t) = bs at *
  obtain ⟨n, hnn⟩ : ∃ n, bs.length = n := ⟨_, rfl⟩
  have HN : Hid (bs.length = n) := hnn
  rw [hnn] at H4
  have hn2 : (n : Int) ≤ 2000000 := by rw [← hnn]; omega
  clear hls hS hm hw h hc hn k3 h4 k4 hg hlen hbs hnn
  generalize bndM t = bl at *
  generalize ps.length = np at *
  go_enter Tryd.func86, Tryd.ntmps86
  go_wp2_with (go_at_call 58; fail)
  refine HP.out.mono ?_
  rintro e w1 ⟨rfl, hG⟩
  have HG : Hid (Grown w w1 S so m c (ps ++ ([] : List ByteArray)) sc) := by rw [List.append_nil]; exact hG
  obtain ⟨q4, l4⟩ := H4.out w1 (by obtain ⟨_, _, _, hch⟩ := hG; exact hch)
  clear hG HP h3
  go_wp2
  go_loopw [16] (fun i wr => ∃ k : Nat, k ≤ n ∧ i = .int .i64 k ∧ Hid (Grown w wr S so m c (ps ++ (bs.take k).map Prod.fst) sc)) (fun i _ => n - (intOf i).toNat)
  case atStart => exact ⟨0, Nat.zero_le _, rfl, HG⟩
  case round =>
    obtain ⟨k, hk, rfl, hG⟩ := hrel
    by_cases hkn : k < n
    · have hkl : k < bs.length := by rw [HN.out]; exact hkn
      obtain ⟨g', off', rfl, hg', hC⟩ := HL.out k hkl
      have hch : ScChg S so m w wr := by obtain ⟨_, _, _, hch⟩ := hG.out; exact hch
      obtain ⟨q4, l4⟩ := H4.out wr hch
      obtain ⟨hc0, hgw2⟩ := hC wr hch
      have HC : Hid (∀ x, bs[k].1 = x → Calls Tryd.prog 82 #[.pointer (some ⟨S, so, none⟩), .string x] wr fun e w' => e = .returned (.tuple #[]) ∧ Grown w w' S so m c (ps ++ (bs.take (k + 1)).map Prod.fst) sc) := by
        intro x hx
        obtain ⟨ext, he, hs, hch⟩ := hG.out
        have hx2 : x ∈ bl := by rw [HB.out, ← hx]; exact List.mem_append_right _ (List.mem_map.2 ⟨_, List.getElem_mem _, rfl⟩)
        obtain ⟨x1, x2, x3, x4⟩ := HX.out
        have hle := congrArg List.length he
        simp only [List.length_map, List.length_reverse, List.length_append, List.length_take] at hle
        have hb4 := congrArg List.length HB.out
        simp only [List.length_append, List.length_map] at hb4
        refine (bind_c x (x1 x hx2) S so m _ (ext ++ sc) (by simp only [List.length_append]; omega) wr hs (by simp only [List.length_append, List.length_map, List.length_take]; omega)).mono ?_
        rintro e w' ⟨rfl, h1, h2⟩
        refine ⟨rfl, ?_⟩
        rw [List.take_succ_eq_append_getElem hkl, List.map_append, List.map_singleton, hx, ← List.append_assoc]
        exact Grown.snoc he hch h1 h2
      generalize hx : bs[k].1 = x at hc0
      have HC1 : Hid (Calls Tryd.prog 82 #[.pointer (some ⟨S, so, none⟩), .string x] wr fun e w' => e = .returned (.tuple #[]) ∧ Grown w w' S so m c (ps ++ (bs.take (k + 1)).map Prod.fst) sc) := HC.out x hx
      clear HC hC hx hk hkl hG HG hch
      go_wp2_with (go_at_call 82; fail)
      refine HC1.out.mono ?_
      rintro e w2 ⟨rfl, hr⟩
      have HR2 : Hid (Grown w w2 S so m c (ps ++ (bs.take (k + 1)).map Prod.fst) sc) := hr
      clear hr HC1
      go_wp2
      go_roundw
      case rel => exact ⟨k + 1, hkn, by go_num, HR2⟩
      case measure => simp [intOf]; omega
    · have HF : Hid (Grown w wr S so m c bl sc) := by
        have e : bs.take k = bs := List.take_of_length_le (by rw [HN.out]; omega)
        have h3 := hG.out
        rw [e, ← HB.out] at h3
        exact h3
      obtain ⟨q4, l4⟩ := H4.out wr (by obtain ⟨_, _, _, hch⟩ := hG.out; exact hch)
      clear hG HL
      go_wp2
      go_end0
      exact ⟨rfl, HF.out⟩
/-- The level of what a name stands for. -/
def lvlM : Sc → List UInt8 → Nat
  | [], _ => 0
  | p :: r, x => if x = p.1.data.toList then r.length + 1 else lvlM r x
theorem fnd_lvl {W : World} {S m : Nat} : ∀ (sc : Sc) (x : List UInt8), FrAt W S m sc → (fnd sc x = .pointer none ∧ lvlM sc x = 0) ∨ ∃ b, fnd sc x = .pointer (some ⟨b, 0, none⟩) ∧ b < W.heap.size ∧ W.cell? ⟨b, 1, none⟩ = some (.int .i64 (lvlM sc x : Nat)) ∧ 0 < lvlM sc x
  | [], _, _ => .inl ⟨rfl, rfl⟩
  | p :: r, x, ⟨h1, h2, h3, h4⟩ => by
    by_cases hx : x = p.1.data.toList
    · right
      refine ⟨p.2, by simp [fnd, hx], h3.lt, ?_, by simp [lvlM, hx]⟩
      have := h3.all4.2.1
      simpa [lvlM, hx] using this
    · have := fnd_lvl r x h4
      simpa [fnd, lvlM, hx] using this
set_option maxRecDepth 100000 in
set_option maxHeartbeats 1000000 in
theorem has_c (nm : ByteArray) (hs : nm.size ≤ maxLen) (S so m c : Nat) (sc : Sc) (w : World) (h : ScAt w S so m c sc) :
    Calls Tryd.prog 87 #[.pointer (some ⟨S, so, none⟩), .string nm] w fun e w' => e = .returned (.bool (decide (0 < lvlM sc nm.data.toList))) ∧ w' = w := by
  have hl := h.map.look nm hs
  have hn := h.named
  have hlt := h.lt
  rcases fnd_lvl sc nm.data.toList h.frames with ⟨h1, h2⟩ | ⟨b, h1, h2, h3, h4⟩
  · rw [h1] at hl
    have HR : Hid (decide (0 < lvlM sc nm.data.toList) = false) := by show _ = _; rw [h2]; rfl
    clear h h1 h2 hs
    go_enter Tryd.func87, Tryd.ntmps87
    go_wp2
    go_ret
    exact ⟨by rw [HR.out]; rfl, rfl⟩
  · rw [h1] at hl
    have HR : Hid (decide (0 < lvlM sc nm.data.toList) = true) := by show _ = _; simpa using h4
    clear h h1 h4 hs h2 h3
    go_enter Tryd.func87, Tryd.ntmps87
    go_wp2
    go_ret
    exact ⟨by rw [HR.out]; rfl, rfl⟩
end Go.Proofs.YtjmpjfggbhongaaDoor
namespace Go.Proofs.YtjmpjfggbhongaaDoor
open Go.RowKit Go.Shelf Go.Maps
open Go.ChangeMaps (setBlock heap_setBlock_same heap_setBlock_other)
set_option linter.unusedVariables false
theorem ScChg.drewR {S so m : Nat} {W W' : World} (h : ScChg S so m W W') : ScChg S so m W W'.drew := ⟨h.os, h.tape, h.output, h.size, h.block, h.cells, h.frozen⟩
theorem top_ptr (sc : Sc) : ∃ o, top sc = .pointer o := by cases sc <;> exact ⟨_, rfl⟩
/-- The number of the inner frame. -/
def innerNo (W : World) (S so : Nat) : Nat := match W.cell? ⟨S, so, none⟩ with
  | some (.pointer (some a)) => a.block + 1
  | _ => 0
theorem inner_top {W : World} {S so m c : Nat} {sc : Sc} (h : ScAt W S so m c sc) : innerNo W S so = match sc with | [] => 0 | p :: _ => p.2 + 1 := by
  unfold innerNo
  rw [h.inner]
  cases sc <;> rfl
theorem inner_lt {W W' : World} {S so m c c' : Nat} {p : ByteArray × Nat} {r : Sc} (h : ScAt W S so m c (p :: r)) (h' : ScAt W' S so m c' r) : innerNo W' S so < innerNo W S so := by
  rw [inner_top h, inner_top h']
  cases r with
  | nil => simp
  | cons q r =>
    have := h.frames.1.2 q (List.mem_cons_self ..)
    show q.2 + 1 < p.2 + 1
    omega
theorem run_neq_ptr_other {P : Program} (w : World) {tp te : TypeId} {j : TypeInfo} {a b : Addr} {ca cb : Array Value} {ta tb : TypeId} (hp : P.underlying tp = some (.pointer te)) (hte : P.info? te = some j) (hsz : j.size ≠ 0)
    (hne : a ≠ b) (ha : w.heap[a.block]? = some (.cells ca ta (0, 0))) (hb : w.heap[b.block]? = some (.cells cb tb (0, 0))) :
    (binOp .neq tp (.pointer (some a)) (.pointer (some b))).run P w = .ok (.bool true) w := by
  have h : ∀ d : Nat, (Op.equalIn (d + 1) tp (.pointer (some a)) (.pointer (some b))).run P w = .ok false w := fun d => by
    simp [Op.equalIn, run_underlying hp, sizeOf, typeInfo, hte, hsz, run_sameAddr_other w hne ha hb]
  simp only [binOp]
  simp [Op.equal, Op.maxDepth, h 9999]
theorem frameInfo : ∃ j, Tryd.prog.info? 148 = some j ∧ j.size ≠ 0 := by
  have h : (Tryd.prog.info? 148).map (fun i => i.size) = some 4 := by kernel_rfl
  cases hi : Tryd.prog.info? 148 with
  | none => rw [hi] at h; cases h
  | some j => rw [hi] at h; exact ⟨j, rfl, by simp at h; omega⟩
theorem FrAt.tail {W : World} {S m : Nat} : ∀ (ext : Sc) {sc : Sc}, FrAt W S m (ext ++ sc) → FrAt W S m sc
  | [], _, h => h
  | _ :: e, _, h => FrAt.tail e h.2.2.2
theorem neq_top {W : World} {S m : Nat} {p : ByteArray × Nat} {ext sc : Sc} (h : FrAt W S m (p :: (ext ++ sc))) : (binOp .neq 103 (.pointer (some ⟨p.2, 0, none⟩)) (top sc)).run Tryd.prog W = .ok (.bool true) W := by
  cases sc with
  | nil => exact run_neq_pointer_nil W 103 _ (by kernel_rfl)
  | cons q r =>
    obtain ⟨j, hj, hz⟩ := frameInfo
    have hq : q.2 < p.2 := h.1.2 q (List.mem_append_right _ (List.mem_cons_self ..))
    have hk := (FrAt.tail ext h.2.2.2).2.2.1
    exact run_neq_ptr_other W Tryd.underlying103 hj hz (by intro e; have := congrArg Addr.block e; simp at this; omega) h.2.2.1 hk
theorem neq_same (W : World) (sc : Sc) : (binOp .neq 103 (top sc) (top sc)).run Tryd.prog W = .ok (.bool false) W := by
  cases sc with
  | nil => exact run_neq_pointer_nil W 103 none (by kernel_rfl)
  | cons q r =>
    obtain ⟨j, hj, hz⟩ := frameInfo
    exact Lib.run_neq_ptr_same W _ Tryd.underlying103 hj
theorem fnd_back (p : ByteArray × Nat) (r : Sc) : (fun x => if x = p.1.data.toList then fnd r p.1.data.toList else fnd (p :: r) x) = fnd r := by
  funext x
  by_cases hx : x = p.1.data.toList
  · rw [if_pos hx, hx]
  · rw [if_neg hx]
    show (if x = p.1.data.toList then _ else fnd r x) = _
    rw [if_neg hx]
set_option maxRecDepth 100000 in
set_option maxHeartbeats 4000000 in
theorem leave_c (ext sc : Sc) (hls : ∀ p ∈ ext, p.1.size ≤ maxLen) (S so m c : Nat) (w : World) (h : ScAt w S so m c (ext ++ sc)) (hc : c + ext.length ≤ 2000000) :
    Calls Tryd.prog 89 #[.pointer (some ⟨S, so, none⟩), top sc] w fun e w' => e = .returned (.tuple #[]) ∧ ScAt w' S so m (c + ext.length) sc ∧ ScChg S so m w w' := by
  obtain ⟨to, hto⟩ := top_ptr sc
  have HTo : Hid (top sc = .pointer to) := hto
  rw [hto]
  have HX : Hid ((∀ p ∈ ext, p.1.size ≤ maxLen) ∧ c + ext.length ≤ 2000000) := ⟨hls, hc⟩
  have HS : Hid (ScAt w S so m c (ext ++ sc)) := h
  have hlt := h.lt
  clear hls hc h hto
  go_enter Tryd.func89, Tryd.ntmps89
  go_wp2
  go_loopw [4] (fun f wr => ∃ k : Nat, k ≤ ext.length ∧ Hid (ScAt wr S so m (c + k) (ext.drop k ++ sc)) ∧ Hid (ScChg S so m w wr)) (fun _ wr => innerNo wr S so)
  case atStart => exact ⟨0, Nat.zero_le _, HS, ScChg.refl _ _ _ _⟩
  case round =>
    obtain ⟨k, hk, hA, hC⟩ := hrel
    by_cases hkl : k < ext.length
    · obtain ⟨p, hp⟩ : ∃ p, ext[k] = p := ⟨_, rfl⟩
      have hd : ext.drop k = p :: ext.drop (k + 1) := by rw [List.drop_eq_getElem_cons hkl, hp]
      rw [hd] at hA
      have hA0 := hA.out
      obtain ⟨r, hr⟩ : ∃ r, ext.drop (k + 1) ++ sc = r := ⟨_, rfl⟩
      have hcons : p :: ext.drop (k + 1) ++ sc = p :: r := by rw [← hr]; rfl
      rw [hcons] at hA0
      have hi : wr.cell? ⟨S, so, none⟩ = some (.pointer (some ⟨p.2, 0, none⟩)) := hA0.inner
      have hif := hA0.innerF
      have hn := hA0.named
      have hSl := hA0.lt
      obtain ⟨⟨f1, f2⟩, f3, f4, f5⟩ := hA0.frames
      obtain ⟨c0, c1, c2, c3, y0, y1, y2, y3⟩ := f4.all4
      have hpl := f4.lt
      obtain ⟨ho, hho⟩ := fnd_ptr r p.1.data.toList
      obtain ⟨tp, htp⟩ := top_ptr r
      have hmS : m ≠ S := hA0.ne.symm
      have hF1 : FrMap ((wr.setCell ⟨S, so, none⟩ (.pointer tp)).drew) m (c + k) (fnd (p :: r)) := hA0.map.same ((But.set S wr so _).block m hA0.map.lt hmS)
      obtain ⟨v0, st, W1, W2, r1, r2, hF2, hB2⟩ := hF1.entry (by have := HX.out.2; omega) p.1 (by rw [← hp]; exact HX.out.1 _ (List.getElem_mem _)) (fnd r p.1.data.toList)
      rw [fnd_back] at hF2
      rw [hho] at r2
      have hsz : wr.heap.size ≤ ((wr.setCell ⟨S, so, none⟩ (.pointer tp)).drew).heap.size := (But.set S wr so _).size
      have HCh : Hid (ScChg S so m wr W2) := (ScChg.ofSet S so m wr (.pointer tp)).drewR.trans (ScChg.ofBut hB2 (by omega) hA0.ne)
      have HA2 : Hid (ScAt W2 S so m (c + (k + 1)) (ext.drop (k + 1) ++ sc)) := by
        rw [hr]
        refine ⟨hA0.ne, ?_, (HCh.out.frozen so).trans hif, (HCh.out.cells (so + 1) (by omega)).trans hn, hF2, f5.same HCh.out.block, Nat.lt_of_lt_of_le hSl HCh.out.size⟩
        rw [htp]
        exact (cell_of_block (hB2.block S (by omega) hA0.ne) so).trans (setCell_cell_same wr S so _ _ hi)
      have HM : Hid (innerNo W2 S so < innerNo wr S so) := by
        have h2 := HA2.out
        rw [hr] at h2
        exact inner_lt hA0 h2
      have hnq : (binOp .neq 103 (.pointer (some ⟨p.2, 0, none⟩)) (.pointer to)).run Tryd.prog wr = .ok (.bool true) wr := by
        rw [← HTo.out]
        exact neq_top (ext := ext.drop (k + 1)) (by rw [hr]; exact hA0.frames)
      rw [hho] at c2
      rw [htp] at c3
      obtain ⟨pn, pb⟩ := p
      simp only at hi c0 c1 c2 c3 y0 y1 y2 y3 hpl hnq r1 r2
      have HC2 : Hid (ScChg S so m w W2) := hC.out.trans HCh.out
      clear HS hA hA0 f1 f2 f3 f4 f5 hF1 hF2 hB2 hp hd hcons hr hC HCh hho htp hsz
      go_wp2
      go_region
      go_wp2
      go_roundw
      case rel => exact ⟨k + 1, hkl, HA2, HC2⟩
      case measure => exact HM.out
    · obtain rfl : k = ext.length := by omega
      have hA0 := hA.out
      rw [List.drop_length, List.nil_append] at hA0
      have hi := hA0.inner
      rw [HTo.out] at hi
      have hSl := hA0.lt
      have hnq : (binOp .neq 103 (.pointer to) (.pointer to)).run Tryd.prog wr = .ok (.bool false) wr := by
        rw [← HTo.out]
        exact neq_same wr sc
      have HF : Hid (ScAt wr S so m (c + ext.length) sc) := hA0
      clear hA hA0 HS hkl hk
      go_wp2
      go_end0
      exact ⟨rfl, HF.out, hC.out⟩
end Go.Proofs.YtjmpjfggbhongaaDoor
namespace Go.Proofs.YtjmpjfggbhongaaDoor
open Go.RowKit Go.Shelf Go.Maps
set_option linter.unusedVariables false
/-- A set of names in memory. -/
def SetIs (W : World) (f c : Nat) (F : List UInt8 → Bool) : Prop := ∃ D : DataW Value, W.ownsMap Tryd.prog 9 heldElem f c D ∧ Maps.IsMap D ∧ (∀ x, D.atKey (.string x) (.held (.agg #[])) = .held (.agg #[])) ∧ ∀ x, Maps.has D (.string x) = F x
theorem SetIs.lt {W : World} {f c : Nat} {F : List UInt8 → Bool} (h : SetIs W f c F) : f < W.heap.size := by
  obtain ⟨D, h1, _⟩ := h
  exact h1.lt
theorem SetIs.same {W W' : World} {f c : Nat} {F : List UInt8 → Bool} (h : SetIs W f c F) (hb : W'.heap[f]? = W.heap[f]?) : SetIs W' f c F := by
  obtain ⟨D, ⟨es, clock, k1, k2⟩, h2⟩ := h
  exact ⟨D, ⟨es, clock, by rw [hb]; exact k1, k2⟩, h2⟩
theorem setIs_new (W : World) : SetIs (W.alloc (.map #[] 0)) W.heap.size 0 (fun _ => false) := ⟨.map [], World.ownsMap_made W Tryd.prog 9 heldElem, ⟨_, rfl⟩, fun x => rfl, fun x => rfl⟩
theorem SetIs.put {W : World} {f c : Nat} {F : List UInt8 → Bool} (h : SetIs W f c F) (hc : c < 4000000) (s : ByteArray) (hs : s.size ≤ maxLen) :
    ∃ W', (Instr.mapUpdate 84 (.map (some f)) (.string s) (.agg #[])).run Tryd.prog W = .ok () W' ∧ SetIs W' f (c + 1) (fun x => (x == s.data.toList) || F x) ∧ But f W W' := by
  obtain ⟨D, hown, hD, hval, hall⟩ := h
  obtain ⟨w', h5, h6, h7⟩ := hown.store (string_keyed Tryd.underlying9) Tryd.underlying84 (by unfold maxLen; omega) (key_str s hs) (d := .held (.agg #[])) (ps := []) rfl
  refine ⟨w', h5, ⟨_, h6, ?_, fun x => ?_, fun x => ?_⟩, ?_⟩
  · obtain ⟨es2, rfl⟩ := hD
    exact ⟨_, rfl⟩
  · by_cases hx : x = s.data.toList
    · subst hx
      rw [Maps.atKey_put_same hD (by constructor)]
    · rw [Maps.atKey_put_other (by simpa using hx)]
      exact hval x
  · show Maps.has _ _ = ((x == s.data.toList) || F x)
    by_cases hx : x = s.data.toList
    · subst hx
      rw [Maps.has_put_same hD (by constructor)]
      simp
    · rw [Maps.has_put_other (by simpa using hx), hall x]
      simp [hx]
  · obtain ⟨es, clock, es', clock', hb, rfl⟩ := h7
    refine ⟨rfl, rfl, rfl, ?_, fun k hk hn => Go.ChangeMaps.heap_setBlock_other hb _ hn⟩
    show _ ≤ (W.heap.setIfInBounds f _).size
    simp
/-- The names of a scope. -/
def nms (sc : Sc) : List (List UInt8) := sc.map (fun p => p.1.data.toList)
theorem lvl_pos : ∀ (sc : Sc) (x : List UInt8), decide (0 < lvlM sc x) = (nms sc).contains x
  | [], _ => rfl
  | p :: r, x => by
    have ih := lvl_pos r x
    have e1 : lvlM (p :: r) x = if x = p.1.data.toList then r.length + 1 else lvlM r x := rfl
    have e2 : nms (p :: r) = p.1.data.toList :: nms r := rfl
    rw [e1, e2, List.contains_cons]
    by_cases hx : x = p.1.data.toList
    · simp [hx]
    · rw [if_neg hx, ih, beq_eq_false_iff_ne.2 hx, Bool.false_or]
def dl (l : List ByteArray) : List (List UInt8) := l.map (fun x => x.data.toList)
theorem nms_grown {ext sc : Sc} {l : List ByteArray} (h : ext.map Prod.fst = l.reverse) : nms (ext ++ sc) = dl l.reverse ++ nms sc := by
  unfold nms dl
  rw [List.map_append, ← h, List.map_map]
  rfl
/-- What is free in an expression among names that are bound. -/
def freeM : (d : Nat) → Tr d → List (List UInt8) → List UInt8 → Bool
  | 0, t, _, _ => nomatch t
  | d + 1, t, ns, x => ((TrN.kind t == 1) && (!(dl (bndM t).reverse ++ ns).contains (TrN.name t).data.toList) && (x == (TrN.name t).data.toList)) ||
      (TrN.binds t).any (fun b => freeM d b.2 (dl (bndM t).reverse ++ ns) x) || (TrN.args t).any (fun e => freeM d e (dl (bndM t).reverse ++ ns) x) || (TrN.alts t).any (fun a => freeM d a.2 (dl a.1.vars.reverse ++ (dl (bndM t).reverse ++ ns)) x)
/-- How many names are bound anywhere. -/
def costM : (d : Nat) → Tr d → Nat
  | 0, t => nomatch t
  | d + 1, t => (bndM t).length + ((TrN.binds t).map fun b => costM d b.2).sum + ((TrN.args t).map (fun e => costM d e)).sum + ((TrN.alts t).map fun a => a.1.vars.length + costM d a.2).sum
/-- All names can be. -/
def NmOK : (d : Nat) → Tr d → Prop
  | 0, t => nomatch t
  | d + 1, t => (TrN.name t).size ≤ maxLen ∧ (∀ x ∈ bndM t, x.size ≤ maxLen) ∧ (∀ b ∈ TrN.binds t, NmOK d b.2) ∧ (∀ e ∈ TrN.args t, NmOK d e) ∧ ∀ a ∈ TrN.alts t, (∀ x ∈ a.1.vars, x.size ≤ maxLen) ∧ NmOK d a.2
/-- A seeker in memory: three cells of block S. -/
structure SkSt (W : World) (S m f c cf : Nat) (sc : Sc) (F : List UInt8 → Bool) : Prop where
  sc : ScAt W S 0 m c sc
  found : W.cell? ⟨S, 2, none⟩ = some (.map (some f))
  set : SetIs W f cf F
  neS : S ≠ f
  nem : m ≠ f
/-- What a seeker changes. -/
structure SkChg (S m f : Nat) (W W' : World) : Prop where
  os : W'.os = W.os
  tape : W'.tape = W.tape
  output : W'.output = W.output
  size : W.heap.size ≤ W'.heap.size
  block : ∀ k, k < W.heap.size → k ≠ S → k ≠ m → k ≠ f → W'.heap[k]? = W.heap[k]?
theorem SkChg.refl (S m f : Nat) (W : World) : SkChg S m f W W := ⟨rfl, rfl, rfl, Nat.le_refl _, fun _ _ _ _ _ => rfl⟩
theorem SkChg.trans {S m f : Nat} {W1 W2 W3 : World} (h : SkChg S m f W1 W2) (k : SkChg S m f W2 W3) : SkChg S m f W1 W3 := ⟨k.os.trans h.os, k.tape.trans h.tape, k.output.trans h.output, Nat.le_trans h.size k.size, fun j hj h1 h2 h3 => (k.block j (Nat.lt_of_lt_of_le hj h.size) h1 h2 h3).trans (h.block j hj h1 h2 h3)⟩
theorem SkChg.ofSc {S m f : Nat} {W W' : World} (h : ScChg S 0 m W W') : SkChg S m f W W' := ⟨h.os, h.tape, h.output, h.size, fun k hk h1 h2 _ => h.block k hk h1 h2⟩
theorem SkChg.ofBut {S m f : Nat} {W W' : World} (h : But f W W') : SkChg S m f W W' := ⟨h.os, h.tape, h.output, h.size, fun k hk _ _ h3 => h.block k hk h3⟩
theorem SkChg.drewN {S m f : Nat} {W W' : World} (h : SkChg S m f W W') (n : Nat) : SkChg S m f W (W'.drewN n) := ⟨h.os, h.tape, h.output, h.size, h.block⟩
theorem SkChg.ex {S m f : Nat} {W W' : World} {B d : Nat} (h : SkChg S m f W W') (hS : B ≤ S) (hm : B ≤ m) (hf : B ≤ f) (hw : B ≤ W.heap.size) : ∀ g off, g < B → W'.cell? ⟨g, off, none⟩ = W.cell? ⟨g, off, none⟩ := fun g off hg => cell_of_block (h.block g (by omega) (by omega) (by omega) (by omega)) off
/-- A scope's function leaves the set alone. -/
theorem SkSt.step {W W' : World} {S m f c c' cf : Nat} {sc sc' : Sc} {F : List UInt8 → Bool} (h : SkSt W S m f c cf sc F) (hs : ScAt W' S 0 m c' sc') (hc : ScChg S 0 m W W') : SkSt W' S m f c' cf sc' F :=
  ⟨hs, (hc.cells 2 (by omega)).trans h.found, h.set.same (hc.block f h.set.lt h.neS.symm h.nem.symm), h.neS, h.nem⟩
theorem ScAt.drewN {W : World} {S so m c : Nat} {sc : Sc} (h : ScAt W S so m c sc) (n : Nat) : ScAt (W.drewN n) S so m c sc := ⟨h.ne, h.inner, h.innerF, h.named, h.map.same rfl, h.frames.same (fun _ _ _ _ => rfl), h.lt⟩
theorem SkSt.drewN {W : World} {S m f c cf : Nat} {sc : Sc} {F : List UInt8 → Bool} (h : SkSt W S m f c cf sc F) (n : Nat) : SkSt (W.drewN n) S m f c cf sc F := ⟨h.sc.drewN n, h.found, h.set.same rfl, h.neS, h.nem⟩
theorem FrAt.not_map {W : World} {S m : Nat} {f c : Nat} {F : List UInt8 → Bool} (hf : SetIs W f c F) : ∀ {sc : Sc}, FrAt W S m sc → ∀ q ∈ sc, q.2 ≠ f
  | [], _, _, h => by cases h
  | p :: r, ⟨h1, h2, h3, h4⟩, q, h => by
    rcases List.mem_cons.1 h with rfl | h
    · intro e
      obtain ⟨D, ⟨es, clock, k1, k2⟩, _⟩ := hf
      rw [← e] at k1
      have h5 : W.heap[q.2]? = _ := h3
      rw [k1] at h5
      cases h5
    · exact FrAt.not_map hf h4 q h
theorem FrAt.but {W W' : World} {S m f : Nat} (hb : But f W W') : ∀ {sc : Sc}, FrAt W S m sc → (∀ q ∈ sc, q.2 ≠ f) → FrAt W' S m sc
  | [], _, _ => trivial
  | p :: r, ⟨h1, h2, h3, h4⟩, h => ⟨h1, h2, by unfold Blk; rw [hb.block p.2 h3.lt (h p (List.mem_cons_self ..))]; exact h3, FrAt.but hb h4 (fun q hq => h q (List.mem_cons_of_mem _ hq))⟩
/-- A name is put into the set. -/
theorem SkSt.put {W W' : World} {S m f c cf : Nat} {sc : Sc} {F G : List UInt8 → Bool} (h : SkSt W S m f c cf sc F) (hs : SetIs W' f (cf + 1) G) (hb : But f W W') : SkSt W' S m f c (cf + 1) sc G := by
  refine ⟨⟨h.sc.ne, (hb.cell S 0 h.sc.lt h.neS).trans h.sc.inner, (frozen_of_block (hb.block S h.sc.lt h.neS) 0).trans h.sc.innerF, (hb.cell S 1 h.sc.lt h.neS).trans h.sc.named, h.sc.map.same (hb.block m h.sc.map.lt h.nem), h.sc.frames.but hb (h.sc.frames.not_map h.set), Nat.lt_of_lt_of_le h.sc.lt hb.size⟩, (hb.cell S 2 h.sc.lt h.neS).trans h.found, hs, h.neS, h.nem⟩
end Go.Proofs.YtjmpjfggbhongaaDoor
namespace Go.Proofs.YtjmpjfggbhongaaDoor
open Go.RowKit Go.Shelf Go.Maps
set_option linter.unusedVariables false
/-- What a seeker has come to. -/
def SkRes (w w' : World) (S m f C CF : Nat) (sc : Sc) (G : List UInt8 → Bool) : Prop := (∃ c' cf', c' ≤ C ∧ cf' ≤ CF ∧ SkSt w' S m f c' cf' sc G) ∧ SkChg S m f w w'
theorem SkRes.start {w : World} {S m f c cf : Nat} {sc : Sc} {F : List UInt8 → Bool} (h : SkSt w S m f c cf sc F) : SkRes w w S m f c cf sc F := ⟨⟨c, cf, Nat.le_refl _, Nat.le_refl _, h⟩, SkChg.refl _ _ _ _⟩
theorem SkRes.eqG {w w' : World} {S m f C CF C' CF' : Nat} {sc : Sc} {G G' : List UInt8 → Bool} (h : SkRes w w' S m f C CF sc G) (hC : C ≤ C') (hF : CF ≤ CF') (hG : ∀ x, G x = G' x) : SkRes w w' S m f C' CF' sc G' := by
  obtain ⟨⟨c', cf', h1, h2, h3⟩, h4⟩ := h
  have e : G = G' := funext hG
  exact ⟨⟨c', cf', by omega, by omega, e ▸ h3⟩, h4⟩
theorem SkRes.trans {w w' w'' : World} {S m f C CF C' CF' : Nat} {sc sc' : Sc} {G G' : List UInt8 → Bool} (h : SkRes w w' S m f C CF sc G) (k : SkRes w' w'' S m f C' CF' sc' G') : SkRes w w'' S m f C' CF' sc' G' := ⟨k.1, h.2.trans k.2⟩
/-- What seeker.expr does with an expression of a depth. -/
def SeekOK (d : Nat) : Prop := ∀ (t : Tr d) (B g off S m f c cf : Nat) (sc : Sc) (F : List UInt8 → Bool) (w : World), ExAt w B d t g off → B ≤ S → B ≤ m → B ≤ f → B ≤ w.heap.size → SkSt w S m f c cf sc F → NmOK d t → c + 2 * costM d t ≤ 2000000 → sc.length + costM d t ≤ 2000000 → cf + sizeM d t ≤ 2000000 →
  Calls Tryd.prog 63 #[.pointer (some ⟨S, 0, none⟩), .pointer (some ⟨g, off, none⟩)] w fun e w' => e = .returned (.tuple #[]) ∧ SkRes w w' S m f (c + 2 * costM d t) (cf + sizeM d t) sc (fun x => F x || freeM d t (nms sc) x)
theorem any_snoc {α : Type} (p : α → Bool) (l : List α) (k : Nat) (h : k < l.length) : (l.take (k + 1)).any p = ((l.take k).any p || p l[k]) := by
  rw [List.take_succ_eq_append_getElem h, List.any_append]
  simp
set_option maxRecDepth 100000 in
set_option maxHeartbeats 2000000 in
theorem seek_binds_c (d : Nat) (ih : SeekOK d) (l : List (ByteArray × Tr d)) (o : Option Addr) (cap B S m f c cf : Nat) (sc : Sc) (F : List UInt8 → Bool) (w : World)
    (hl : RowIn B 8 (fun (b : ByteArray × Tr d) g off => w.cell? ⟨g, off, none⟩ = some (.string b.1) ∧ ExAt w B d b.2 g (off + 1)) o l) (hS : B ≤ S) (hm : B ≤ m) (hf : B ≤ f) (hw : B ≤ w.heap.size) (h : SkSt w S m f c cf sc F) (hN : ∀ b ∈ l, NmOK d b.2)
    (hc : c + 2 * (l.map fun b => costM d b.2).sum ≤ 2000000) (hsc : sc.length + (l.map fun b => costM d b.2).sum ≤ 2000000) (hcf : cf + (l.map fun b => sizeM d b.2).sum ≤ 2000000) (hln : l.length ≤ 2000000) :
    Calls Tryd.prog 59 #[.pointer (some ⟨S, 0, none⟩), .slice o l.length cap] w fun e w' => e = .returned (.tuple #[]) ∧ SkRes w w' S m f (c + 2 * (l.map fun b => costM d b.2).sum) (cf + (l.map fun b => sizeM d b.2).sum) sc (fun x => F x || l.any (fun b => freeM d b.2 (nms sc) x)) := by
  have HA : Hid (∀ k (hk : k < l.length), ∃ g off, o = some ⟨g, off, none⟩ ∧ g < B ∧ ∀ (W : World) (c' cf' : Nat) (G : List UInt8 → Bool), SkChg S m f w W → SkSt W S m f c' cf' sc G → c' + 2 * costM d l[k].2 ≤ 2000000 → cf' + sizeM d l[k].2 ≤ 2000000 →
      Calls Tryd.prog 63 #[.pointer (some ⟨S, 0, none⟩), .pointer (some ⟨g, off + k * 8 + 1, none⟩)] W fun e w' => e = .returned (.tuple #[]) ∧ SkRes W w' S m f (c' + 2 * costM d l[k].2) (cf' + sizeM d l[k].2) sc (fun x => G x || freeM d l[k].2 (nms sc) x)) := by
    intro k hk
    rcases hl with h0 | ⟨g, off, e, hg, hE⟩
    · subst h0; cases hk
    · refine ⟨g, off, e, hg, fun W c' cf' G hW hG h1 h2 => ih l[k].2 B g _ S m f c' cf' sc G W ?_ hS hm hf (Nat.le_trans hw hW.size) hG (hN _ (List.getElem_mem _)) h1 ?_ h2⟩
      · exact ExAt.same (hW.ex (d := d) hS hm hf hw) d _ _ _ (hE k hk).2
      · have := take_le (fun b : ByteArray × Tr d => costM d b.2) l (k + 1)
        have := take_sum (fun b : ByteArray × Tr d => costM d b.2) l k hk
        omega
  have HX : Hid (c + 2 * (l.map fun b => costM d b.2).sum ≤ 2000000 ∧ cf + (l.map fun b => sizeM d b.2).sum ≤ 2000000 ∧ B ≤ w.heap.size) := ⟨hc, hcf, hw⟩
  have HR : Hid (SkRes w w S m f c cf sc F) := SkRes.start h
  obtain ⟨n, hn⟩ : ∃ n, l.length = n := ⟨_, rfl⟩
  have HN : Hid (l.length = n) := hn
  rw [hn]
  have hn2 : (n : Int) ≤ 2000000 := by rw [← hn]; omega
  clear hl hS hm hf hw h hN hc hsc hcf hln hn ih
  go_enter Tryd.func59, Tryd.ntmps59
  go_wp2
  go_loopw [7] (fun i wr => ∃ k : Nat, k ≤ n ∧ i = .int .i64 k ∧ Hid (SkRes w wr S m f (c + 2 * ((l.take k).map fun b => costM d b.2).sum) (cf + ((l.take k).map fun b => sizeM d b.2).sum) sc (fun x => F x || (l.take k).any (fun b => freeM d b.2 (nms sc) x)))) (fun i _ => n - (intOf i).toNat)
  case atStart => exact ⟨0, Nat.zero_le _, rfl, HR.out.eqG (by simp) (by simp) (fun x => by simp)⟩
  case round =>
    obtain ⟨k, hk, rfl, hS⟩ := hrel
    by_cases hkn : k < n
    · have hkl : k < l.length := by rw [HN.out]; exact hkn
      obtain ⟨g, off, rfl, hg, hC⟩ := HA.out k hkl
      have hgw : g < wr.heap.size := by have := HX.out.2.2; have := hS.out.2.size; omega
      have HC : Hid (Calls Tryd.prog 63 #[.pointer (some ⟨S, 0, none⟩), .pointer (some ⟨g, off + k * 8 + 1, none⟩)] wr fun e w' => e = .returned (.tuple #[]) ∧ SkRes w w' S m f (c + 2 * ((l.take (k + 1)).map fun b => costM d b.2).sum) (cf + ((l.take (k + 1)).map fun b => sizeM d b.2).sum) sc (fun x => F x || (l.take (k + 1)).any (fun b => freeM d b.2 (nms sc) x))) := by
        obtain ⟨⟨c', cf', h1, h2, h3⟩, h4⟩ := hS.out
        have t1 := take_sum (fun b : ByteArray × Tr d => costM d b.2) l k hkl
        have t2 := take_le (fun b : ByteArray × Tr d => costM d b.2) l (k + 1)
        have t3 := take_sum (fun b : ByteArray × Tr d => sizeM d b.2) l k hkl
        have t4 := take_le (fun b : ByteArray × Tr d => sizeM d b.2) l (k + 1)
        obtain ⟨x1, x2, x3⟩ := HX.out
        refine (hC wr c' cf' _ h4 h3 (by omega) (by omega)).mono ?_
        rintro e w' ⟨rfl, hr⟩
        refine ⟨rfl, SkRes.trans ⟨⟨c', cf', Nat.le_refl _, Nat.le_refl _, h3⟩, h4⟩ (hr.eqG (by omega) (by omega) (fun x => ?_))⟩
        rw [any_snoc _ l k hkl, Bool.or_assoc]
      clear hC hk hkl hS HA HX HR
      go_wp2_with (go_at_call 63; fail)
      refine HC.out.mono ?_
      rintro e w2 ⟨rfl, hr⟩
      have HR2 : Hid (SkRes w w2 S m f (c + 2 * ((l.take (k + 1)).map fun b => costM d b.2).sum) (cf + ((l.take (k + 1)).map fun b => sizeM d b.2).sum) sc (fun x => F x || (l.take (k + 1)).any (fun b => freeM d b.2 (nms sc) x))) := hr
      clear hr HC
      go_wp2
      go_roundw
      case rel => exact ⟨k + 1, hkn, by go_num, HR2⟩
      case measure => simp [intOf]; omega
    · have HF : Hid (SkRes w wr S m f (c + 2 * (l.map fun b => costM d b.2).sum) (cf + (l.map fun b => sizeM d b.2).sum) sc (fun x => F x || l.any (fun b => freeM d b.2 (nms sc) x))) := by
        have e : l.take k = l := List.take_of_length_le (by rw [HN.out]; omega)
        have h3 := hS.out
        rw [e] at h3
        exact h3
      clear hS HA
      go_wp2
      go_end0
      exact ⟨rfl, HF.out⟩
end Go.Proofs.YtjmpjfggbhongaaDoor
namespace Go.Proofs.YtjmpjfggbhongaaDoor
open Go.RowKit Go.Shelf Go.Maps
set_option linter.unusedVariables false
/-- An alternative in memory. -/
def AltAt (W : World) (B d : Nat) (a : AltH × Tr d) (g off : Nat) : Prop := W.cell? ⟨g, off, none⟩ = some (.int .i64 a.1.kind) ∧ W.cell? ⟨g, off + 1, none⟩ = some (.string a.1.name) ∧ W.cell? ⟨g, off + 2, none⟩ = some (.int .i64 a.1.num) ∧ (∃ o c, W.cell? ⟨g, off + 3, none⟩ = some (.slice o a.1.vars.length c) ∧ TxIn W B o a.1.vars) ∧ ExAt W B d a.2 g (off + 4)
/-- What is left to do of an alternative: its names are left. -/
def Lv (S : Nat) (to : Value) (R : World → Prop) (w2 : World) : Prop := Calls Tryd.prog 89 #[.pointer (some ⟨S, 0, none⟩), to] w2 (fun e w3 => e = .returned (.tuple #[]) ∧ R w3) ∧ S < w2.heap.size
/-- .. its expression is sought, its names are left. -/
def Sk1 (S g at_ : Nat) (to : Value) (R : World → Prop) (w1 : World) : Prop := Calls Tryd.prog 63 #[.pointer (some ⟨S, 0, none⟩), .pointer (some ⟨g, at_, none⟩)] w1 (fun e w2 => e = .returned (.tuple #[]) ∧ Lv S to R w2) ∧ S < w1.heap.size ∧ g < w1.heap.size
/-- One alternative: its names are bound, its expression sought, its names left again. -/
theorem seek_alt (d : Nat) (ih : SeekOK d) (a : AltH × Tr d) (B g off S m f c cf : Nat) (sc : Sc) (F : List UInt8 → Bool) (w : World) (ha : AltAt w B d a g off) (hS : B ≤ S) (hm : B ≤ m) (hf : B ≤ f) (hw : B ≤ w.heap.size) (h : SkSt w S m f c cf sc F)
    (hN : (∀ x ∈ a.1.vars, x.size ≤ maxLen) ∧ NmOK d a.2) (hc : c + 2 * (a.1.vars.length + costM d a.2) ≤ 2000000) (hsc : sc.length + (a.1.vars.length + costM d a.2) ≤ 2000000) (hcf : cf + sizeM d a.2 ≤ 2000000) :
    ∃ o cap, w.cell? ⟨g, off + 3, none⟩ = some (.slice o a.1.vars.length cap) ∧ Calls Tryd.prog 58 #[.pointer (some ⟨S, 0, none⟩), .slice o a.1.vars.length cap] w.drew fun e w1 => e = .returned (.tuple #[]) ∧ Sk1 S g (off + 4) (top sc) (fun w3 => SkRes w w3 S m f (c + 2 * (a.1.vars.length + costM d a.2)) (cf + sizeM d a.2) sc (fun x => F x || freeM d a.2 (dl a.1.vars.reverse ++ nms sc) x)) w1 := by
  obtain ⟨-, -, -, ⟨o, cap, h3, k3⟩, hE⟩ := ha
  have hgB := hE.lt
  refine ⟨o, cap, h3, ?_⟩
  have hsc0 : ScAt w.drew S 0 m c sc := h.sc.drewN 1
  have hsk : SkSt w.drew S m f c cf sc F := h.drewN 1
  refine (bindAll_c a.1.vars hN.1 o cap B S 0 m c sc w.drew (k3.same (fun _ _ _ => rfl)) hS hm hw hsc0 (by omega) (by omega)).mono ?_
  rintro e w1 ⟨rfl, ext, he, hs1, hc1⟩
  have hch1 : SkChg S m f w w1 := ⟨hc1.os, hc1.tape, hc1.output, hc1.size, fun k hk h1 h2 _ => hc1.block k hk h1 h2⟩
  have hlen : ext.length = a.1.vars.length := by have := congrArg List.length he; simpa using this
  refine ⟨rfl, ?_, Nat.lt_of_lt_of_le h.sc.lt hc1.size, by have := hch1.size; omega⟩
  refine (ih a.2 B g (off + 4) S m f _ cf (ext ++ sc) F w1 (ExAt.same (hch1.ex (d := d) hS hm hf hw) d _ _ _ hE) hS hm hf (Nat.le_trans hw hch1.size) (hsk.step hs1 hc1) hN.2 (by omega) (by rw [List.length_append]; omega) hcf).mono ?_
  rintro e w2 ⟨rfl, ⟨c2, cf2, b1, b2, hs2⟩, hc2⟩
  refine ⟨rfl, ?_, hs2.sc.lt⟩
  refine (leave_c ext sc (fun p hp => hN.1 p.1 ?_) S 0 m c2 w2 hs2.sc (by omega)).mono ?_
  · have : p.1 ∈ ext.map Prod.fst := List.mem_map.2 ⟨p, hp, rfl⟩
    rw [he] at this
    exact List.mem_reverse.1 this
  · rintro e w3 ⟨rfl, hs3, hc3⟩
    refine ⟨rfl, ⟨c2 + ext.length, cf2, by omega, b2, ?_⟩, (hch1.trans hc2).trans (SkChg.ofSc hc3)⟩
    have h5 := hs2.step hs3 hc3
    rw [nms_grown he] at h5
    exact h5
set_option maxRecDepth 100000 in
set_option maxHeartbeats 2000000 in
theorem seek_alts_c (d : Nat) (ih : SeekOK d) (l : List (AltH × Tr d)) (o : Option Addr) (cap B S m f c cf : Nat) (sc : Sc) (F : List UInt8 → Bool) (w : World)
    (hl : RowIn B 11 (AltAt w B d) o l) (hS : B ≤ S) (hm : B ≤ m) (hf : B ≤ f) (hw : B ≤ w.heap.size) (h : SkSt w S m f c cf sc F) (hN : ∀ a ∈ l, (∀ x ∈ a.1.vars, x.size ≤ maxLen) ∧ NmOK d a.2)
    (hc : c + 2 * (l.map fun a => a.1.vars.length + costM d a.2).sum ≤ 2000000) (hsc : sc.length + (l.map fun a => a.1.vars.length + costM d a.2).sum ≤ 2000000) (hcf : cf + (l.map fun a => sizeM d a.2).sum ≤ 2000000) (hln : l.length ≤ 2000000) :
    Calls Tryd.prog 88 #[.pointer (some ⟨S, 0, none⟩), .slice o l.length cap] w fun e w' => e = .returned (.tuple #[]) ∧ SkRes w w' S m f (c + 2 * (l.map fun a => a.1.vars.length + costM d a.2).sum) (cf + (l.map fun a => sizeM d a.2).sum) sc (fun x => F x || l.any (fun a => freeM d a.2 (dl a.1.vars.reverse ++ nms sc) x)) := by
  obtain ⟨tp, htp⟩ := top_ptr sc
  have HA : Hid (∀ k (hk : k < l.length), ∃ g off, o = some ⟨g, off, none⟩ ∧ g < B ∧ ∀ (W : World) (c' cf' : Nat) (G : List UInt8 → Bool), SkChg S m f w W → SkSt W S m f c' cf' sc G → c' + 2 * (l[k].1.vars.length + costM d l[k].2) ≤ 2000000 → cf' + sizeM d l[k].2 ≤ 2000000 →
      ∃ o cap, W.cell? ⟨g, off + k * 11 + 3, none⟩ = some (.slice o l[k].1.vars.length cap) ∧ Calls Tryd.prog 58 #[.pointer (some ⟨S, 0, none⟩), .slice o l[k].1.vars.length cap] W.drew fun e w1 => e = .returned (.tuple #[]) ∧ Sk1 S g (off + k * 11 + 4) (.pointer tp) (fun w3 => SkRes W w3 S m f (c' + 2 * (l[k].1.vars.length + costM d l[k].2)) (cf' + sizeM d l[k].2) sc (fun x => G x || freeM d l[k].2 (dl l[k].1.vars.reverse ++ nms sc) x)) w1) := by
    intro k hk
    rcases hl with h0 | ⟨g, off, e, hg, hE⟩
    · subst h0; cases hk
    · refine ⟨g, off, e, hg, fun W c' cf' G hW hG h1 h2 => ?_⟩
      have hb := hW.ex (d := d) hS hm hf hw
      obtain ⟨e1, e2, e3, ⟨o', cp, e4, e5⟩, e6⟩ := hE k hk
      have hat : AltAt W B d l[k] g (off + k * 11) := ⟨(hb _ _ hg).trans e1, (hb _ _ hg).trans e2, (hb _ _ hg).trans e3, ⟨o', cp, (hb _ _ hg).trans e4, e5.same hb⟩, ExAt.same hb d _ _ _ e6⟩
      have := take_le (fun a : AltH × Tr d => a.1.vars.length + costM d a.2) l (k + 1)
      have := take_sum (fun a : AltH × Tr d => a.1.vars.length + costM d a.2) l k hk
      have hr := seek_alt d ih l[k] B g (off + k * 11) S m f c' cf' sc G W hat hS hm hf (Nat.le_trans hw hW.size) hG (hN _ (List.getElem_mem _)) h1 (by omega) h2
      rw [htp] at hr
      exact hr
  have HX : Hid (c + 2 * (l.map fun a => a.1.vars.length + costM d a.2).sum ≤ 2000000 ∧ cf + (l.map fun a => sizeM d a.2).sum ≤ 2000000 ∧ B ≤ w.heap.size ∧ top sc = .pointer tp) := ⟨hc, hcf, hw, htp⟩
  have HR : Hid (SkRes w w S m f c cf sc F) := SkRes.start h
  obtain ⟨n, hn⟩ : ∃ n, l.length = n := ⟨_, rfl⟩
  have HN : Hid (l.length = n) := hn
  rw [hn]
  have hn2 : (n : Int) ≤ 2000000 := by rw [← hn]; omega
  clear hl hS hm hf hw h hN hc hsc hcf hln hn ih htp
  go_enter Tryd.func88, Tryd.ntmps88
  go_wp2
  go_loopw [8] (fun i wr => ∃ k : Nat, k ≤ n ∧ i = .int .i64 k ∧ Hid (SkRes w wr S m f (c + 2 * ((l.take k).map fun a => a.1.vars.length + costM d a.2).sum) (cf + ((l.take k).map fun a => sizeM d a.2).sum) sc (fun x => F x || (l.take k).any (fun a => freeM d a.2 (dl a.1.vars.reverse ++ nms sc) x)))) (fun i _ => n - (intOf i).toNat)
  case atStart => exact ⟨0, Nat.zero_le _, rfl, HR.out.eqG (by simp) (by simp) (fun x => by simp)⟩
  case round =>
    obtain ⟨k, hk, rfl, hS⟩ := hrel
    by_cases hkn : k < n
    · have hkl : k < l.length := by rw [HN.out]; exact hkn
      obtain ⟨g, off, rfl, hg, hC⟩ := HA.out k hkl
      obtain ⟨⟨c', cf', h1, h2, h3⟩, h4⟩ := hS.out
      have t1 := take_sum (fun a : AltH × Tr d => a.1.vars.length + costM d a.2) l k hkl
      have t2 := take_le (fun a : AltH × Tr d => a.1.vars.length + costM d a.2) l (k + 1)
      have t3 := take_sum (fun a : AltH × Tr d => sizeM d a.2) l k hkl
      have t4 := take_le (fun a : AltH × Tr d => sizeM d a.2) l (k + 1)
      obtain ⟨x1, x2, x3, x4⟩ := HX.out
      obtain ⟨o', cp, q3, hB⟩ := hC wr c' cf' _ h4 h3 (by omega) (by omega)
      have HE : Hid (∀ w3, SkRes wr w3 S m f (c' + 2 * (l[k].1.vars.length + costM d l[k].2)) (cf' + sizeM d l[k].2) sc (fun x => (F x || (l.take k).any (fun a => freeM d a.2 (dl a.1.vars.reverse ++ nms sc) x)) || freeM d l[k].2 (dl l[k].1.vars.reverse ++ nms sc) x) → SkRes w w3 S m f (c + 2 * ((l.take (k + 1)).map fun a => a.1.vars.length + costM d a.2).sum) (cf + ((l.take (k + 1)).map fun a => sizeM d a.2).sum) sc (fun x => F x || (l.take (k + 1)).any (fun a => freeM d a.2 (dl a.1.vars.reverse ++ nms sc) x))) := fun w3 hr =>
        SkRes.trans ⟨⟨c', cf', Nat.le_refl _, Nat.le_refl _, h3⟩, h4⟩ (hr.eqG (by omega) (by omega) (fun x => by rw [any_snoc _ l k hkl, Bool.or_assoc]))
      have hi : wr.cell? ⟨S, 0, none⟩ = some (.pointer tp) := by rw [← x4]; exact h3.sc.inner
      have hSl := h3.sc.lt
      have hgw : g < wr.heap.size := by have := h4.size; omega
      generalize l[k].1.vars.length = nv at *
      obtain ⟨Rs, hRs⟩ : ∃ Rs : World → Prop, Rs = fun w3 => SkRes w w3 S m f (c + 2 * ((l.take (k + 1)).map fun a => a.1.vars.length + costM d a.2).sum) (cf + ((l.take (k + 1)).map fun a => sizeM d a.2).sum) sc (fun x => F x || (l.take (k + 1)).any (fun a => freeM d a.2 (dl a.1.vars.reverse ++ nms sc) x)) := ⟨_, rfl⟩
      have HRs : Hid (∀ w3, Rs w3 → SkRes w w3 S m f (c + 2 * ((l.take (k + 1)).map fun a => a.1.vars.length + costM d a.2).sum) (cf + ((l.take (k + 1)).map fun a => sizeM d a.2).sum) sc (fun x => F x || (l.take (k + 1)).any (fun a => freeM d a.2 (dl a.1.vars.reverse ++ nms sc) x))) := fun w3 h => by rw [hRs] at h; exact h
      have HBa : Hid (Calls Tryd.prog 58 #[.pointer (some ⟨S, 0, none⟩), .slice o' nv cp] wr.drew fun e w1 => e = .returned (.tuple #[]) ∧ Sk1 S g (off + k * 11 + 4) (.pointer tp) Rs w1) := by
        refine hB.mono ?_
        rintro e w1 ⟨rfl, hk1, hk2⟩
        refine ⟨rfl, hk1.mono ?_, hk2⟩
        rintro e w2 ⟨rfl, hk3, hk4⟩
        refine ⟨rfl, hk3.mono ?_, hk4⟩
        rintro e w3 ⟨rfl, hk5⟩
        exact ⟨rfl, by rw [hRs]; exact HE.out w3 hk5⟩
      clear hC hk hS HA HX HR hB h1 h2 h3 h4 t1 t2 t3 t4 x1 x2 x3 x4 HE hRs
      go_wp2
      go_region_with ((go_at_call 58; (with_reducible refine HBa.out.mono ?_); rintro e w1 ⟨rfl, hk1⟩; have HK1 : Hid (Sk1 S g (off + k * 11 + 4) (.pointer tp) Rs w1) := hk1; clear hk1))
      all_goals
        obtain ⟨hk1, hS1, hg1⟩ := HK1.out
        have HC1 : Hid (Calls Tryd.prog 63 #[.pointer (some ⟨S, 0, none⟩), .pointer (some ⟨g, off + k * 11 + 4, none⟩)] w1 (fun e w2 => e = .returned (.tuple #[]) ∧ Lv S (.pointer tp) Rs w2)) := hk1
        clear hk1 HK1 HBa
        go_wp2_with (go_at_call 63; fail)
        refine HC1.out.mono ?_
        rintro e w2 ⟨rfl, hk2, hS2⟩
        have HC2 : Hid (Calls Tryd.prog 89 #[.pointer (some ⟨S, 0, none⟩), .pointer tp] w2 (fun e w3 => e = .returned (.tuple #[]) ∧ Rs w3)) := hk2
        clear hk2 HC1
        go_wp2_with (go_at_call 89; fail)
        refine HC2.out.mono ?_
        rintro e w3 ⟨rfl, hk3⟩
        have HR3 : Hid (Rs w3) := hk3
        clear hk3 HC2
        go_wp2
        go_roundw
        case rel => exact ⟨k + 1, hkn, by go_num, HRs.out _ HR3.out⟩
        case measure => simp [intOf]; omega
    · have HF : Hid (SkRes w wr S m f (c + 2 * (l.map fun a => a.1.vars.length + costM d a.2).sum) (cf + (l.map fun a => sizeM d a.2).sum) sc (fun x => F x || l.any (fun a => freeM d a.2 (dl a.1.vars.reverse ++ nms sc) x))) := by
        have e : l.take k = l := List.take_of_length_le (by rw [HN.out]; omega)
        have h3 := hS.out
        rw [e] at h3
        exact h3
      clear hS HA
      go_wp2
      go_end0
      exact ⟨rfl, HF.out⟩
end Go.Proofs.YtjmpjfggbhongaaDoor
