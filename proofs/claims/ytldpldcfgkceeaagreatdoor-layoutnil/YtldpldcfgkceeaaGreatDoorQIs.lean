/-
  How what comes of a text is shown, by contracts.
  The chapter's examples on layout, by contracts.
-/
import Derived.Test.YtldpldcfgkceeaaGreatDoorQLay15
import Derived.Test.YtldpldcfgkceeaaGreatDoorQLayM
namespace Go.Proofs.YtldpldcfgkceeaaGreatDoor
open Go.RowKit Go.Shelf Go.Maps
set_option linter.unusedVariables false

theorem bs_app (a b : List UInt8) : bs a ++ bs b = bs (a ++ b) := by
  apply ByteArray.ext
  simp [bs]
theorem app_size (a b : ByteArray) : (a ++ b).size = a.size + b.size := by simp
theorem lit60 : (ByteArray.mk #[60]) = bs [60] := rfl
theorem lit62 : (ByteArray.mk #[62]) = bs [62] := rfl
theorem lit32 : (ByteArray.mk #[32]) = bs [32] := rfl
theorem lxs_cell {W : World} {b g m cap : Nat} {xs : List L.Lx} (hm : xs.length = m) (h : W.ownsRow b 45 8 (.slice (some ⟨g, 0, none⟩) m cap) xs.length (lxsC xs)) (k : Nat) (hk : k < xs.length) (q : Nat) (hq : q < 8) (u : Value) (hu : (lxC xs[k])[q]? = some u) : W.cell? ⟨g, k * 8 + q, none⟩ = some u := by
  subst hm
  have h1 := h.cellAt (k * 8 + q) (by omega)
  rw [h1]
  have key : ∀ (xs : List L.Lx) (k : Nat) (hk : k < xs.length), (lxsC xs)[k * 8 + q]? = (lxC xs[k])[q]? := by
    intro xs
    induction xs with
    | nil => intro k hk; simp at hk
    | cons t xs ih =>
      intro k hk
      have hl : (lxC t).length = 8 := rfl
      have he : lxsC (t :: xs) = lxC t ++ lxsC xs := by simp [lxsC]
      rw [he]
      cases k with
      | zero => rw [List.getElem?_append_left (by rw [hl]; omega)]; simp
      | succ k =>
        rw [List.getElem?_append_right (by rw [hl]; omega), hl]
        have : (k + 1) * 8 + q - 8 = k * 8 + q := by omega
        rw [this, ih k (by simpa using hk)]
        rfl
  rw [key xs k hk, hu]
theorem layAll_inr (ts : List M.Tk) (e b : Nat) (v : Value) (xs : List L.Lx) (hx : L.all ts e = .inr xs) (hn : ts.length ≤ 5000) (w : World) (h : w.ownsRow b 43 7 v ts.length (tksC ts)) :
    Calls Tryz.prog 9 #[v, .int .i64 (e : Int)] w fun r W' => ∃ v', r = .returned (.tuple #[v', .agg #[.int .i64 0, .int .i64 0]]) ∧ Hid (W'.ownsRow w.heap.size 45 8 v' xs.length (lxsC xs)) ∧ Below w.heap.size w W' := by
  refine (layAll_c ts e b v hn w h).mono ?_
  rintro r W' ⟨hp, hb⟩
  rw [hx] at hp
  obtain ⟨v', rfl, ho⟩ := hp
  exact ⟨v', rfl, ho, hb⟩
theorem layAll_inl (ts : List M.Tk) (e b : Nat) (v : Value) (a : Nat) (hx : L.all ts e = .inl a) (hn : ts.length ≤ 5000) (w : World) (h : w.ownsRow b 43 7 v ts.length (tksC ts)) :
    Calls Tryz.prog 9 #[v, .int .i64 (e : Int)] w fun r W' => r = .returned (.tuple #[.slice none 0 0, .agg #[.int .i64 5, .int .i64 (a : Int)]]) ∧ Below w.heap.size w W' := by
  refine (layAll_c ts e b v hn w h).mono ?_
  rintro r W' ⟨hp, hb⟩
  rw [hx] at hp
  exact ⟨hp, hb⟩

set_option maxRecDepth 100000 in
set_option maxHeartbeats 4000000 in
theorem shown_c (s : ByteArray) (ts : List M.Tk) (xs : List L.Lx) (m : Nat) (hm : xs.length = m + 1) (hm2 : m ≤ 4000) (hn : ts.length ≤ 5000) (hpl : ∀ x ∈ xs, plainK x.t.t.kind) (hln : ∀ x ∈ xs, x.t.t.text.length ≤ 100) (hs : s.size ≤ 70000) (hc : chk s = (0, 0)) (hts : M.scanAll s.data.toList = .inr ts) (hx : L.all ts s.size = .inr xs) (w : World) (hG : GOK w) :
    Calls Tryz.prog 40 #[.string s] w fun r W' => r = .returned (.tuple #[.string (bs (L.shw 0 [] xs)), .bool true]) ∧ Below w.heap.size w W' := by
  have hdep : Tryz.prog.follows Departure.mixedOrders = true := by kernel_rfl
  have HA : Hid (∀ (w : World), GOK w → Calls Tryz.prog 8 #[.string s] w fun r W' => ∃ v, r = .returned (.tuple #[v, .agg #[.int .i64 0, .int .i64 0]]) ∧ Hid (W'.ownsRow w.heap.size 43 7 v ts.length (tksC ts)) ∧ Below w.heap.size w W') := fun w hG => all_inr s ts hs hc hts w hG
  have HL : Hid (∀ (v : Value) (b : Nat) (w : World), w.ownsRow b 43 7 v ts.length (tksC ts) → Calls Tryz.prog 9 #[v, .int .i64 (s.size : Int)] w fun r W' => ∃ v', r = .returned (.tuple #[v', .agg #[.int .i64 0, .int .i64 0]]) ∧ Hid (W'.ownsRow w.heap.size 45 8 v' xs.length (lxsC xs)) ∧ Below w.heap.size w W') := fun v b w h => layAll_inr ts s.size b v xs hx hn w h
  have HM : Hid (xs.length = m + 1) := hm
  have HPl : Hid (∀ x ∈ xs, plainK x.t.t.kind) := hpl
  have HG : Hid (GOK w) := hG
  have HLen : Hid (∀ x ∈ xs, x.t.t.text.length ≤ 100) := hln
  clear hln
  clear hm hpl hc hts hG hs hx hn
  go_enter Tryz.func40, Tryz.ntmps40
  go_wp2_with (go_at_call 8; fail)
  refine (HA.out _ HG.out).mono ?_
  rintro r w1 ⟨v, rfl, hrow, hb⟩
  have HB1 : Hid (Below w.heap.size w w1) := hb
  clear hb
  go_wp2_with (go_at_call 9; fail)
  refine (HL.out v _ _ (hrow.out.alloc _)).mono ?_
  rintro r w2 ⟨v', rfl, hrow2, hb2⟩
  have hF2 : Hid (Blk w2 w1.heap.size #[.int .i64 0, .int .i64 0] 25) := (Blk.new w1 _ _).below hb2
  have HB2 : Hid (Below w.heap.size w w2) := (HB1.out.alloc HB1.out.size _).trans (hb2.mono (by have := HB1.out.size; simp; omega))
  have hrow2' := hrow2.out
  rw [HM.out] at hrow2'
  obtain ⟨gt, capt, rfl⟩ := ownsRow_succ' hrow2'
  have hgt : gt < w2.heap.size := (hrow2.out.lt gt rfl).2
  obtain ⟨c0, c1, f0, f1⟩ := hF2.out.all2
  have hFl : w1.heap.size < w2.heap.size := hF2.out.lt
  clear hrow2' hb2 hrow HA HL HG HB1
  go_wp2
  obtain ⟨W2, hW2⟩ : ∃ W2, W2 = w2.alloc (.cells #[.int .i64 0, .int .i64 0] 25) := ⟨_, rfl⟩
  have HB3 : Hid (Below w.heap.size w W2) := by rw [hW2]; exact HB2.out.alloc HB2.out.size _
  have hrow3 : Hid (W2.ownsRow (w1.heap.size + 1) 45 8 (.slice (some ⟨gt, 0, none⟩) (m + 1) capt) xs.length (lxsC xs)) := by
    have := hrow2.out
    simp only [World.size_alloc] at this
    rw [hW2]; exact this.alloc _
  have hgt2 : gt < W2.heap.size := by rw [hW2]; simp; omega
  rw [← hW2]
  clear hW2 hrow2 hgt c0 c1 f0 f1 hFl hF2 HB2
  go_loopw [8, 9] (fun u i wr => ∃ (k : Nat) (o : List UInt8), k ≤ m + 1 ∧ i = .int .i64 k ∧ u = .string (bs o) ∧ Hid (L.shw k o (xs.drop k) = L.shw 0 [] xs) ∧ Hid (o.length ≤ k * 200) ∧ Hid (Below W2.heap.size W2 wr)) (fun _ i _ => m + 1 - (intOf i).toNat)
  case atStart => exact ⟨0, [], Nat.zero_le _, rfl, rfl, rfl, Nat.zero_le _, Below.refl _ _⟩
  case round =>
    obtain ⟨k, o, hk, rfl, rfl, hsh, hol, hB⟩ := hrel
    by_cases hlt : k < m + 1
    · have hkL : k < xs.length := by rw [HM.out]; exact hlt
      have hki : (k : Int) < (m : Int) + 1 := by omega
      have hcell := fun q hq u hu => (hB.out.cell (p := ⟨gt, k * 8 + q, none⟩) hgt2).trans (lxs_cell HM.out hrow3.out k hkL q hq u hu)
      have c0 := hcell 0 (by omega) _ rfl
      rw [Nat.add_zero] at c0
      have c1 := hcell 1 (by omega) _ rfl
      have c2 := hcell 2 (by omega) _ rfl
      have c3 := hcell 3 (by omega) _ rfl
      have c4 := hcell 4 (by omega) _ rfl
      have c5 := hcell 5 (by omega) _ rfl
      have c6 := hcell 6 (by omega) _ rfl
      have c7 := hcell 7 (by omega) _ rfl
      have hpk := HPl.out xs[k] (List.getElem_mem hkL)
      have hlk := HLen.out xs[k] (List.getElem_mem hkL)
      have hsn : Hid (L.shw (k + 1) ((if 0 < k then o ++ [32] else o) ++ L.piece xs[k]) (xs.drop (k + 1)) = L.shw 0 [] xs) := (L.shw_drop xs k o hkL).symm.trans hsh.out
      generalize xs[k] = t at c0 c1 c2 c3 c4 c5 c6 c7 hpk hlk hsn
      obtain ⟨⟨⟨tk, tt, tn⟩, pos, line, col, first⟩, imp⟩ := t
      simp only at c0 c1 c2 c3 c4 c5 c6 c7 hpk hlk hsn
      have HT' : Hid (∀ w : World, Calls Tryz.prog 71 #[.agg #[.int .i64 (tk : Int), .string (bs tt), .int .i64 (tn : Int), .int .i64 (pos : Int), .int .i64 (line : Int), .int .i64 (col : Int), .bool first]] w fun e W' => e = .returned (.string (bs tt)) ∧ Below w.heap.size w W') := fun w => text_plain tk hpk (bs tt) tn pos line col first w
      clear hcell hpk hsh
      have hs2 : W2.heap.size ≤ wr.heap.size := hB.out.size
      have hgr : gt < wr.heap.size := by omega
      cases imp
      · rcases Nat.eq_zero_or_pos k with h0 | h0
        · subst h0
          go_wp2_with (go_at_call 71; refine (HT'.out _).mono ?_; rintro r w3 ⟨rfl, hb3⟩; have hB3 : Hid (Below W2.heap.size W2 w3) := hB.out.trans (hb3.mono hs2); have d7 := (hb3.cell (p := ⟨gt, 0 * 8 + 7, none⟩) hgr).trans c7; clear hb3 c0 c1 c2 c3 c4 c5 c6 c7)
          all_goals first
            | (exfalso; have hh := ‹9223372036854775807 < _›; have ho := hol.out; simp only [bs_size] at hh; omega)
            | skip
          go_roundw
          case rel => exact ⟨1, o ++ tt, by omega, by go_num, by simp [bs_app], by have := hsn.out; show _ = _; simpa [L.piece] using this, by have ho := hol.out; show _ ≤ _; simp; omega, hB3⟩
          case measure => simp [intOf]
        · have h0i : (0 : Int) < (k : Int) := by omega
          go_wp2_with (go_at_call 71; refine (HT'.out _).mono ?_; rintro r w3 ⟨rfl, hb3⟩; have hB3 : Hid (Below W2.heap.size W2 w3) := hB.out.trans (hb3.mono hs2); have d7 := (hb3.cell (p := ⟨gt, k * 8 + 7, none⟩) hgr).trans c7; clear hb3 c0 c1 c2 c3 c4 c5 c6 c7)
          all_goals first
            | (exfalso; have hh := ‹9223372036854775807 < _›; have ho := hol.out; simp only [bs_size] at hh; omega)
            | skip
          go_roundw
          case rel => exact ⟨k + 1, o ++ [32] ++ tt, by omega, by go_num, by simp [lit32, bs_app], by have := hsn.out; show _ = _; simpa [L.piece, h0] using this, by have ho := hol.out; show _ ≤ _; simp; omega, hB3⟩
          case measure => simp [intOf]; omega
      · rcases Nat.eq_zero_or_pos k with h0 | h0
        · subst h0
          go_wp2_with (go_at_call 71; refine (HT'.out _).mono ?_; rintro r w3 ⟨rfl, hb3⟩; have hB3 : Hid (Below W2.heap.size W2 w3) := hB.out.trans (hb3.mono hs2); have d7 := (hb3.cell (p := ⟨gt, 0 * 8 + 7, none⟩) hgr).trans c7; clear hb3 c0 c1 c2 c3 c4 c5 c6 c7)
          all_goals first
            | (exfalso; have hh := ‹9223372036854775807 < _›; have ho := hol.out; simp only [bs_size] at hh; omega)
            | skip
          go_roundw
          case rel => exact ⟨1, o ++ ([60] ++ tt ++ [62]), by omega, by go_num, by simp [lit60, lit62, bs_app], by have := hsn.out; show _ = _; simpa [L.piece] using this, by have ho := hol.out; show _ ≤ _; simp; omega, hB3⟩
          case measure => simp [intOf]
        · have h0i : (0 : Int) < (k : Int) := by omega
          go_wp2_with (go_at_call 71; refine (HT'.out _).mono ?_; rintro r w3 ⟨rfl, hb3⟩; have hB3 : Hid (Below W2.heap.size W2 w3) := hB.out.trans (hb3.mono hs2); have d7 := (hb3.cell (p := ⟨gt, k * 8 + 7, none⟩) hgr).trans c7; clear hb3 c0 c1 c2 c3 c4 c5 c6 c7)
          all_goals first
            | (exfalso; have hh := ‹9223372036854775807 < _›; have ho := hol.out; simp only [bs_size] at hh; omega)
            | skip
          go_roundw
          case rel => exact ⟨k + 1, o ++ [32] ++ ([60] ++ tt ++ [62]), by omega, by go_num, by simp [lit32, lit60, lit62, bs_app], by have := hsn.out; show _ = _; simpa [L.piece, h0] using this, by have ho := hol.out; show _ ≤ _; simp; omega, hB3⟩
          case measure => simp [intOf]; omega
    · obtain rfl : k = m + 1 := by omega
      have hfin : Hid (o = L.shw 0 [] xs) := by
        have := hsh.out
        rw [List.drop_of_length_le (by rw [HM.out]; exact Nat.le_refl _)] at this
        exact this
      go_wp2
      exact bodyPost_ret (v := .tuple #[.string (bs o), .bool true]) (by simp [results, Tryz.results40, go_sem]) rfl ⟨by rw [hfin.out], HB3.out.trans (hB.out.mono HB3.out.size)⟩

end Go.Proofs.YtldpldcfgkceeaaGreatDoor

namespace Go.Proofs.YtldpldcfgkceeaaGreatDoor
open Go.RowKit Go.Shelf Go.Maps
set_option linter.unusedVariables false

def plainB (k : Nat) : Bool := decide (k = 1) || decide (k = 2) || decide (k = 3) || decide (k = 4) || decide (k = 8) || decide (k = 9) || decide (k = 10)
theorem plainB_ok {k : Nat} (h : plainB k = true) : plainK k := by
  simp only [plainB, Bool.or_eq_true, decide_eq_true_eq] at h
  unfold plainK
  omega
/-- Does a text come so? -/
def exOK (sl want : List UInt8) : Bool :=
  match M.scanAll sl with
  | .inl _ => false
  | .inr ts => match L.all ts sl.length with
    | .inl _ => false
    | .inr xs => decide (0 < xs.length) && decide (xs.length ≤ 4000) && decide (ts.length ≤ 5000) && xs.all (fun x => plainB x.t.t.kind && decide (x.t.t.text.length ≤ 100)) && decide (L.shw 0 [] xs = want)
theorem shown_ex (sl want : List UInt8) (hs : sl.length ≤ 70000) (hc : chk (bs sl) = (0, 0)) (h : exOK sl want = true) (w : World) (hG : GOK w) :
    Calls Tryz.prog 40 #[.string (bs sl)] w fun r W' => r = .returned (.tuple #[.string (bs want), .bool true]) ∧ Below w.heap.size w W' := by
  unfold exOK at h
  split at h
  · cases h
  · rename_i ts hts
    split at h
    · cases h
    · rename_i xs hxs
      simp only [Bool.and_eq_true, decide_eq_true_eq, List.all_eq_true] at h
      obtain ⟨⟨⟨⟨h1, h2⟩, h3⟩, h4⟩, h5⟩ := h
      obtain ⟨m, hm⟩ : ∃ m, xs.length = m + 1 := ⟨xs.length - 1, by omega⟩
      have := shown_c (bs sl) ts xs m hm (by omega) h3 (fun x hx => plainB_ok (h4 x hx).1) (fun x hx => (h4 x hx).2) (by rw [bs_size]; exact hs) hc hts (by rw [bs_size]; exact hxs) w hG
      rw [h5] at this
      exact this

set_option maxRecDepth 100000 in
set_option maxHeartbeats 4000000 in
theorem is_ex (sl want : List UInt8) (hs : sl.length ≤ 70000) (hc : chk (bs sl) = (0, 0)) (h : exOK sl want = true) (w : World) (hG : GOK w) :
    Calls Tryz.prog 11 #[.string (bs sl), .string (bs want)] w fun r W' => r = .returned (.bool true) ∧ Below w.heap.size w W' := by
  have HS : Hid (Calls Tryz.prog 40 #[.string (bs sl)] w fun r W' => r = .returned (.tuple #[.string (bs want), .bool true]) ∧ Below w.heap.size w W') := shown_ex sl want hs hc h w hG
  clear hs hc h hG
  go_enter Tryz.func11, Tryz.ntmps11
  go_wp2_with (go_at_call 40; fail)
  refine HS.out.mono ?_
  rintro r w1 ⟨rfl, hb⟩
  go_wp2
  go_ret
  exact ⟨rfl, hb⟩

theorem ex1 : exOK [97, 10, 98] [60, 123, 62, 32, 97, 32, 60, 59, 62, 32, 98, 32, 60, 125, 62] = true := by decide +kernel
theorem ck1 : chk (bs [97, 10, 98]) = (0, 0) := by decide +kernel

set_option maxRecDepth 100000 in
set_option maxHeartbeats 4000000 in
theorem lives_c (w : World) (hG : GOK w) : Calls Tryz.prog 10 #[] w fun e W' => e = .returned (.bool true) ∧ Below w.heap.size w W' := by
  have hT : Hid (Calls Tryz.prog 11 #[.string (ByteArray.mk #[97, 10, 98]), .string (ByteArray.mk #[60, 123, 62, 32, 97, 32, 60, 59, 62, 32, 98, 32, 60, 125, 62])] w fun e W' => e = .returned (.bool true) ∧ Below w.heap.size w W') := is_ex _ _ (by decide) ck1 ex1 w hG
  clear hG
  go_enter Tryz.func10, Tryz.ntmps10
  go_wp2_with (go_at_call 11; fail)
  refine hT.out.mono ?_
  rintro r w1 ⟨rfl, hb⟩
  go_wp2
  go_ret
  exact ⟨rfl, hb⟩

end Go.Proofs.YtldpldcfgkceeaaGreatDoor
