/-
  Layout: what becomes of a stream with a turn, put together.
  Layout: New and its copy of the tokens, by contracts.
  Layout: New, by a contract.
-/
import Derived.Test.YtldpldcfgkceeaaGreatDoorQLay11
import Derived.Test.YtldpldcfgkceeaaGreatDoorQLayM
import Derived.Lib.SliceRun
import Derived.Deep.RegionHeld3
namespace Go.Proofs.YtldpldcfgkceeaaGreatDoor
open Go.RowKit Go.Shelf Go.Maps
set_option linter.unusedVariables false

/-- The tokens' block lies below B, and is neither the stream's own nor that of its blocks. -/
def Sep (P B : Nat) (ov : Option Addr) (bv : Value) : Prop := ∀ a, ov = some a → a.block < B ∧ a.block ≠ P ∧ some a.block ≠ bv.ownBlock
theorem slice_tail2 (g f m cv : Nat) (hc : m + 1 ≤ cv) (t : M.Tk) (l : List M.Tk) (hl : l.length = m) :
    ∃ o', (∀ w : World, (Instr.slice 22 (.slice (some ⟨g, f, none⟩) (m + 1) cv) (some (.int .i64 1)) none none).run Tryz.prog w = .ok (.slice o' m (cv - 1)) w) ∧ (∀ (w0 : World) (P : Nat), TokAt w0 P (some ⟨g, f, none⟩) (t :: l) → TokAt w0 P o' l) ∧ ∀ a, o' = some a → a.block = g := by
  refine ⟨if cv = 1 then some ⟨g, f, none⟩ else some ⟨g, f + 7, none⟩, fun w => ?_, fun w0 P h => h.tail _ ?_, ?_⟩
  · rw [run_slice_l (t := 22) (a := some ⟨g, f, none⟩) (len := m + 1) (cap := cv) (ht := by rw [elemToks]; exact Tryz.underlying22) (kl := .i64) (l := 1) (h0 := by omega) (h1 := by omega), elemToks, sizeTok]
    simp only [Result.andThen, sliced]
    have h1 : (1 : Int).toNat = 1 := rfl
    rw [h1]
    congr 2
  · intro hne
    have : 0 < l.length := List.length_pos_iff.2 hne
    rw [if_neg (by omega)]
  · intro a ha
    split at ha
    · rw [Option.some.injEq] at ha; rw [← ha]
    · rw [Option.some.injEq] at ha; rw [← ha]
theorem sep_nxt {w : World} {P B : Nat} {ov : Option Addr} {bv bv' : Value} (h : Sep P B ov bv) (hB : B ≤ w.heap.size) (hn : Nxt w bv.ownBlock bv'.ownBlock) : Sep P B ov bv' := by
  intro a ha
  refine ⟨(h a ha).1, (h a ha).2.1, ?_⟩
  rcases hn with hn | ⟨k, hn, hk⟩
  · rw [hn]; exact (h a ha).2.2
  · rw [hn]
    have := (h a ha).1
    intro e
    rw [Option.some.injEq] at e
    omega
theorem strm_of {w W : World} {P B e : Nat} {s' : L.S} {n cv : Nat} {ov : Option Addr} {bv bv' : Value} {stv : Value} {ow' : Int}
    (ht : TokAt w w.heap.size ov s'.toks) (hl : s'.toks.length = n) (hcap : n ≤ cv) (hs : Sep P B ov bv) (hB : B ≤ w.heap.size)
    (hb : Blk W P #[.slice ov n cv, .int .i64 (e : Int), stv, bv', .int .i64 ow'] 57) (hst : stv = stV s'.st) (how : ow' = (s'.owed : Int))
    (hr : W.ownsRow (P + 1) 3 1 bv' s'.blocks.length (intsV s'.blocks)) (hc : Chg w W P bv.ownBlock) (hn : Nxt w bv.ownBlock bv'.ownBlock) :
    Strm W P e s' n ov cv bv' ∧ Sep P B ov bv' ∧ Chg w W P bv.ownBlock ∧ Nxt w bv.ownBlock bv'.ownBlock := by
  subst hst how
  exact ⟨⟨hb, hl, hcap, tok_chg ht hc (fun a ha => ⟨(hs a ha).2.1, (hs a ha).2.2⟩), hr⟩, sep_nxt hs hB hn, hc, hn⟩
theorem st_iface (x : L.St) : ∃ sty sva, stV x = .iface sty sva := by cases x <;> exact ⟨_, _, rfl⟩
theorem ints_snoc (l : List Nat) (c : Nat) : intsV (l ++ [c]) = intsV l ++ [.int .i64 (c : Int)] := by simp [intsV]

set_option maxHeartbeats 4000000 in
theorem follow_c (P B e : Nat) (s : L.S) (n : Nat) (ov : Option Addr) (cv : Nat) (bv : Value) (t : L.Turn) (hF : L.Fit s t) (hT : t.lx.imp = false → ∃ l, s.toks = t.lx.t :: l) (hbl : s.blocks.length ≤ 100000) (ho2 : s.owed ≤ 100000) (w : World) (h : Strm w P e s n ov cv bv) (hs : Sep P B ov bv) (hB : B ≤ w.heap.size) :
    Calls Tryz.prog 51 #[.pointer (some ⟨P, 0, none⟩), turnV t] w fun r W' => r = .returned (.tuple #[]) ∧ ∃ n' ov' cv' bv', Strm W' P e (L.follow s t) n' ov' cv' bv' ∧ Sep P B ov' bv' ∧ Chg w W' P bv.ownBlock ∧ Nxt w bv.ownBlock bv'.ownBlock := by
  obtain ⟨⟨⟨⟨k, tx, num⟩, pos, line, tc, first⟩, imp⟩, err, st, beg, column, ends, owed⟩ := t
  obtain ⟨⟨x, hx⟩, hends, hone, hlo, hhi, hsum⟩ := hF
  simp only at hx hends hone hlo hhi hsum hT
  subst hx
  obtain ⟨sty, sva, hsv⟩ := st_iface x
  have hV : turnV ⟨⟨⟨⟨k, tx, num⟩, pos, line, tc, first⟩, imp⟩, err, some x, beg, column, ends, owed⟩ = .agg #[.int .i64 (k : Int), .string (bs tx), .int .i64 (num : Int), .int .i64 (pos : Int), .int .i64 (line : Int), .int .i64 (tc : Int), .bool first, .bool imp, .int .i64 (err : Int), .iface sty sva, .bool beg, .int .i64 (column : Int), .bool ends, .int .i64 owed] := by
    rw [← hsv]; rfl
  rw [hV]
  obtain ⟨toks, sst, blocks, ow⟩ := s
  simp only at hends hsum hT hbl ho2
  have how : ((ow : Int) + owed) = (((ow : Int) + owed).toNat : Int) := by omega
  have hb := h.blk
  have hr := h.bks
  simp only at hb hr
  cases imp with
  | true =>
    cases beg with
    | true =>
      obtain rfl : ends = false := hone rfl
      refine (followPushI_c P e _ bv ow ((ow : Int) + owed) ov n cv blocks.length hbl (intsV blocks) k num pos line tc err owed (bs tx) first column sty sva rfl (by omega) (by omega) w hb hr).mono ?_
      rintro r W ⟨rfl, bv', h1, h2, h3, h4⟩
      exact ⟨rfl, n, ov, cv, bv', strm_of (s' := L.follow ⟨toks, sst, blocks, ow⟩ ⟨⟨⟨⟨k, tx, num⟩, pos, line, tc, first⟩, true⟩, err, some x, true, column, false, owed⟩) h.toks h.len h.cap hs hB h1 hsv.symm how (by show W.ownsRow _ _ _ _ (blocks ++ [column]).length (intsV (blocks ++ [column])); rw [ints_snoc, List.length_append]; exact h2) h3 h4⟩
    | false =>
      cases ends with
      | true =>
        have hne := hends rfl
        have hbs := L.snoc hne
        obtain ⟨m, hm⟩ : ∃ m, blocks.length = m + 1 := ⟨blocks.length - 1, by have := List.length_pos_iff.2 hne; omega⟩
        have hdl : blocks.dropLast.length = m := by simp [hm]
        rw [hm, hbs, ints_snoc] at hr
        refine (followPopI_c P e _ bv ow ((ow : Int) + owed) ov n cv m (by omega) (intsV blocks.dropLast) _ k num pos line tc err owed (bs tx) first column sty sva rfl (by omega) (by omega) w hb hr).mono ?_
        rintro r W ⟨rfl, bv', h1, h2, h3, h4⟩
        exact ⟨rfl, n, ov, cv, bv', strm_of (s' := L.follow ⟨toks, sst, blocks, ow⟩ ⟨⟨⟨⟨k, tx, num⟩, pos, line, tc, first⟩, true⟩, err, some x, false, column, true, owed⟩) h.toks h.len h.cap hs hB h1 hsv.symm how (by show W.ownsRow _ _ _ _ blocks.dropLast.length (intsV blocks.dropLast); rw [hdl]; exact h2) h3 h4⟩
      | false =>
        refine (followStayI_c P e _ bv ow ((ow : Int) + owed) ov n cv blocks.length (intsV blocks) k num pos line tc err owed (bs tx) first column sty sva rfl (by omega) (by omega) w hb hr).mono ?_
        rintro r W ⟨rfl, bv', h1, h2, h3, h4⟩
        exact ⟨rfl, n, ov, cv, bv', strm_of (s' := L.follow ⟨toks, sst, blocks, ow⟩ ⟨⟨⟨⟨k, tx, num⟩, pos, line, tc, first⟩, true⟩, err, some x, false, column, false, owed⟩) h.toks h.len h.cap hs hB h1 hsv.symm how h2 h3 h4⟩
  | false =>
    obtain ⟨l, hl⟩ := hT rfl
    subst hl
    have htk := h.toks
    simp only at htk
    obtain ⟨g, f, hov, hg, -⟩ := htk.head
    subst hov
    obtain ⟨m, hm⟩ : ∃ m, n = m + 1 := ⟨l.length, by have := h.len; simp at this; omega⟩
    subst hm
    have hlm : l.length = m := by have := h.len; simp at this; omega
    have hcv := h.cap
    obtain ⟨o', hsl, htl, hbk⟩ := slice_tail2 g f m cv hcv _ l hlm
    have htl' := htl w w.heap.size htk
    have hs' : Sep P B o' bv := by
      intro a ha
      have := hs _ rfl
      simp only at this
      rw [hbk a ha]
      exact this
    cases beg with
    | true =>
      obtain rfl : ends = false := hone rfl
      refine (followPushT_c P e _ bv ow ((ow : Int) + owed) g f m cv o' hsl hcv blocks.length hbl (intsV blocks) k num pos line tc err owed (bs tx) first column sty sva rfl (by omega) (by omega) w hb hr).mono ?_
      rintro r W ⟨rfl, bv', h1, h2, h3, h4⟩
      exact ⟨rfl, m, o', cv - 1, bv', strm_of (s' := L.follow ⟨_ :: l, sst, blocks, ow⟩ ⟨⟨⟨⟨k, tx, num⟩, pos, line, tc, first⟩, false⟩, err, some x, true, column, false, owed⟩) htl' hlm (by omega) hs' hB h1 hsv.symm how (by show W.ownsRow _ _ _ _ (blocks ++ [column]).length (intsV (blocks ++ [column])); rw [ints_snoc, List.length_append]; exact h2) h3 h4⟩
    | false =>
      cases ends with
      | true =>
        have hne := hends rfl
        have hbs := L.snoc hne
        obtain ⟨q, hq⟩ : ∃ q, blocks.length = q + 1 := ⟨blocks.length - 1, by have := List.length_pos_iff.2 hne; omega⟩
        have hdl : blocks.dropLast.length = q := by simp [hq]
        rw [hq, hbs, ints_snoc] at hr
        refine (followPopT_c P e _ bv ow ((ow : Int) + owed) g f m cv o' hsl hcv q (by omega) (intsV blocks.dropLast) _ k num pos line tc err owed (bs tx) first column sty sva rfl (by omega) (by omega) w hb hr).mono ?_
        rintro r W ⟨rfl, bv', h1, h2, h3, h4⟩
        exact ⟨rfl, m, o', cv - 1, bv', strm_of (s' := L.follow ⟨_ :: l, sst, blocks, ow⟩ ⟨⟨⟨⟨k, tx, num⟩, pos, line, tc, first⟩, false⟩, err, some x, false, column, true, owed⟩) htl' hlm (by omega) hs' hB h1 hsv.symm how (by show W.ownsRow _ _ _ _ blocks.dropLast.length (intsV blocks.dropLast); rw [hdl]; exact h2) h3 h4⟩
      | false =>
        refine (followStayT_c P e _ bv ow ((ow : Int) + owed) g f m cv o' hsl hcv blocks.length (intsV blocks) k num pos line tc err owed (bs tx) first column sty sva rfl (by omega) (by omega) w hb hr).mono ?_
        rintro r W ⟨rfl, bv', h1, h2, h3, h4⟩
        exact ⟨rfl, m, o', cv - 1, bv', strm_of (s' := L.follow ⟨_ :: l, sst, blocks, ow⟩ ⟨⟨⟨⟨k, tx, num⟩, pos, line, tc, first⟩, false⟩, err, some x, false, column, false, owed⟩) htl' hlm (by omega) hs' hB h1 hsv.symm how h2 h3 h4⟩

end Go.Proofs.YtldpldcfgkceeaaGreatDoor

namespace Go.Proofs.YtldpldcfgkceeaaGreatDoor
open Go.RowKit Go.Shelf Go.Maps
set_option linter.unusedVariables false

theorem one_tks (ts : List M.Tk) : ∀ u ∈ tksC ts, u.oneCell' = true := by
  intro u hu
  simp only [tksC, List.mem_flatMap] at hu
  obtain ⟨t, _, ht⟩ := hu
  simp only [tkC, List.mem_cons, List.not_mem_nil, or_false] at ht
  rcases ht with rfl | rfl | rfl | rfl | rfl | rfl | rfl <;> rfl

set_option maxHeartbeats 8000000 in
set_option maxRecDepth 100000 in
theorem clone_c (ts : List M.Tk) (b : Nat) (v : Value) (hn : ts.length ≤ 100000) (w : World) (h : w.ownsRow b 43 7 v ts.length (tksC ts)) :
    Calls Tryz.prog 41 #[v] w fun r W' => ∃ v', r = .returned v' ∧ Hid (W'.ownsRow w.heap.size 43 7 v' ts.length (tksC ts)) ∧ Below w.heap.size w W' := by
  have qT : ∀ (w : World) (a : Option Addr) (n c n' c' : Nat), (binOp .eql 22 (.slice a n c) (.slice none n' c')).run Tryz.prog w = .ok (.bool a.isNone) w := fun w a n c n' c' => Lib.run_eql_slice_nil w _ _ a n c n' c' Tryz.underlying22
  obtain ⟨i0, hi0, hz0, hz1, hz2⟩ := info_parts Tryz.infoTok
  have hlen := h.1
  rcases h with ⟨hl, ⟨rfl, h0⟩ | ⟨g, cap, cur, rfl, hb, hg, h3, h4, h5, h6⟩⟩
  · obtain rfl : ts = [] := List.length_eq_zero_iff.1 h0
    clear hlen hl h0 hn
    go_enter Tryz.func41, Tryz.ntmps41
    go_wp2
    go_ret
    exact ⟨_, rfl, World.ownsRow_nil _ _ _ _, Below.refl _ _⟩
  · have HO : Hid (w.ownsRow b 43 7 (.slice (some ⟨g, 0, none⟩) ts.length cap) ts.length (tksC ts)) := ⟨hl, .inr ⟨g, cap, cur, rfl, hb, hg, h3, h4, h5, h6⟩⟩
    have hgl : g < w.heap.size := (Array.getElem?_eq_some_iff.1 hg).1
    clear hl hb hg h3 h4 h5 h6
    go_enter Tryz.func41, Tryz.ntmps41
    have HC : Hid (∀ j u, (tksC ts)[j]? = some u → (w.alloc (.cells #[] 43)).cell? ((⟨g, 0, none⟩ : Addr).add j) = some u) := (HO.out.alloc _).cells (g := g) rfl
    have H1 : Hid (∀ u ∈ tksC ts, u.oneCell' = true) := one_tks ts
    go_wp2_with (at_builtin; refine wpList_append_own _ rfl _ _ 22 rfl w.heap.size 43 i0 _ 7 64 Tryz.underlying22 hi0 hz0 hz1 hz2 rfl (by decide) (.slice (some ⟨w.heap.size, 0, none⟩) 0 0) 0 [] rfl (World.ownsRow_made (size := 7) w #[] 0 (Nat.le_refl _) (by unfold maxLen; omega) rfl) ⟨g, 0, none⟩ ts.length cap (tksC ts) rfl hlen HC.out H1.out (by unfold maxLen; omega) (by omega) (by simp) ?_; intro v' w1 hown1 hgrow1 hnil1; rw [Nat.zero_add, List.nil_append] at hown1; obtain ⟨oo, oc, hv'⟩ := owns_form hown1; subst hv'; have hO1 : Hid (w1.ownsRow w.heap.size 43 7 (.slice oo ts.length oc) ts.length (tksC ts)) := hown1; have hB1 : Hid (Below w.heap.size w w1) := ((Below.refl _ w).alloc (Nat.le_refl _) _).grown hgrow1 (by simp) (fun k e => by simp [Value.ownBlock] at e; omega); clear hown1 hgrow1 hnil1)
    go_ret
    exact ⟨_, rfl, hO1, hB1.out⟩

end Go.Proofs.YtldpldcfgkceeaaGreatDoor

namespace Go.Proofs.YtldpldcfgkceeaaGreatDoor
open Go.RowKit Go.Shelf Go.Maps
set_option linter.unusedVariables false

theorem tokAt_own {W : World} {b : Nat} {v : Value} {ts : List M.Tk} (h : W.ownsRow b 43 7 v ts.length (tksC ts)) : ∃ o c, v = .slice o ts.length c ∧ ts.length ≤ c ∧ TokAt W W.heap.size o ts ∧ (∀ a, o = some a → b ≤ a.block ∧ a.block < W.heap.size) := by
  rcases h with ⟨hl, ⟨rfl, h0⟩ | ⟨g, cap, cur, rfl, hb, hg, h3, h4, h5, h6⟩⟩
  · refine ⟨none, 0, by rw [h0], by omega, .inl (List.length_eq_zero_iff.1 h0), by simp⟩
  · have hlt : g < W.heap.size := (Array.getElem?_eq_some_iff.1 hg).1
    refine ⟨_, cap, rfl, h3, .inr ⟨g, 0, rfl, hlt, fun i hi q u hu => ?_⟩, fun a ha => ?_⟩
    · rw [Nat.zero_add]
      have hq : q < 7 := by
        rcases Nat.lt_or_ge q 7 with hq | hq
        · exact hq
        · rw [List.getElem?_eq_none (by simpa [tkC] using hq)] at hu; cases hu
      exact tks_cell rfl ⟨hl, .inr ⟨g, cap, cur, rfl, hb, hg, h3, h4, h5, h6⟩⟩ i hi q hq u hu
    · rw [Option.some.injEq] at ha
      subst ha
      exact ⟨hb, hlt⟩

set_option maxHeartbeats 4000000 in
set_option maxRecDepth 100000 in
theorem new_c (ts : List M.Tk) (e b : Nat) (v : Value) (hn : ts.length ≤ 100000) (w : World) (h : w.ownsRow b 43 7 v ts.length (tksC ts)) :
    Calls Tryz.prog 16 #[v, .int .i64 (e : Int)] w fun r W' => ∃ P o c, r = .returned (.pointer (some ⟨P, 0, none⟩)) ∧ Strm W' P e (L.new ts) ts.length o c (.slice none 0 0) ∧ w.heap.size ≤ P ∧ Sep P W'.heap.size o (.slice none 0 0) ∧ Below w.heap.size w W' := by
  have hdep : Tryz.prog.follows Departure.mixedOrders = true := by kernel_rfl
  obtain ⟨o, c, hv, hc, hto, hob⟩ := tokAt_own h
  subst hv
  obtain ⟨sty, sva, hsv⟩ := st_iface (L.ahead ts true)
  have hCl : Hid (∀ W : World, Below w.heap.size w W → Calls Tryz.prog 41 #[.slice o ts.length c] W fun r W' => ∃ v', r = .returned v' ∧ Hid (W'.ownsRow W.heap.size 43 7 v' ts.length (tksC ts)) ∧ Below W.heap.size W W') := fun W hW => clone_c ts b _ hn W (owns_below h hW)
  have hA : Hid (∀ W : World, Below w.heap.size w W → Calls Tryz.prog 42 #[.slice o ts.length c, .bool true] W fun r W' => r = .returned (.iface sty sva) ∧ Below W.heap.size W W') := by
    intro W hW
    have := ahead_c ts true o ts.length c rfl hn W ((hto.below (Nat.le_refl _) hW).mono hW.size)
    rw [hsv] at this
    exact this
  clear h hto hob
  go_enter Tryz.func16, Tryz.ntmps16
  go_wp2_with (go_at_call 41; fail)
  refine (hCl.out _ (Below.refl _ _)).mono ?_
  rintro r w1 ⟨v', rfl, ho1, hb1⟩
  obtain ⟨o1, c1, hv1, hc1, ht1, hob1⟩ := tokAt_own ho1.out
  subst hv1
  have HT : Hid (TokAt w1 w1.heap.size o1 ts ∧ (∀ a, o1 = some a → w.heap.size ≤ a.block ∧ a.block < w1.heap.size) ∧ ts.length ≤ c1) := ⟨ht1, hob1, hc1⟩
  have HB1 : Hid (Below w.heap.size w w1) := hb1
  clear ho1 hc1 ht1 hob1 hb1
  go_wp2_with (go_at_call 42; fail)
  refine (hA.out _ HB1.out).mono ?_
  rintro r w2 ⟨rfl, hb2⟩
  have HB2 : Hid (Below w1.heap.size w1 w2) := hb2
  clear hb2 hA hCl
  go_wp2
  go_ret
  have h12 := HB2.out.size
  have h01 := HB1.out.size
  have hB : Below w.heap.size w w2 := HB1.out.trans (HB2.out.mono h01)
  refine ⟨_, o1, c1, rfl, ⟨?_, rfl, HT.out.2.2, ?_, World.ownsRow_nil _ _ _ _⟩, hB.size, ?_, hB.alloc hB.size _⟩
  · show Blk _ _ #[.slice o1 ts.length c1, .int .i64 (e : Int), stV (L.ahead ts true), .slice none 0 0, .int .i64 ((0 : Nat) : Int)] 57
    rw [hsv]
    exact Blk.new w2 _ _
  · exact ((HT.out.1.below (Nat.le_refl _) HB2.out).below h12 ((Below.refl _ w2).alloc (Nat.le_refl _) _)).mono (by simp; omega)
  · intro a ha
    have := (HT.out.2.1 a ha).2
    exact ⟨by simp; omega, by omega, by simp [Value.ownBlock]⟩

end Go.Proofs.YtldpldcfgkceeaaGreatDoor
