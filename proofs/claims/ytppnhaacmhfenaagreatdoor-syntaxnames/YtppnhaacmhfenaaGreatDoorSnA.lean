/-
  A node's lexemes and its text, by contracts.
  The chapter's examples: their trees, checked and told.
  The law on the chapter's examples, by contracts.
  The chapter's examples in memory, and the law's first example.
  An equation's tree, laid by the law in whatever order.
-/
import Derived.Test.YtppnhaacmhfenaaGreatDoorWr
import Derived.Test.YtppnhaacmhfenaaGreatDoorTellB
namespace Go.Proofs.YtppnhaacmhfenaaGreatDoor
open Go.RowKit Go.Shelf Go.Maps
set_option linter.unusedVariables false

theorem tC_get : ∀ (ts : List TkT) (k : Nat) (h : k < ts.length) (q : Nat), q < 7 → (ts.flatMap tC)[k * 7 + q]? = (tC ts[k])[q]?
  | t :: ts, 0, h, q, hq => by
    rw [List.flatMap_cons, Nat.zero_mul, Nat.zero_add, List.getElem?_append_left (by show q < 7; exact hq)]; rfl
  | t :: ts, k + 1, h, q, hq => by
    have hf : (tC t).length = 7 := rfl
    rw [List.flatMap_cons, List.getElem?_append_right (by rw [hf]; omega), hf, show (k + 1) * 7 + q - 7 = k * 7 + q by omega]
    exact tC_get ts k (by simpa using h) q hq
theorem tkin_row {W : World} {b : Nat} {v : Value} {ts : List TkT} (h : W.ownsRow b 43 7 v ts.length (ts.flatMap tC)) : ∃ o cap, v = .slice o ts.length cap ∧ TkIn W W.heap.size o ts := by
  have h0 := h
  rcases h with ⟨hl, ⟨hv, hz⟩ | ⟨g, cap, cur, hv, hb, hg, hr⟩⟩
  · exact ⟨none, 0, by rw [hz]; exact hv, .inl (List.length_eq_zero_iff.1 hz)⟩
  · refine ⟨some ⟨g, 0, none⟩, cap, hv, .inr ⟨g, 0, rfl, (Array.getElem?_eq_some_iff.1 hg).1, fun k hk q u hu => ?_⟩⟩
    have hq : q < 7 := (List.getElem?_eq_some_iff.1 hu).1
    have := h0.cells (g := g) (by rw [hv]; rfl) (k * 7 + q) u (by rw [tC_get ts k hk q hq]; exact hu)
    rw [Addr.add_lit, ← Nat.add_assoc] at this
    exact this
theorem NdIn.mono {W : World} {B B' : Nat} {n : Nd} {o : Option Addr} {cap : Nat} (h : NdIn W B n o cap) (hb : B ≤ B') : NdIn W B' n o cap := by
  refine ⟨?_, h.2⟩
  rcases h.1 with e | ⟨g, off, e, hg, hK⟩
  · exact .inl e
  · exact .inr ⟨g, off, e, by omega, KidsAt.mono hb _ g off hK⟩
set_option maxRecDepth 100000 in
set_option maxHeartbeats 4000000 in
theorem lexemes_c (n : Nd) (o : Option Addr) (cap : Nat) (w : World) (hn : NdIn w w.heap.size n o cap) (hG : GOK w) (hck : chkM n = 0) (out : List TkT) (k : Nat) (hk : k ≤ 4611686018426000000) (hl : out.length ≤ 1000000000) (ht : ∀ B bl T, TellOK B bl T 46 n out k) :
    Calls Tryz.prog 15 #[.agg #[.int .i64 n.kind, .string (bs n.name), .int .i64 n.num, .slice o n.kids.length cap, .int .i64 n.pos]] w fun e W' => ∃ o' cap', e = .returned (.tuple #[.slice o' out.length cap', .int .i64 0]) ∧ TkIn W' W'.heap.size o' out ∧ Below w.heap.size w W' := by
  have hmm : ∀ W : World, (Instr.makeMap 66 none).run Tryz.prog W = .ok (.map (some W.heap.size)) (W.alloc (.map #[] 0)) := fun W => rfl
  obtain ⟨V, hV⟩ : ∃ V, w.alloc (.cells #[.int .i64 n.kind, .string (bs n.name), .int .i64 n.num, .slice o n.kids.length cap, .int .i64 n.pos] 25) = V := ⟨_, rfl⟩
  have hVb : Below w.heap.size w V := by rw [← hV]; exact (Below.refl _ w).alloc (Nat.le_refl _) _
  have hVs : V.heap.size = w.heap.size + 1 := by rw [← hV]; simp
  have hB1 : Blk V w.heap.size #[.int .i64 n.kind, .string (bs n.name), .int .i64 n.num, .slice o n.kids.length cap, .int .i64 n.pos] 25 := by rw [← hV]; exact Blk.new w _ _
  have hA : Below V.heap.size V (V.alloc (.map #[] 0)) := (Below.refl _ _).alloc (Nat.le_refl _) _
  have hVA : Below w.heap.size w (V.alloc (.map #[] 0)) := hVb.trans (hA.mono (by omega))
  have HGs : Hid (6 ≤ w.heap.size + 1) := by have := hG.size; show _ ≤ _; omega
  have HC : Hid (Calls Tryz.prog 44 #[.agg #[.int .i64 n.kind, .string (bs n.name), .int .i64 n.num, .slice o n.kids.length cap, .int .i64 n.pos], .map (some (w.heap.size + 1))] (V.alloc (.map #[] 0)) fun e W' => e = .returned (.int .i64 0) ∧ But (w.heap.size + 1) (V.alloc (.map #[] 0)) W' ∧ LexSt W' (w.heap.size + 1) (0 + 1048576)) := by
    have hL := lexSt_new V
    rw [hVs] at hL
    have := nodeChk_c n o cap w.heap.size (w.heap.size + 1) 0 (V.alloc (.map #[] 0)) (hn.below hVA) (by omega) (hG.below hVA) HGs.out hL (by omega)
    rw [hck] at this
    exact this
  have HB : Hid (∀ X : World, But (w.heap.size + 1) (V.alloc (.map #[] 0)) X → Below w.heap.size w X ∧ Blk X w.heap.size #[.int .i64 n.kind, .string (bs n.name), .int .i64 n.num, .slice o n.kids.length cap, .int .i64 n.pos] 25 ∧ GOK X ∧ NdIn X w.heap.size n o cap) := fun X hX => by
    have h1 : Below w.heap.size w X := hVA.trans (hX.below (by omega) hVA.size)
    exact ⟨h1, (hB1.below hA).but (by omega) hX, hG.below h1, hn.below h1⟩
  have HX : Hid (∀ X : World, Below w.heap.size w X → GOK X → NdIn X w.heap.size n o cap → LexSt X (w.heap.size + 1) (0 + 1048576) → Calls Tryz.prog 46 #[.pointer (some ⟨X.heap.size, 0, none⟩), .agg #[.int .i64 n.kind, .string (bs n.name), .int .i64 n.num, .slice o n.kids.length cap, .int .i64 n.pos]] (X.alloc (.cells #[.map (some (w.heap.size + 1)), .slice none 0 0] 69)) fun e W' => e = .returned (.tuple #[]) ∧ ∃ o' cap', Blk W' X.heap.size #[.map (some (w.heap.size + 1)), .slice o' out.length cap'] 69 ∧ TkIn W' W'.heap.size o' out ∧ Below w.heap.size w W') := by
    intro X hX hGX hnX hLX
    have hbl := hLX.lt
    have hal : Below X.heap.size X (X.alloc (.cells #[.map (some (w.heap.size + 1)), .slice none 0 0] 69)) := (Below.refl _ _).alloc (Nat.le_refl _) _
    have hS : TSt w.heap.size (w.heap.size + 1) X.heap.size (0 + 1048576) (X.alloc (.cells #[.map (some (w.heap.size + 1)), .slice none 0 0] 69)) (.slice none 0 0) [] := ⟨⟨by omega, hbl, HGs.out⟩, hGX.below hal, hLX.below hal, Blk.new _ _ _, World.ownsRow_nil _ _ _ _⟩
    refine (ht w.heap.size (w.heap.size + 1) X.heap.size [] _ _ _ o cap (hnX.below (hal.mono (by omega))) hS (by omega) (by simpa using hl)).mono ?_
    rintro e W' ⟨rfl, v', h1, h2⟩
    rw [List.nil_append] at h1
    obtain ⟨o', cap', rfl, hT⟩ := tkin_row h1.2.2.2.2
    exact ⟨rfl, o', cap', h1.2.2.2.1, hT, hX.trans ((hal.mono (by omega)).trans (h2.below hS))⟩
  have c0 : V.cell? ⟨w.heap.size, 0, none⟩ = some (.int .i64 n.kind) := hB1.cell 0 _ rfl
  have c1 : V.cell? ⟨w.heap.size, 1, none⟩ = some (.string (bs n.name)) := hB1.cell 1 _ rfl
  have c2 : V.cell? ⟨w.heap.size, 2, none⟩ = some (.int .i64 n.num) := hB1.cell 2 _ rfl
  have c3 : V.cell? ⟨w.heap.size, 3, none⟩ = some (.slice o n.kids.length cap) := hB1.cell 3 _ rfl
  have c4 : V.cell? ⟨w.heap.size, 4, none⟩ = some (.int .i64 n.pos) := hB1.cell 4 _ rfl
  clear hn hG hVb hB1 hA hVA hck ht hk hl
  go_enter Tryz.func15, Tryz.ntmps15
  go_wp2_with (go_at_call 44; fail)
  refine HC.out.mono ?_
  rintro e w1 ⟨rfl, hb, hL1⟩
  obtain ⟨h1, h2, h3, h4⟩ := HB.out _ hb
  have HC2 : Hid (Calls Tryz.prog 46 #[.pointer (some ⟨w1.heap.size, 0, none⟩), .agg #[.int .i64 n.kind, .string (bs n.name), .int .i64 n.num, .slice o n.kids.length cap, .int .i64 n.pos]] (w1.alloc (.cells #[.map (some (w.heap.size + 1)), .slice none 0 0] 69)) fun e W' => e = .returned (.tuple #[]) ∧ ∃ o' cap', Blk W' w1.heap.size #[.map (some (w.heap.size + 1)), .slice o' out.length cap'] 69 ∧ TkIn W' W'.heap.size o' out ∧ Below w.heap.size w W') := HX.out w1 h1 h3 h4 hL1
  have d0 : w1.cell? ⟨w.heap.size, 0, none⟩ = some (.int .i64 n.kind) := h2.cell 0 _ rfl
  have d1 : w1.cell? ⟨w.heap.size, 1, none⟩ = some (.string (bs n.name)) := h2.cell 1 _ rfl
  have d2 : w1.cell? ⟨w.heap.size, 2, none⟩ = some (.int .i64 n.num) := h2.cell 2 _ rfl
  have d3 : w1.cell? ⟨w.heap.size, 3, none⟩ = some (.slice o n.kids.length cap) := h2.cell 3 _ rfl
  have d4 : w1.cell? ⟨w.heap.size, 4, none⟩ = some (.int .i64 n.pos) := h2.cell 4 _ rfl
  have hlt1 := h2.lt
  clear hb hL1 h1 h2 h3 h4 c0 c1 c2 c3 c4 hmm hV hVs HC HB HX
  go_wp2_with (go_at_call 46; fail)
  refine HC2.out.mono ?_
  rintro e w2 ⟨rfl, o', cap', hBk, hTk, hBl⟩
  have HTk : Hid (TkIn w2 w2.heap.size o' out) := hTk
  have HBl : Hid (Below w.heap.size w w2) := hBl
  have e1 : w2.cell? ⟨w1.heap.size, 1, none⟩ = some (.slice o' out.length cap') := hBk.cell 1 _ rfl
  have hlt2 := hBk.lt
  clear hBk hTk hBl d0 d1 d2 d3 d4 HC2
  go_wp2
  go_ret2
  exact ⟨o', cap', rfl, HTk.out, HBl.out⟩
set_option maxRecDepth 100000 in
set_option maxHeartbeats 4000000 in
theorem textS_c (n : Nd) (o : Option Addr) (cap : Nat) (w : World) (hn : NdIn w w.heap.size n o cap) (hG : GOK w) (hck : chkM n = 0) (out : List TkT) (k : Nat) (hk : k ≤ 4611686018426000000) (hx : ∀ t ∈ out, t.num ≤ 9223372036854775807 ∧ t.text.length ≤ 70000) (hJ : (out.flatMap jnF).length ≤ 1000000000) (ht : ∀ B bl T, TellOK B bl T 46 n out k) :
    Calls Tryz.prog 16 #[.agg #[.int .i64 n.kind, .string (bs n.name), .int .i64 n.num, .slice o n.kids.length cap, .int .i64 n.pos]] w fun e W' => e = .returned (.tuple #[.string (bs (jnT out)), .int .i64 0]) ∧ Below w.heap.size w W' := by
  have hl : out.length ≤ 1000000000 := by
    refine Nat.le_trans ?_ hJ
    clear hx ht hJ hk
    induction out with
    | nil => simp
    | cons t ts ih => simp only [List.flatMap_cons, List.length_append, List.length_cons, jnF]; omega
  obtain ⟨V, hV⟩ : ∃ V, w.alloc (.cells #[.int .i64 n.kind, .string (bs n.name), .int .i64 n.num, .slice o n.kids.length cap, .int .i64 n.pos] 25) = V := ⟨_, rfl⟩
  have hVb : Below w.heap.size w V := by rw [← hV]; exact (Below.refl _ w).alloc (Nat.le_refl _) _
  have hVs : V.heap.size = w.heap.size + 1 := by rw [← hV]; simp
  have hB1 : Blk V w.heap.size #[.int .i64 n.kind, .string (bs n.name), .int .i64 n.num, .slice o n.kids.length cap, .int .i64 n.pos] 25 := by rw [← hV]; exact Blk.new w _ _
  have HC : Hid (Calls Tryz.prog 15 #[.agg #[.int .i64 n.kind, .string (bs n.name), .int .i64 n.num, .slice o n.kids.length cap, .int .i64 n.pos]] V fun e W' => ∃ o' cap', e = .returned (.tuple #[.slice o' out.length cap', .int .i64 0]) ∧ TkIn W' W'.heap.size o' out ∧ Below V.heap.size V W') := lexemes_c n o cap V ((hn.below hVb).mono (by omega)) (hG.below hVb) hck out k hk hl ht
  have HGV : Hid (GOK V) := hG.below hVb
  have HV : Hid (Below w.heap.size w V) := hVb
  have HVs : Hid (V.heap.size = w.heap.size + 1) := hVs
  have Hx : Hid (∀ t ∈ out, t.num ≤ 9223372036854775807 ∧ t.text.length ≤ 70000) := hx
  have HJ : Hid ((out.flatMap jnF).length ≤ 1000000000) := hJ
  have Hl : Hid (out.length ≤ 1000000000) := hl
  have c0 : V.cell? ⟨w.heap.size, 0, none⟩ = some (.int .i64 n.kind) := hB1.cell 0 _ rfl
  have c1 : V.cell? ⟨w.heap.size, 1, none⟩ = some (.string (bs n.name)) := hB1.cell 1 _ rfl
  have c2 : V.cell? ⟨w.heap.size, 2, none⟩ = some (.int .i64 n.num) := hB1.cell 2 _ rfl
  have c3 : V.cell? ⟨w.heap.size, 3, none⟩ = some (.slice o n.kids.length cap) := hB1.cell 3 _ rfl
  have c4 : V.cell? ⟨w.heap.size, 4, none⟩ = some (.int .i64 n.pos) := hB1.cell 4 _ rfl
  clear hn hG hVb hB1 hck ht hk hl hVs hx hJ
  go_enter Tryz.func16, Tryz.ntmps16
  go_wp2_with (go_at_call 15; fail)
  refine HC.out.mono ?_
  rintro e w1 ⟨o', cap', rfl, hT, hb⟩
  have HB1 : Hid (Below w.heap.size w w1) := HV.out.trans (hb.mono (by have := HVs.out; omega))
  have HC2 : Hid (Calls Tryz.prog 47 #[.iface 71 (.pointer (some ⟨w1.heap.size, 0, none⟩)), .slice o' out.length cap'] (w1.alloc (.cells #[.pointer none, .slice none 0 0] 74)) fun e W' => e = .returned (.tuple #[]) ∧ Lib.IsBuilderF 74 5 w1.heap.size w1.heap.size (Lib.byteCells (jnT out)) W' ∧ Below w1.heap.size w1 W') := by
    have hal : Below w1.heap.size w1 (w1.alloc (.cells #[.pointer none, .slice none 0 0] 74)) := (Below.refl _ _).alloc (Nat.le_refl _) _
    have hG1 : GOK w1 := HGV.out.below hb
    refine (write_c out o' cap' w1.heap.size _ (hG1.below hal) hG1.size (.inl ⟨Nat.le_refl _, _, Blk.new w1 _ _, World.ownsRowF_nil _ _ _ _, by simp [Value.ownBlock]⟩) (hT.below hal) Hx.out HJ.out Hl.out).mono ?_
    rintro e W' ⟨rfl, h1, h2⟩
    exact ⟨rfl, h1, hal.trans h2⟩
  clear hT hb HC c0 c1 c2 c3 c4 hV
  go_wp2_with (go_at_call 47; fail)
  refine HC2.out.mono ?_
  rintro e w2 ⟨rfl, hA, hb2⟩
  have HC3 : Hid (Calls Tryz.prog 48 #[.pointer (some ⟨w1.heap.size, 0, none⟩)] w2 fun e w' => e = .returned (.string (bs (jnT out))) ∧ Below w.heap.size w w') := by
    refine (builderStrK_c w1.heap.size w1.heap.size (jnT out) w2 hA hb2.size).mono ?_
    rintro e w' ⟨rfl, h2⟩
    exact ⟨rfl, HB1.out.trans ((hb2.trans h2).mono HB1.out.size)⟩
  clear hA hb2 HC2
  go_wp2_with (go_at_call 48; fail)
  refine HC3.out.mono ?_
  rintro e w3 ⟨rfl, hb3⟩
  have HB3 : Hid (Below w.heap.size w w3) := hb3
  clear hb3 HC3
  go_wp2
  go_ret2
  exact ⟨rfl, HB3.out⟩

end Go.Proofs.YtppnhaacmhfenaaGreatDoor

namespace Go.Proofs.YtppnhaacmhfenaaGreatDoor
open Go.RowKit Go.Shelf Go.Maps
set_option linter.unusedVariables false

def ndVar (s : List UInt8) : Nd := .mk 11 s 0 [] 0
def ndNum (n : Int) : Nd := .mk 13 [] n [] 0
def ndOf (k : Int) (l : List Nd) : Nd := .mk k [] 0 l 0
def ndPVar (s : List UInt8) : Nd := .mk 34 s 0 [] 0
def exG : Nd := ndOf 16 [ndVar [103], ndNum 1]
def exF : Nd := ndOf 16 [ndVar [102], exG]
def exR : Nd := ndOf 8 [ndVar [120]]
def exE : Nd := .mk 6 [102] 0 [ndPVar [120], exR] 0
def exP : Nd := ndOf 1 [exE]
def exO : Nd := .mk 5 [43] 0 [] 0
def exS : Nd := ndOf 17 [ndVar [120], exO, ndNum 1]
def exL : Nd := ndOf 19 [ndPVar [120], exS]
def exB : Nd := ndOf 16 [ndVar [102]]
theorem exF_chk : chkM exF = 0 := by decide
theorem exP_chk : chkM exP = 0 := by decide
theorem exL_chk : chkM exL = 0 := by decide
theorem exB_chk : chkM exB = 2 := by decide

section
variable {B bl T : Nat}
theorem tellVar (s : List UInt8) (h : isSymB (lkM (bs s)) = false) : TellOK B bl T 46 (ndVar s) (nmT (bs s)) 1 := node_expr (by show (11 : Int) ≤ 11; decide) (by show (11 : Int) ≤ 33; decide) (exprVar rfl h)
theorem tellPVar (s : List UInt8) (h : isSymB (lkM (bs s)) = false) : TellOK B bl T 46 (ndPVar s) (nmT (bs s)) 1 := node_pat (by show (34 : Int) ≤ 34; decide) (patVar rfl h)
theorem tellNum (n : Int) : TellOK B bl T 46 (ndNum n) [⟨5, [], n⟩] 0 := node_expr (by show (11 : Int) ≤ 13; decide) (by show (13 : Int) ≤ 33; decide) (exprInt rfl)
theorem atomVar (s : List UInt8) (h : isSymB (lkM (bs s)) = false) : TellOK B bl T 150 (ndVar s) (nmT (bs s)) 1 := atomYes (by show (11 : Int) ≠ 39; decide) rfl (tellVar s h)
theorem atomPVar (s : List UInt8) (h : isSymB (lkM (bs s)) = false) : TellOK B bl T 150 (ndPVar s) (nmT (bs s)) 1 := atomYes (by show (34 : Int) ≠ 39; decide) rfl (tellPVar s h)
theorem atomNum (n : Int) : TellOK B bl T 150 (ndNum n) [⟨5, [], n⟩] 0 := atomYes (by show (13 : Int) ≠ 39; decide) rfl (tellNum n)
def leafO (x : Nd) : List TkT := if x.kind = 13 then [⟨5, [], x.num⟩] else nmT (bs x.name)
def leafK (x : Nd) : Nat := if x.kind = 13 then 0 else 1
def outG : List TkT := exG.kids.flatMap leafO
def cntG : Nat := (exG.kids.map leafK).sum
theorem tellG : TellOK B bl T 46 exG outG cntG := by
  refine node_expr (by show (11 : Int) ≤ 16; decide) (by show (16 : Int) ≤ 33; decide) (exprApp rfl (atoms_ok leafO leafK ?_))
  intro x hx
  change x ∈ [ndVar [103], ndNum 1] at hx
  simp only [List.mem_cons, List.not_mem_nil, or_false] at hx
  rcases hx with rfl | rfl
  · exact atomVar [103] (by decide)
  · exact atomNum 1
def fO (x : Nd) : List TkT := if x.kind = 16 then lpT :: (outG ++ [rpT]) else leafO x
def fK (x : Nd) : Nat := if x.kind = 16 then cntG else leafK x
def outF : List TkT := exF.kids.flatMap fO
def cntF : Nat := (exF.kids.map fK).sum
theorem tellF : TellOK B bl T 46 exF outF cntF := by
  refine node_expr (by show (11 : Int) ≤ 16; decide) (by show (16 : Int) ≤ 33; decide) (exprApp rfl (atoms_ok fO fK ?_))
  intro x hx
  change x ∈ [ndVar [102], exG] at hx
  simp only [List.mem_cons, List.not_mem_nil, or_false] at hx
  rcases hx with rfl | rfl
  · exact atomVar [102] (by decide)
  · exact atomNo (by show (16 : Int) ≠ 39; decide) rfl tellG
def rO (x : Nd) : List TkT := sgT ⟨#[61]⟩ :: leafO x
def outR : List TkT := exR.kids.flatMap rO
def cntR : Nat := (exR.kids.map leafK).sum
theorem tellR : SignOK B bl T 146 exR ⟨#[61]⟩ outR cntR := by
  refine right_ok ⟨#[61]⟩ rO leafK ?_
  intro x hx
  change x ∈ [ndVar [120]] at hx
  simp only [List.mem_cons, List.not_mem_nil, or_false] at hx
  subst hx
  refine ⟨fun h => absurd h (by show (11 : Int) ≠ 9; decide), fun h => absurd h (by show (11 : Int) ≠ 10; decide), fun _ _ => ⟨_, rfl, tellVar [120] (by decide)⟩⟩
theorem listX : ListOK B bl T 145 [ndPVar [120]] ([ndPVar [120]].flatMap leafO) (([ndPVar [120]].map leafK).sum) := by
  refine atoms_ok leafO leafK ?_
  intro x hx
  simp only [List.mem_cons, List.not_mem_nil, or_false] at hx
  subst hx
  exact atomPVar [120] (by decide)
def outE : List TkT := nmT (bs [102]) ++ [ndPVar [120]].flatMap leafO ++ outR
def cntE : Nat := 1 + ([ndPVar [120]].map leafK).sum + cntR
theorem tellE : TellOK B bl T 46 exE outE cntE := node_decl (by show (6 : Int) ≤ 10; decide) (declEqn (ini := [ndPVar [120]]) (z := exR) rfl rfl (nameOK (by decide) (by decide)) listX tellR)
def pO (x : Nd) : List TkT := outE
def pK (x : Nd) : Nat := cntE
def outP : List TkT := lbT :: (exP.kids.flatMap (fun x => pO x ++ [scT]) ++ [rbT])
def cntP : Nat := (exP.kids.map pK).sum
theorem tellP : TellOK B bl T 46 exP outP cntP := by
  refine node_decl (by show (1 : Int) ≤ 10; decide) (declProgram rfl (block_ok pO pK ?_))
  intro x hx
  change x ∈ [exE] at hx
  simp only [List.mem_cons, List.not_mem_nil, or_false] at hx
  subst hx
  exact tellE
def outS : List TkT := exS.kids.flatMap leafO
def cntS : Nat := (exS.kids.map leafK).sum
theorem tellS : TellOK B bl T 46 exS outS cntS := by
  refine node_expr (by show (11 : Int) ≤ 17; decide) (by show (17 : Int) ≤ 33; decide) (exprOps rfl (turns_ok leafO leafK ?_))
  intro x hx
  change x ∈ [ndVar [120], exO, ndNum 1] at hx
  simp only [List.mem_cons, List.not_mem_nil, or_false] at hx
  rcases hx with rfl | rfl | rfl
  · exact ⟨fun h => absurd h (by show (11 : Int) ≠ 5; decide), fun _ => atomVar [120] (by decide)⟩
  · exact ⟨fun _ => node_decl (by show (5 : Int) ≤ 10; decide) (declOp rfl (by decide)), fun h => absurd rfl h⟩
  · exact ⟨fun h => absurd h (by show (13 : Int) ≠ 5; decide), fun _ => atomNum 1⟩
def outL : List TkT := [sgT ⟨#[92]⟩] ++ [ndPVar [120]].flatMap leafO ++ [sgT ⟨#[45, 62]⟩] ++ outS
def cntL : Nat := ([ndPVar [120]].map leafK).sum + cntS
theorem tellL : TellOK B bl T 46 exL outL cntL := node_expr (by show (11 : Int) ≤ 19; decide) (by show (19 : Int) ≤ 33; decide) (exprLam rfl (conLam (ini := [ndPVar [120]]) (z := exS) rfl rfl listX tellS))
end
theorem tx1 (s : List UInt8) : txT ⟨5, s, 1⟩ = [49] := by
  unfold txT txM
  simp only [if_true]
  show Lib.itoa ((1 : Nat) : Int) = [49]
  rw [Lib.itoa_nonneg]
  unfold Lib.decDigits
  decide
theorem jnF_ex : jnT outF = [102, 32, 40, 32, 103, 32, 49, 32, 41] := by
  have e : jnT outF = [102, 32, 40, 32, 103, 32] ++ (txT ⟨5, [], 1⟩ ++ [32, 41]) := rfl
  rw [e, tx1]; rfl
theorem jnP_ex : jnT outP = [123, 32, 102, 32, 120, 32, 61, 32, 120, 32, 59, 32, 125] := by decide
theorem jnL_ex : jnT outL = [92, 32, 120, 32, 45, 62, 32, 120, 32, 43, 32, 49] := by
  have e : jnT outL = [92, 32, 120, 32, 45, 62, 32, 120, 32, 43, 32] ++ (txT ⟨5, [], 1⟩ ++ []) := rfl
  rw [e, tx1]; rfl
theorem jn_le (out : List TkT) (l : List UInt8) (h : jnT out = l) (hl : l.length ≤ 1000) : (out.flatMap jnF).length ≤ 1000000000 := by
  have : (jnT out).length = l.length := by rw [h]
  unfold jnT at this
  rw [List.length_drop] at this
  omega
theorem bF : (∀ t ∈ outF, t.num ≤ 9223372036854775807 ∧ t.text.length ≤ 70000) ∧ (outF.flatMap jnF).length ≤ 1000000000 ∧ cntF ≤ 4611686018426000000 := ⟨by decide, jn_le _ _ jnF_ex (by decide), by decide⟩
theorem bP : (∀ t ∈ outP, t.num ≤ 9223372036854775807 ∧ t.text.length ≤ 70000) ∧ (outP.flatMap jnF).length ≤ 1000000000 ∧ cntP ≤ 4611686018426000000 := ⟨by decide, jn_le _ _ jnP_ex (by decide), by decide⟩
theorem bL : (∀ t ∈ outL, t.num ≤ 9223372036854775807 ∧ t.text.length ≤ 70000) ∧ (outL.flatMap jnF).length ≤ 1000000000 ∧ cntL ≤ 4611686018426000000 := ⟨by decide, jn_le _ _ jnL_ex (by decide), by decide⟩
end Go.Proofs.YtppnhaacmhfenaaGreatDoor

namespace Go.Proofs.YtppnhaacmhfenaaGreatDoor
open Go.RowKit Go.Shelf Go.Maps
set_option linter.unusedVariables false

set_option maxRecDepth 100000 in
set_option maxHeartbeats 4000000 in
theorem vv_c (s : ByteArray) (w : World) : Calls Tryz.prog 10 #[.string s] w fun e w' => e = .returned (.agg #[.int .i64 11, .string s, .int .i64 0, .slice none 0 0, .int .i64 0]) ∧ Below w.heap.size w w' := by
  have HB : Hid (∀ o : Obj, Below w.heap.size w (w.alloc o)) := fun o => (Below.refl _ w).alloc (Nat.le_refl _) _
  go_enter Tryz.func10, Tryz.ntmps10
  go_wp2
  exact bodyPost_ret (v := .agg #[.int .i64 11, .string s, .int .i64 0, .slice none 0 0, .int .i64 0]) (by simp [results, Tryz.results10, go_sem]) rfl ⟨rfl, by repeat (first | (refine Below.setCell ?_ (by simp) _) | exact HB.out _)⟩
set_option maxRecDepth 100000 in
set_option maxHeartbeats 4000000 in
theorem num_c (n : Int) (w : World) : Calls Tryz.prog 11 #[.int .i64 n] w fun e w' => e = .returned (.agg #[.int .i64 13, .string ⟨#[]⟩, .int .i64 n, .slice none 0 0, .int .i64 0]) ∧ Below w.heap.size w w' := by
  have HB : Hid (∀ o : Obj, Below w.heap.size w (w.alloc o)) := fun o => (Below.refl _ w).alloc (Nat.le_refl _) _
  go_enter Tryz.func11, Tryz.ntmps11
  go_wp2
  exact bodyPost_ret (v := .agg #[.int .i64 13, .string ⟨#[]⟩, .int .i64 n, .slice none 0 0, .int .i64 0]) (by simp [results, Tryz.results11, go_sem]) rfl ⟨rfl, by repeat (first | (refine Below.setCell ?_ (by simp) _) | exact HB.out _)⟩
set_option maxRecDepth 100000 in
set_option maxHeartbeats 4000000 in
theorem of_c (k : Int) (o : Option Addr) (l cap : Nat) (w : World) : Calls Tryz.prog 9 #[.int .i64 k, .slice o l cap] w fun e w' => e = .returned (.agg #[.int .i64 k, .string ⟨#[]⟩, .int .i64 0, .slice o l cap, .int .i64 0]) ∧ Below w.heap.size w w' := by
  have HB : Hid (∀ o : Obj, Below w.heap.size w (w.alloc o)) := fun o => (Below.refl _ w).alloc (Nat.le_refl _) _
  go_enter Tryz.func9, Tryz.ntmps9
  go_wp2
  exact bodyPost_ret (v := .agg #[.int .i64 k, .string ⟨#[]⟩, .int .i64 0, .slice o l cap, .int .i64 0]) (by simp [results, Tryz.results9, go_sem]) rfl ⟨rfl, by repeat (first | (refine Below.setCell ?_ (by simp) _) | exact HB.out _)⟩
set_option maxRecDepth 100000 in
set_option maxHeartbeats 4000000 in
theorem told_c (n : Nd) (o : Option Addr) (cap : Nat) (w : World) (hn : NdIn w w.heap.size n o cap) (hG : GOK w) (hck : chkM n = 0) (out : List TkT) (k : Nat) (hb : (∀ t ∈ out, t.num ≤ 9223372036854775807 ∧ t.text.length ≤ 70000) ∧ (out.flatMap jnF).length ≤ 1000000000 ∧ k ≤ 4611686018426000000) (ht : ∀ B bl T, TellOK B bl T 46 n out k) (want : List UInt8) (hw : jnT out = want) :
    Calls Tryz.prog 12 #[.agg #[.int .i64 n.kind, .string (bs n.name), .int .i64 n.num, .slice o n.kids.length cap, .int .i64 n.pos], .string (bs want)] w fun e W' => e = .returned (.bool true) ∧ Below w.heap.size w W' := by
  obtain ⟨V, hV⟩ : ∃ V, w.alloc (.cells #[.int .i64 n.kind, .string (bs n.name), .int .i64 n.num, .slice o n.kids.length cap, .int .i64 n.pos] 25) = V := ⟨_, rfl⟩
  have hVb : Below w.heap.size w V := by rw [← hV]; exact (Below.refl _ w).alloc (Nat.le_refl _) _
  have hVs : V.heap.size = w.heap.size + 1 := by rw [← hV]; simp
  have hB1 : Blk V w.heap.size #[.int .i64 n.kind, .string (bs n.name), .int .i64 n.num, .slice o n.kids.length cap, .int .i64 n.pos] 25 := by rw [← hV]; exact Blk.new w _ _
  have HC : Hid (Calls Tryz.prog 16 #[.agg #[.int .i64 n.kind, .string (bs n.name), .int .i64 n.num, .slice o n.kids.length cap, .int .i64 n.pos]] V fun e W' => e = .returned (.tuple #[.string (bs want), .int .i64 0]) ∧ Below V.heap.size V W') := by
    have := textS_c n o cap V ((hn.below hVb).mono (by omega)) (hG.below hVb) hck out k hb.2.2 hb.1 hb.2.1 ht
    rw [hw] at this
    exact this
  have HV : Hid (∀ X, Below V.heap.size V X → Below w.heap.size w X) := fun X hX => hVb.trans (hX.mono (by omega))
  have c0 : V.cell? ⟨w.heap.size, 0, none⟩ = some (.int .i64 n.kind) := hB1.cell 0 _ rfl
  have c1 : V.cell? ⟨w.heap.size, 1, none⟩ = some (.string (bs n.name)) := hB1.cell 1 _ rfl
  have c2 : V.cell? ⟨w.heap.size, 2, none⟩ = some (.int .i64 n.num) := hB1.cell 2 _ rfl
  have c3 : V.cell? ⟨w.heap.size, 3, none⟩ = some (.slice o n.kids.length cap) := hB1.cell 3 _ rfl
  have c4 : V.cell? ⟨w.heap.size, 4, none⟩ = some (.int .i64 n.pos) := hB1.cell 4 _ rfl
  clear hn hG hVb hB1 hck ht hVs hb hw
  go_enter Tryz.func12, Tryz.ntmps12
  go_wp2_with (go_at_call 16; fail)
  refine HC.out.mono ?_
  rintro e w1 ⟨rfl, hb⟩
  have HB1 : Hid (Below w.heap.size w w1) := HV.out _ hb
  clear hb HC HV c0 c1 c2 c3 c4 hV
  go_wp2
  go_ret
  exact ⟨by simp, HB1.out⟩

end Go.Proofs.YtppnhaacmhfenaaGreatDoor

namespace Go.Proofs.YtppnhaacmhfenaaGreatDoor
open Go.RowKit Go.Shelf Go.Maps
set_option linter.unusedVariables false

def WfN (n : Nd) : Prop := (-9223372036854775808 ≤ n.kind ∧ n.kind ≤ 9223372036854775807) ∧ n.name.length ≤ 9223372036854775807 ∧ (-9223372036854775808 ≤ n.num ∧ n.num ≤ 9223372036854775807)
theorem ndAt_mk {W : World} {B g off : Nat} {n : Nd} {o : Option Addr} {cap : Nat} (h : NdIn W B n o cap) (c0 : W.cell? ⟨g, off, none⟩ = some (.int .i64 n.kind)) (c1 : W.cell? ⟨g, off + 1, none⟩ = some (.string (bs n.name))) (c2 : W.cell? ⟨g, off + 2, none⟩ = some (.int .i64 n.num)) (c3 : W.cell? ⟨g, off + 3, none⟩ = some (.slice o n.kids.length cap)) (c4 : W.cell? ⟨g, off + 4, none⟩ = some (.int .i64 n.pos)) : NdAt W B n g off := by
  obtain ⟨h1, h2, h3, h4, h5, h6⟩ := h
  cases n
  simp only [NdAt]
  exact ⟨o, cap, c0, c1, c2, c3, c4, h2, h3, ⟨h4, h5, h6⟩, h1⟩
theorem in_leaf {W : World} {B : Nat} (n : Nd) (hk : n.kids = []) (hw : WfN n) : NdIn W B n none 0 := ⟨.inl hk, by rw [hk]; exact Nat.le_refl _, by decide, hw⟩
theorem in_1 {W : World} {B g : Nat} (n : Nd) {a : Nd} {oa : Option Addr} {ca : Nat} (hk : n.kids = [a]) (hw : WfN n) (ha : NdIn W B a oa ca) (hg : g < B) (hB : Blk W g #[.int .i64 a.kind, .string (bs a.name), .int .i64 a.num, .slice oa a.kids.length ca, .int .i64 a.pos] 25) : NdIn W B n (some ⟨g, 0, none⟩) 1 := by
  refine ⟨.inr ⟨g, 0, rfl, hg, ?_⟩, by rw [hk]; exact Nat.le_refl _, by decide, hw⟩
  rw [hk]
  simp only [KidsAt]
  exact ⟨ndAt_mk ha (hB.cell 0 _ rfl) (hB.cell 1 _ rfl) (hB.cell 2 _ rfl) (hB.cell 3 _ rfl) (hB.cell 4 _ rfl), trivial⟩
theorem in_2 {W : World} {B g : Nat} (n : Nd) {a : Nd} {b : Nd} {oa : Option Addr} {ca : Nat} {ob : Option Addr} {cb : Nat} (hk : n.kids = [a, b]) (hw : WfN n) (ha : NdIn W B a oa ca) (hb : NdIn W B b ob cb) (hg : g < B) (hB : Blk W g #[.int .i64 a.kind, .string (bs a.name), .int .i64 a.num, .slice oa a.kids.length ca, .int .i64 a.pos, .int .i64 b.kind, .string (bs b.name), .int .i64 b.num, .slice ob b.kids.length cb, .int .i64 b.pos] 25) : NdIn W B n (some ⟨g, 0, none⟩) 2 := by
  refine ⟨.inr ⟨g, 0, rfl, hg, ?_⟩, by rw [hk]; exact Nat.le_refl _, by decide, hw⟩
  rw [hk]
  simp only [KidsAt]
  exact ⟨ndAt_mk ha (hB.cell 0 _ rfl) (hB.cell 1 _ rfl) (hB.cell 2 _ rfl) (hB.cell 3 _ rfl) (hB.cell 4 _ rfl), ndAt_mk hb (hB.cell 5 _ rfl) (hB.cell 6 _ rfl) (hB.cell 7 _ rfl) (hB.cell 8 _ rfl) (hB.cell 9 _ rfl), trivial⟩
theorem in_3 {W : World} {B g : Nat} (n : Nd) {a : Nd} {b : Nd} {d : Nd} {oa : Option Addr} {ca : Nat} {ob : Option Addr} {cb : Nat} {od : Option Addr} {cd : Nat} (hk : n.kids = [a, b, d]) (hw : WfN n) (ha : NdIn W B a oa ca) (hb : NdIn W B b ob cb) (hd : NdIn W B d od cd) (hg : g < B) (hB : Blk W g #[.int .i64 a.kind, .string (bs a.name), .int .i64 a.num, .slice oa a.kids.length ca, .int .i64 a.pos, .int .i64 b.kind, .string (bs b.name), .int .i64 b.num, .slice ob b.kids.length cb, .int .i64 b.pos, .int .i64 d.kind, .string (bs d.name), .int .i64 d.num, .slice od d.kids.length cd, .int .i64 d.pos] 25) : NdIn W B n (some ⟨g, 0, none⟩) 3 := by
  refine ⟨.inr ⟨g, 0, rfl, hg, ?_⟩, by rw [hk]; exact Nat.le_refl _, by decide, hw⟩
  rw [hk]
  simp only [KidsAt]
  exact ⟨ndAt_mk ha (hB.cell 0 _ rfl) (hB.cell 1 _ rfl) (hB.cell 2 _ rfl) (hB.cell 3 _ rfl) (hB.cell 4 _ rfl), ndAt_mk hb (hB.cell 5 _ rfl) (hB.cell 6 _ rfl) (hB.cell 7 _ rfl) (hB.cell 8 _ rfl) (hB.cell 9 _ rfl), ndAt_mk hd (hB.cell 10 _ rfl) (hB.cell 11 _ rfl) (hB.cell 12 _ rfl) (hB.cell 13 _ rfl) (hB.cell 14 _ rfl), trivial⟩
set_option maxRecDepth 100000 in
set_option maxHeartbeats 4000000 in
theorem lives4_c (w : World) (hG : GOK w) : Calls Tryz.prog 8 #[] w fun e W' => e = .returned (.bool true) ∧ Below w.heap.size w W' := by
  have HG : Hid (GOK w) := hG
  have HV : Hid (∀ (s : ByteArray) (X : World), Calls Tryz.prog 10 #[.string s] X fun e w' => e = .returned (.agg #[.int .i64 11, .string s, .int .i64 0, .slice none 0 0, .int .i64 0]) ∧ Below X.heap.size X w') := vv_c
  have HN : Hid (∀ (n : Int) (X : World), Calls Tryz.prog 11 #[.int .i64 n] X fun e w' => e = .returned (.agg #[.int .i64 13, .string ⟨#[]⟩, .int .i64 n, .slice none 0 0, .int .i64 0]) ∧ Below X.heap.size X w') := num_c
  have HO : Hid (∀ (k : Int) (o : Option Addr) (l cap : Nat) (X : World), Calls Tryz.prog 9 #[.int .i64 k, .slice o l cap] X fun e w' => e = .returned (.agg #[.int .i64 k, .string ⟨#[]⟩, .int .i64 0, .slice o l cap, .int .i64 0]) ∧ Below X.heap.size X w') := of_c
  have HT : Hid (∀ (X : World) (g1 g2 : Nat), Below w.heap.size w X → g1 < X.heap.size → g2 < X.heap.size → Blk X g1 #[.int .i64 11, .string ⟨#[103]⟩, .int .i64 0, .slice none 0 0, .int .i64 0, .int .i64 13, .string ⟨#[]⟩, .int .i64 1, .slice none 0 0, .int .i64 0] 25 → Blk X g2 #[.int .i64 11, .string ⟨#[102]⟩, .int .i64 0, .slice none 0 0, .int .i64 0, .int .i64 16, .string ⟨#[]⟩, .int .i64 0, .slice (some ⟨g1, 0, none⟩) 2 2, .int .i64 0] 25 → Calls Tryz.prog 12 #[.agg #[.int .i64 16, .string ⟨#[]⟩, .int .i64 0, .slice (some ⟨g2, 0, none⟩) 2 2, .int .i64 0], .string ⟨#[102, 32, 40, 32, 103, 32, 49, 32, 41]⟩] X fun e W' => e = .returned (.bool true) ∧ Below X.heap.size X W') := by
    intro X g1 g2 hX h1 h2 b1 b2
    have iG : NdIn X X.heap.size exG (some ⟨g1, 0, none⟩) 2 := in_2 exG (a := ndVar [103]) (b := ndNum 1) rfl (by unfold WfN; decide) (in_leaf _ rfl (by unfold WfN; decide)) (in_leaf _ rfl (by unfold WfN; decide)) h1 b1
    have iF : NdIn X X.heap.size exF (some ⟨g2, 0, none⟩) 2 := in_2 exF (a := ndVar [102]) (b := exG) rfl (by unfold WfN; decide) (in_leaf _ rfl (by unfold WfN; decide)) iG h2 b2
    exact told_c exF _ 2 X iF (hG.below hX) exF_chk outF cntF bF (fun _ _ _ => tellF) [102, 32, 40, 32, 103, 32, 49, 32, 41] jnF_ex
  clear hG
  go_enter Tryz.func8, Tryz.ntmps8
  go_wp2_with (go_at_call 10; fail)
  refine (HV.out _ _).mono ?_
  rintro e w1 ⟨rfl, hb1⟩
  have B1 : Hid (Below w.heap.size w w1) := hb1
  clear hb1
  go_wp2_with (go_at_call 10; fail)
  refine (HV.out _ _).mono ?_
  rintro e w2 ⟨rfl, hb2⟩
  have B2 : Hid (Below w.heap.size w w2) := B1.out.trans (hb2.mono B1.out.size)
  clear hb2
  go_wp2_with (go_at_call 11; fail)
  refine (HN.out _ _).mono ?_
  rintro e w3 ⟨rfl, hb3⟩
  have B3 : Hid (Below w.heap.size w w3) := B2.out.trans (hb3.mono B2.out.size)
  clear hb3
  obtain ⟨W4, hW4⟩ : ∃ W4, w3.alloc (.cells #[.int .i64 11, .string ⟨#[103]⟩, .int .i64 0, .slice none 0 0, .int .i64 0, .int .i64 13, .string ⟨#[]⟩, .int .i64 1, .slice none 0 0, .int .i64 0] 25) = W4 := ⟨_, rfl⟩
  have hs4 : W4.heap.size = w3.heap.size + 1 := by rw [← hW4]; simp
  have B4 : Hid (Below w.heap.size w W4) := by show Below _ _ _; rw [← hW4]; exact B3.out.alloc B3.out.size _
  have K4 : Hid (Blk W4 w3.heap.size #[.int .i64 11, .string ⟨#[103]⟩, .int .i64 0, .slice none 0 0, .int .i64 0, .int .i64 13, .string ⟨#[]⟩, .int .i64 1, .slice none 0 0, .int .i64 0] 25) := by show Blk _ _ _ _; rw [← hW4]; exact Blk.new _ _ _
  have H4 : Hid (w3.alloc (.cells #[.int .i64 11, .string ⟨#[103]⟩, .int .i64 0, .slice none 0 0, .int .i64 0, .int .i64 13, .string ⟨#[]⟩, .int .i64 1, .slice none 0 0, .int .i64 0] 25) = W4) := hW4
  have Hs4 : Hid (W4.heap.size = w3.heap.size + 1) := hs4
  clear hW4 hs4
  go_wp2_with (go_at_call 9; fail)
  rw [H4.out]
  refine (HO.out _ _ _ _ _).mono ?_
  rintro e w5 ⟨rfl, hb5⟩
  have B5 : Hid (Below w.heap.size w w5) := B4.out.trans (hb5.mono B4.out.size)
  have K5 : Hid (Blk w5 w3.heap.size #[.int .i64 11, .string ⟨#[103]⟩, .int .i64 0, .slice none 0 0, .int .i64 0, .int .i64 13, .string ⟨#[]⟩, .int .i64 1, .slice none 0 0, .int .i64 0] 25) := K4.out.below hb5
  clear hb5 K4
  obtain ⟨W6, hW6⟩ : ∃ W6, w5.alloc (.cells (#[.int .i64 11, .string ⟨#[102]⟩, .int .i64 0, .slice none 0 0, .int .i64 0, .int .i64 16, .string ⟨#[]⟩, .int .i64 0, .slice (some ⟨w3.heap.size, 0, none⟩) 2 2, .int .i64 0]) 25) = W6 := ⟨_, rfl⟩
  have ha6 : Below w5.heap.size w5 W6 := by rw [← hW6]; exact (Below.refl _ _).alloc (Nat.le_refl _) _
  have B6 : Hid (Below w.heap.size w W6) := B5.out.trans (ha6.mono B5.out.size)
  have K6 : Hid (Blk W6 w5.heap.size (#[.int .i64 11, .string ⟨#[102]⟩, .int .i64 0, .slice none 0 0, .int .i64 0, .int .i64 16, .string ⟨#[]⟩, .int .i64 0, .slice (some ⟨w3.heap.size, 0, none⟩) 2 2, .int .i64 0]) 25) := by show Blk _ _ _ _; rw [← hW6]; exact Blk.new _ _ _
  have K6' : Hid (Blk W6 w3.heap.size #[.int .i64 11, .string ⟨#[103]⟩, .int .i64 0, .slice none 0 0, .int .i64 0, .int .i64 13, .string ⟨#[]⟩, .int .i64 1, .slice none 0 0, .int .i64 0] 25) := K5.out.below ha6
  have H6 : Hid (w5.alloc (.cells (#[.int .i64 11, .string ⟨#[102]⟩, .int .i64 0, .slice none 0 0, .int .i64 0, .int .i64 16, .string ⟨#[]⟩, .int .i64 0, .slice (some ⟨w3.heap.size, 0, none⟩) 2 2, .int .i64 0]) 25) = W6) := hW6
  clear hW6 ha6 K5
  go_wp2_with (go_at_call 9; fail)
  rw [H6.out]
  refine (HO.out _ _ _ _ _).mono ?_
  rintro e w7 ⟨rfl, hb7⟩
  have B7 : Hid (Below w.heap.size w w7) := B6.out.trans (hb7.mono B6.out.size)
  have k1 := K6'.out.below hb7
  have k2 := K6.out.below hb7
  have HC : Hid (Calls Tryz.prog 12 #[.agg #[.int .i64 16, .string ⟨#[]⟩, .int .i64 0, .slice (some ⟨w5.heap.size, 0, none⟩) 2 2, .int .i64 0], .string ⟨#[102, 32, 40, 32, 103, 32, 49, 32, 41]⟩] w7 fun e W' => e = .returned (.bool true) ∧ Below w7.heap.size w7 W') := HT.out w7 w3.heap.size w5.heap.size B7.out k1.lt k2.lt k1 k2
  clear hb7 k1 k2 K6 K6' HT
  go_wp2_with (go_at_call 12; fail)
  refine HC.out.mono ?_
  rintro e w8 ⟨rfl, hb8⟩
  have B8 : Hid (Below w.heap.size w w8) := B7.out.trans (hb8.mono B7.out.size)
  clear hb8
  go_wp2
  go_ret
  exact ⟨rfl, B8.out⟩

end Go.Proofs.YtppnhaacmhfenaaGreatDoor

namespace Go.Proofs.YtppnhaacmhfenaaGreatDoor
open Go.RowKit Go.Shelf Go.Maps
set_option linter.unusedVariables false

theorem Blk.cells5 {W : World} {B : Nat} {v0 v1 v2 v3 v4 : Value} {T : TypeId} (h : Blk W B #[v0, v1, v2, v3, v4] T) : W.cell? ⟨B, 0, none⟩ = some v0 ∧ W.cell? ⟨B, 1, none⟩ = some v1 ∧ W.cell? ⟨B, 2, none⟩ = some v2 ∧ W.cell? ⟨B, 3, none⟩ = some v3 ∧ W.cell? ⟨B, 4, none⟩ = some v4 ∧ W.frozen? ⟨B, 0, none⟩ = false ∧ W.frozen? ⟨B, 1, none⟩ = false ∧ W.frozen? ⟨B, 2, none⟩ = false ∧ W.frozen? ⟨B, 3, none⟩ = false ∧ W.frozen? ⟨B, 4, none⟩ = false := ⟨h.cell 0 _ rfl, h.cell 1 _ rfl, h.cell 2 _ rfl, h.cell 3 _ rfl, h.cell 4 _ rfl, h.frozen 0, h.frozen 1, h.frozen 2, h.frozen 3, h.frozen 4⟩
theorem Blk.sets5 {W : World} {E : Nat} {v0 v1 v2 v3 v4 : Value} {T : TypeId} (h : Blk W E #[v0, v1, v2, v3, v4] T) (a0 a1 a2 a3 a4 : Value) : Blk (((((W.setCell ⟨E, 0, none⟩ a0).setCell ⟨E, 1, none⟩ a1).setCell ⟨E, 2, none⟩ a2).setCell ⟨E, 3, none⟩ a3).setCell ⟨E, 4, none⟩ a4) E #[a0, a1, a2, a3, a4] T := by
  have h0 : Blk (W.setCell ⟨E, 0, none⟩ a0) E #[a0, v1, v2, v3, v4] T := h.set 0 a0
  have h1 : Blk ((W.setCell ⟨E, 0, none⟩ a0).setCell ⟨E, 1, none⟩ a1) E #[a0, a1, v2, v3, v4] T := h0.set 1 a1
  have h2 := h1.set 2 a2
  have h2' : Blk (((W.setCell ⟨E, 0, none⟩ a0).setCell ⟨E, 1, none⟩ a1).setCell ⟨E, 2, none⟩ a2) E #[a0, a1, a2, v3, v4] T := h2
  have h3 : Blk ((((W.setCell ⟨E, 0, none⟩ a0).setCell ⟨E, 1, none⟩ a1).setCell ⟨E, 2, none⟩ a2).setCell ⟨E, 3, none⟩ a3) E #[a0, a1, a2, a3, v4] T := h2'.set 3 a3
  exact h3.set 4 a4
theorem Blk.past5 {W : World} {E g : Nat} {vs : Array Value} {T : TypeId} (h : Blk W g vs T) (hne : g ≠ E) (a0 a1 a2 a3 a4 : Value) : Blk (((((W.setCell ⟨E, 0, none⟩ a0).setCell ⟨E, 1, none⟩ a1).setCell ⟨E, 2, none⟩ a2).setCell ⟨E, 3, none⟩ a3).setCell ⟨E, 4, none⟩ a4) g vs T := by
  unfold Blk
  rw [heap_setCell_other _ _ _ _ (by exact hne), heap_setCell_other _ _ _ _ (by exact hne), heap_setCell_other _ _ _ _ (by exact hne), heap_setCell_other _ _ _ _ (by exact hne), heap_setCell_other _ _ _ _ (by exact hne)]
  exact h
/-- The equation's tree lies in memory, its first node at block gE. -/
def RegR (WX wx : World) (gE : Nat) : Prop := ∃ g2 g1 : Nat, Below WX.heap.size WX wx ∧ Blk wx gE #[.int .i64 6, .string ⟨#[102]⟩, .int .i64 0, .slice (some ⟨g2, 0, none⟩) 2 2, .int .i64 0] 25 ∧ Blk wx g2 #[.int .i64 34, .string ⟨#[120]⟩, .int .i64 0, .slice none 0 0, .int .i64 0, .int .i64 8, .string ⟨#[]⟩, .int .i64 0, .slice (some ⟨g1, 0, none⟩) 1 1, .int .i64 0] 25 ∧ Blk wx g1 #[.int .i64 11, .string ⟨#[120]⟩, .int .i64 0, .slice none 0 0, .int .i64 0] 25
theorem reg_new {WX wa wb : World} {g1 : Nat} (Ba : Below WX.heap.size WX wa) (Bb : Below wa.heap.size wa wb) (Gb : Blk wb g1 #[.int .i64 11, .string ⟨#[120]⟩, .int .i64 0, .slice none 0 0, .int .i64 0] 25) : RegR WX ((wb.alloc (.cells #[.int .i64 34, .string ⟨#[120]⟩, .int .i64 0, .slice none 0 0, .int .i64 0, .int .i64 8, .string ⟨#[]⟩, .int .i64 0, .slice (some ⟨g1, 0, none⟩) 1 1, .int .i64 0] 25)).alloc (.cells #[.int .i64 6, .string ⟨#[102]⟩, .int .i64 0, .slice (some ⟨wb.heap.size, 0, none⟩) 2 2, .int .i64 0] 25)) (wb.heap.size + 1) := by
  have h1 : Below wb.heap.size wb (wb.alloc (.cells #[.int .i64 34, .string ⟨#[120]⟩, .int .i64 0, .slice none 0 0, .int .i64 0, .int .i64 8, .string ⟨#[]⟩, .int .i64 0, .slice (some ⟨g1, 0, none⟩) 1 1, .int .i64 0] 25)) := (Below.refl _ _).alloc (Nat.le_refl _) _
  have h2 : Below (wb.alloc (.cells #[.int .i64 34, .string ⟨#[120]⟩, .int .i64 0, .slice none 0 0, .int .i64 0, .int .i64 8, .string ⟨#[]⟩, .int .i64 0, .slice (some ⟨g1, 0, none⟩) 1 1, .int .i64 0] 25)).heap.size (wb.alloc (.cells #[.int .i64 34, .string ⟨#[120]⟩, .int .i64 0, .slice none 0 0, .int .i64 0, .int .i64 8, .string ⟨#[]⟩, .int .i64 0, .slice (some ⟨g1, 0, none⟩) 1 1, .int .i64 0] 25)) ((wb.alloc (.cells #[.int .i64 34, .string ⟨#[120]⟩, .int .i64 0, .slice none 0 0, .int .i64 0, .int .i64 8, .string ⟨#[]⟩, .int .i64 0, .slice (some ⟨g1, 0, none⟩) 1 1, .int .i64 0] 25)).alloc (.cells #[.int .i64 6, .string ⟨#[102]⟩, .int .i64 0, .slice (some ⟨wb.heap.size, 0, none⟩) 2 2, .int .i64 0] 25)) := (Below.refl _ _).alloc (Nat.le_refl _) _
  have s1 := Ba.size
  have s2 := Bb.size
  exact ⟨wb.heap.size, g1, (Ba.trans (Bb.mono s1)).trans ((h1.mono (by omega)).trans (h2.mono (by simp; omega))), Blk.new2 _ _ _ _, (Blk.new _ _ _).below h2, (Gb.below h1).below h2⟩
theorem reg_new2 {WX wa wb : World} {g1 : Nat} (Ba : Below WX.heap.size WX wa) (Bb : Below wa.heap.size wa wb) (Gb : Blk wb g1 #[.int .i64 11, .string ⟨#[120]⟩, .int .i64 0, .slice none 0 0, .int .i64 0] 25) : RegR WX ((wb.alloc (.cells #[.int .i64 6, .string ⟨#[102]⟩, .int .i64 0, .slice (some ⟨wb.heap.size + 1, 0, none⟩) 2 2, .int .i64 0] 25)).alloc (.cells #[.int .i64 34, .string ⟨#[120]⟩, .int .i64 0, .slice none 0 0, .int .i64 0, .int .i64 8, .string ⟨#[]⟩, .int .i64 0, .slice (some ⟨g1, 0, none⟩) 1 1, .int .i64 0] 25)) wb.heap.size := by
  have h1 : Below wb.heap.size wb (wb.alloc (.cells #[.int .i64 6, .string ⟨#[102]⟩, .int .i64 0, .slice (some ⟨wb.heap.size + 1, 0, none⟩) 2 2, .int .i64 0] 25)) := (Below.refl _ _).alloc (Nat.le_refl _) _
  have h2 : Below (wb.alloc (.cells #[.int .i64 6, .string ⟨#[102]⟩, .int .i64 0, .slice (some ⟨wb.heap.size + 1, 0, none⟩) 2 2, .int .i64 0] 25)).heap.size (wb.alloc (.cells #[.int .i64 6, .string ⟨#[102]⟩, .int .i64 0, .slice (some ⟨wb.heap.size + 1, 0, none⟩) 2 2, .int .i64 0] 25)) ((wb.alloc (.cells #[.int .i64 6, .string ⟨#[102]⟩, .int .i64 0, .slice (some ⟨wb.heap.size + 1, 0, none⟩) 2 2, .int .i64 0] 25)).alloc (.cells #[.int .i64 34, .string ⟨#[120]⟩, .int .i64 0, .slice none 0 0, .int .i64 0, .int .i64 8, .string ⟨#[]⟩, .int .i64 0, .slice (some ⟨g1, 0, none⟩) 1 1, .int .i64 0] 25)) := (Below.refl _ _).alloc (Nat.le_refl _) _
  have s1 := Ba.size
  have s2 := Bb.size
  exact ⟨wb.heap.size + 1, g1, (Ba.trans (Bb.mono s1)).trans ((h1.mono (by omega)).trans (h2.mono (by simp; omega))), (Blk.new _ _ _).below h2, Blk.new2 _ _ _ _, (Gb.below h1).below h2⟩
theorem reg_old {WX wa wb : World} {g1 gE : Nat} (Ba : Below WX.heap.size WX wa) (Bb : Below wa.heap.size wa wb) (Gb : Blk wb g1 #[.int .i64 11, .string ⟨#[120]⟩, .int .i64 0, .slice none 0 0, .int .i64 0] 25) (Zb : Blk wb gE #[.int .i64 0, .string ⟨#[]⟩, .int .i64 0, .slice none 0 0, .int .i64 0] 25) (hne : g1 ≠ gE) (hE : WX.heap.size ≤ gE) : RegR WX ((((((wb.setCell ⟨gE, 0, none⟩ (.int .i64 6)).setCell ⟨gE, 1, none⟩ (.string ⟨#[102]⟩)).setCell ⟨gE, 2, none⟩ (.int .i64 0)).setCell ⟨gE, 3, none⟩ (.slice (some ⟨wb.heap.size, 0, none⟩) 2 2)).setCell ⟨gE, 4, none⟩ (.int .i64 0)).alloc (.cells #[.int .i64 34, .string ⟨#[120]⟩, .int .i64 0, .slice none 0 0, .int .i64 0, .int .i64 8, .string ⟨#[]⟩, .int .i64 0, .slice (some ⟨g1, 0, none⟩) 1 1, .int .i64 0] 25)) gE := by
  have s1 := Ba.size
  have s2 := Bb.size
  have b0 : Below WX.heap.size WX wb := Ba.trans (Bb.mono s1)
  have k1 := Zb.sets5 (.int .i64 6) (.string ⟨#[102]⟩) (.int .i64 0) (.slice (some ⟨wb.heap.size, 0, none⟩) 2 2) (.int .i64 0)
  have k2 := Gb.past5 hne (.int .i64 6) (.string ⟨#[102]⟩) (.int .i64 0) (.slice (some ⟨wb.heap.size, 0, none⟩) 2 2) (.int .i64 0)
  have b1 : Below WX.heap.size WX (((((wb.setCell ⟨gE, 0, none⟩ (.int .i64 6)).setCell ⟨gE, 1, none⟩ (.string ⟨#[102]⟩)).setCell ⟨gE, 2, none⟩ (.int .i64 0)).setCell ⟨gE, 3, none⟩ (.slice (some ⟨wb.heap.size, 0, none⟩) 2 2)).setCell ⟨gE, 4, none⟩ (.int .i64 0)) := ((((b0.setCell (p := ⟨gE, 0, none⟩) hE _).setCell (p := ⟨gE, 1, none⟩) hE _).setCell (p := ⟨gE, 2, none⟩) hE _).setCell (p := ⟨gE, 3, none⟩) hE _).setCell (p := ⟨gE, 4, none⟩) hE _
  have hs : (((((wb.setCell ⟨gE, 0, none⟩ (.int .i64 6)).setCell ⟨gE, 1, none⟩ (.string ⟨#[102]⟩)).setCell ⟨gE, 2, none⟩ (.int .i64 0)).setCell ⟨gE, 3, none⟩ (.slice (some ⟨wb.heap.size, 0, none⟩) 2 2)).setCell ⟨gE, 4, none⟩ (.int .i64 0)).heap.size = wb.heap.size := by simp
  generalize (((((wb.setCell ⟨gE, 0, none⟩ (.int .i64 6)).setCell ⟨gE, 1, none⟩ (.string ⟨#[102]⟩)).setCell ⟨gE, 2, none⟩ (.int .i64 0)).setCell ⟨gE, 3, none⟩ (.slice (some ⟨wb.heap.size, 0, none⟩) 2 2)).setCell ⟨gE, 4, none⟩ (.int .i64 0)) = W5 at k1 k2 b1 hs ⊢
  have h2 : Below W5.heap.size W5 (W5.alloc (.cells #[.int .i64 34, .string ⟨#[120]⟩, .int .i64 0, .slice none 0 0, .int .i64 0, .int .i64 8, .string ⟨#[]⟩, .int .i64 0, .slice (some ⟨g1, 0, none⟩) 1 1, .int .i64 0] 25)) := (Below.refl _ _).alloc (Nat.le_refl _) _
  refine ⟨wb.heap.size, g1, b1.trans (h2.mono (by omega)), k1.below h2, ?_, k2.below h2⟩
  rw [← hs]
  exact Blk.new _ _ _

end Go.Proofs.YtppnhaacmhfenaaGreatDoor
