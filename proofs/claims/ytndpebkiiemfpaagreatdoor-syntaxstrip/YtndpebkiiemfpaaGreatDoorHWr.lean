/-
  Tokens written into a builder through an interface, by a contract.
-/
import Derived.Test.YtndpebkiiemfpaaGreatDoorHTx
import Derived.Test.YtndpebkiiemfpaaGreatDoorHTa
import Derived.Shelf.Strings.BuilderK
namespace Go.Proofs.YtndpebkiiemfpaaGreatDoor
open Go.RowKit Go.Shelf Go.Maps
set_option linter.unusedVariables false

theorem methW (b : Nat) (w : World) : (method 334 58 (.pointer (some ⟨b, 0, none⟩)) "WriteString").run Tryz.prog w = .ok (141, .pointer (some ⟨b, 0, none⟩)) w := by kernel_rfl
theorem nilW (b : Nat) (w : World) : (nilAhead 334 58 (.pointer (some ⟨b, 0, none⟩)) "WriteString").run Tryz.prog w = .ok (some false) w := by kernel_rfl
theorem gok_b {b : Nat} {w W : World} (h : GOK w) (hb : 6 ≤ b) (hB : Below b w W) : GOK W := by
  have hs := h.size
  obtain ⟨e1, k1, r1⟩ := h.syn
  obtain ⟨e2, k2, r2⟩ := h.rng
  have hB : Below 6 w W := hB.mono hb
  refine ⟨⟨e1, ?_, r1⟩, ⟨e2, ?_, r2⟩, ?_, Nat.le_trans hs hB.size⟩
  · exact (hB.cell (p := ⟨4, 0, none⟩) (by show 4 < 6; decide)).trans k1
  · exact (hB.cell (p := ⟨5, 0, none⟩) (by show 5 < 6; decide)).trans k2
  · have hn : Tryz.prog.globalNamed "internal/strconv.uint64pow10" = some 0 := by kernel_rfl
    have hp := h.pow
    simp only [Lib.TabIs, World.var?, hn, Option.bind_some] at hp ⊢
    rw [hB.block 0 (by decide)]
    exact hp
theorem ownsF_blk {W W' : World} {b e z n : Nat} {v : Value} {xs : List Value} (h : W.ownsRowF b e z v n xs) (hb : ∀ g, v.ownBlock = some g → g < W.heap.size → W'.heap[g]? = W.heap[g]?) : W'.ownsRowF b e z v n xs := by
  rcases h with ⟨hl, h | ⟨g, cap, cur, fz, h1, h2, h3, h4⟩⟩
  · exact ⟨hl, .inl h⟩
  · exact ⟨hl, .inr ⟨g, cap, cur, fz, h1, h2, by rw [hb g (by rw [h1]; rfl) (Array.getElem?_eq_some_iff.1 h3).1]; exact h3, h4⟩⟩
theorem bldF_below {T e : TypeId} {B b : Nat} {p : Value} {l : List Value} {w w' : World} (h : Lib.BuilderAtF T e B b p l w) (hb : Below w.heap.size w w') : Lib.BuilderAtF T e B b p l w' := by
  obtain ⟨hB, v, hk, ho, hne⟩ := h
  exact ⟨hB, v, by rw [hb.block b (Array.getElem?_eq_some_iff.1 hk).1]; exact hk, ownsF_blk ho (fun g _ hg => hb.block g hg), hne⟩
theorem isbF_below {T e : TypeId} {B b : Nat} {l : List Value} {w w' : World} (h : Lib.IsBuilderF T e B b l w) (hb : Below w.heap.size w w') : Lib.IsBuilderF T e B b l w' := h.elim (fun x => .inl (bldF_below x hb)) (fun x => .inr (bldF_below x hb))
theorem isbF_lt {T e : TypeId} {B b : Nat} {l : List Value} {w : World} (h : Lib.IsBuilderF T e B b l w) : b < w.heap.size := by
  rcases h with ⟨_, v, hk, _⟩ | ⟨_, v, hk, _⟩ <;> exact (Array.getElem?_eq_some_iff.1 hk).1
theorem writeStrK_c (B b : Nat) (l : List Value) (s : ByteArray) (w : World) (h : Lib.IsBuilderF 61 5 B b l w) (hlen : l.length + s.size ≤ 140737488355328) (hBw : B ≤ w.heap.size) :
    Calls Tryz.prog 141 #[.pointer (some ⟨b, 0, none⟩), .string s] w fun e w' => e = .returned (.tuple #[.int .i64 s.size, .nilIface]) ∧ (Lib.BuilderAtF 61 5 B b (.pointer (some ⟨b, 0, none⟩)) (l ++ Lib.strCells s) w' ∧ Below B w w' ∧ Lib.OthersKept 5 (some b) w w') := Any.Builder_WriteString_k bLays166 bExtra B b l s w h hlen hBw
theorem builderStrK_c (B b : Nat) (l : List UInt8) (w : World) (h : Lib.IsBuilderF 61 5 B b (Lib.byteCells l) w) (hBw : B ≤ w.heap.size) :
    Calls Tryz.prog 25 #[.pointer (some ⟨b, 0, none⟩)] w fun e w' => e = .returned (.string ⟨l.toArray⟩) ∧ Below B w w' := (Any.Builder_String_any_k bLays169 bExtra B b l w h hBw).mono (fun e w' h => ⟨h.1, h.2.2.1⟩)

/-- Tokens that lie in a block, one behind the other. -/
def TkAt (W : World) (g off : Nat) (ts : List TkT) : Prop := ∀ (k : Nat) (h : k < ts.length) (q : Nat) (u : Value), (tC ts[k])[q]? = some u → W.cell? ⟨g, off + k * 7 + q, none⟩ = some u
def TkIn (W : World) (b : Nat) (o : Option Addr) (ts : List TkT) : Prop := ts = [] ∨ ∃ g off, o = some ⟨g, off, none⟩ ∧ g < b ∧ TkAt W g off ts
theorem TkIn.below {W W' : World} {b : Nat} {o : Option Addr} {ts : List TkT} (h : TkIn W b o ts) (hb : Below b W W') : TkIn W' b o ts := by
  rcases h with h | ⟨g, off, rfl, hg, hT⟩
  · exact .inl h
  · exact .inr ⟨g, off, rfl, hg, fun k hk q u hu => (hb.cell (p := ⟨g, off + k * 7 + q, none⟩) hg).trans (hT k hk q u hu)⟩
def txT (t : TkT) : List UInt8 := txM t.kind t.text t.num
def jnF (t : TkT) : List UInt8 := 32 :: txT t
def jnT (ts : List TkT) : List UInt8 := (ts.flatMap jnF).drop 1
theorem jn_first (ts : List TkT) (h : 0 < ts.length) : jnT (ts.take 1) = jnT (ts.take 0) ++ txT ts[0] := by
  match ts, h with
  | t :: ts, _ => simp [jnT, jnF]
theorem jn_next (ts : List TkT) (k : Nat) (hk : 0 < k) (h : k < ts.length) : jnT (ts.take (k + 1)) = (jnT (ts.take k) ++ [32]) ++ txT ts[k] := by
  unfold jnT
  rw [List.take_succ_eq_append_getElem h, List.flatMap_append, List.flatMap_singleton]
  match ts, k, hk, h with
  | t :: ts, k + 1, _, h => simp [jnF]
theorem jn_len (ts : List TkT) (k : Nat) : (jnT (ts.take k)).length ≤ (ts.flatMap jnF).length := by
  have : ts.flatMap jnF = (ts.take k).flatMap jnF ++ (ts.drop k).flatMap jnF := by rw [← List.flatMap_append, List.take_append_drop]
  unfold jnT
  rw [this, List.length_drop, List.length_append]; omega

set_option maxRecDepth 100000 in
set_option maxHeartbeats 4000000 in
theorem write_c (ts : List TkT) (o : Option Addr) (cap b : Nat) (w : World) (hG : GOK w) (hGb : 6 ≤ b) (hbl : Lib.IsBuilderF 61 5 b b (Lib.byteCells []) w) (hin : TkIn w b o ts) (hx : ∀ t ∈ ts, t.num ≤ 9223372036854775807 ∧ t.text.length ≤ 70000) (hJ : (ts.flatMap jnF).length ≤ 1000000000) (hL : ts.length ≤ 1000000000) :
    Calls Tryz.prog 24 #[.iface 58 (.pointer (some ⟨b, 0, none⟩)), .slice o ts.length cap] w fun e W' => e = .returned (.tuple #[]) ∧ Lib.IsBuilderF 61 5 b b (Lib.byteCells (jnT ts)) W' ∧ Below b w W' := by
  obtain ⟨L, hLe⟩ : ∃ L, ts.length = L := ⟨_, rfl⟩
  have HL : Hid (ts.length = L) := hLe
  have HG : Hid (GOK w) := hG
  have HGb : Hid (6 ≤ b) := hGb
  have HIn : Hid (TkIn w b o ts) := hin
  have HX : Hid (∀ t ∈ ts, t.num ≤ 9223372036854775807 ∧ t.text.length ≤ 70000) := hx
  have HJ : Hid (∀ k, (jnT (ts.take k)).length ≤ 1000000000) := fun k => Nat.le_trans (jn_len ts k) hJ
  have HS : Hid (Lib.IsBuilderF 61 5 b b (Lib.byteCells (jnT (ts.take 0))) w) := hbl
  have hLi : (L : Int) ≤ 9223372036854775807 := by omega
  have hm := methW
  have hnw := nilW
  rw [hLe]
  clear hG hGb hbl hin hx hJ hL hLe
  go_enter Tryz.func24, Tryz.ntmps24
  go_wp2
  go_loopw [8] (fun i wr => ∃ k : Nat, k ≤ L ∧ i = .int .i64 k ∧ Hid (Lib.IsBuilderF 61 5 b b (Lib.byteCells (jnT (ts.take k))) wr) ∧ Hid (Below b w wr)) (fun i _ => L - (intOf i).toNat)
  case atStart => exact ⟨0, Nat.zero_le _, rfl, HS, Below.refl _ _⟩
  case round =>
    obtain ⟨k, hk, rfl, hA, hB⟩ := hrel
    by_cases hlt : k < L
    · have hkL : k < ts.length := by rw [HL.out]; exact hlt
      have hki : (k : Int) < (L : Int) := by omega
      obtain ⟨g, off, rfl, hg, hTk⟩ : ∃ g off, o = some ⟨g, off, none⟩ ∧ g < b ∧ TkAt wr g off ts := by
        rcases HIn.out.below hB.out with h | h
        · rw [h] at hkL; cases hkL
        · exact h
      have hbr := isbF_lt hA.out
      have hgr : g < wr.heap.size := by omega
      have hxk := HX.out ts[k] (List.getElem_mem hkL)
      have k0 : wr.cell? ⟨g, off + k * 7, none⟩ = some (.int .i64 ts[k].kind) := hTk k hkL 0 _ rfl
      have k1 := hTk k hkL 1 _ rfl
      have k2 := hTk k hkL 2 _ rfl
      have k3 := hTk k hkL 3 _ rfl
      have k4 := hTk k hkL 4 _ rfl
      have k5 := hTk k hkL 5 _ rfl
      have k6 := hTk k hkL 6 _ rfl
      have HTx : Hid (∀ X : World, GOK X → Calls Tryz.prog 48 #[.agg (#[.int .i64 ts[k].kind, .string (bs ts[k].text), .int .i64 ts[k].num, .int .i64 0, .int .i64 0, .int .i64 0, .bool false])] X fun e W' => e = .returned (.string (bs (txT ts[k]))) ∧ Below X.heap.size X W') := fun X hX => textG_c ⟨ts[k].kind, ts[k].text, ts[k].num, 0, 0, 0, false⟩ hxk.1 hxk.2 X hX
      have Hfst : Hid (k = 0 → jnT (ts.take (k + 1)) = jnT (ts.take k) ++ txT ts[k]) := by
        intro hz; subst hz; exact jn_first ts hkL
      have Hnxt : Hid (0 < k → jnT (ts.take (k + 1)) = (jnT (ts.take k) ++ [32]) ++ txT ts[k]) := fun hz => jn_next ts k hz hkL
      generalize ts[k] = t at k0 k1 k2 k3 k4 k5 k6 HTx Hfst Hnxt
      obtain ⟨W0, hW0⟩ : ∃ W0, wr.alloc (.cells #[.int .i64 t.kind, .string (bs t.text), .int .i64 t.num, .int .i64 0, .int .i64 0, .int .i64 0, .bool false] 39) = W0 := ⟨_, rfl⟩
      have hAl : Below wr.heap.size wr W0 := by rw [← hW0]; exact (Below.refl _ _).alloc (Nat.le_refl _) _
      have hBox : Blk W0 wr.heap.size #[.int .i64 t.kind, .string (bs t.text), .int .i64 t.num, .int .i64 0, .int .i64 0, .int .i64 0, .bool false] 39 := by rw [← hW0]; exact Blk.new _ _ _
      have HW0 : Hid (wr.alloc (.cells #[.int .i64 t.kind, .string (bs t.text), .int .i64 t.num, .int .i64 0, .int .i64 0, .int .i64 0, .bool false] 39) = W0) := hW0
      have HA0 : Hid (Lib.IsBuilderF 61 5 b b (Lib.byteCells (jnT (ts.take k))) W0) := isbF_below hA.out hAl
      have HB0 : Hid (Below b w W0) := hB.out.trans (hAl.mono (by omega))
      have HBx : Hid (Blk W0 wr.heap.size #[.int .i64 t.kind, .string (bs t.text), .int .i64 t.num, .int .i64 0, .int .i64 0, .int .i64 0, .bool false] 39) := hBox
      have Hbr : Hid (b < wr.heap.size) := hbr
      clear hW0 hAl hBox hTk hxk hkL hA hB hbr
      by_cases hz : k = 0
      · have hz1 : (k : Int) ≤ 0 := by omega
        have Hz : Hid (k = 0) := hz
        clear hz
        have HT0 : Hid (∀ X : World, Below W0.heap.size W0 X → Calls Tryz.prog 48 #[.agg #[.int .i64 t.kind, .string (bs t.text), .int .i64 t.num, .int .i64 0, .int .i64 0, .int .i64 0, .bool false]] X fun e W' => e = .returned (.string (bs (txT t))) ∧ Below X.heap.size X W') := fun X hX => HTx.out X ((gok_b HG.out HGb.out HB0.out).below hX)
        have HW1 : Hid (∀ X : World, Below W0.heap.size W0 X → Calls Tryz.prog 141 #[.pointer (some ⟨b, 0, none⟩), .string (bs (txT t))] X fun e W' => e = .returned (.tuple #[.int .i64 (bs (txT t)).size, .nilIface]) ∧ Lib.IsBuilderF 61 5 b b (Lib.byteCells (jnT (ts.take (k + 1)))) W' ∧ Below b w W') := by
          intro X hX
          have hlt0 := isbF_lt HA0.out
          refine (writeStrK_c b b _ (bs (txT t)) X (isbF_below HA0.out hX) ?_ (by have := hX.size; omega)).mono ?_
          · have := HJ.out (k + 1)
            rw [Hfst.out Hz.out, List.length_append] at this
            rw [Lib.byteCells_length, bs_size]; omega
          · rintro e W' ⟨rfl, h1, h2, -⟩
            rw [cells_bs] at h1
            rw [Hfst.out Hz.out]
            exact ⟨rfl, .inr h1, HB0.out.trans ((hX.mono (by omega)).trans h2)⟩
        go_wp2
        rw [HW0.out]
        have hBk := HBx.out
        have b0 : W0.cell? ⟨wr.heap.size, 0, none⟩ = some (.int .i64 t.kind) := hBk.cell 0 _ rfl
        have b1 : W0.cell? ⟨wr.heap.size, 1, none⟩ = some (.string (bs t.text)) := hBk.cell 1 _ rfl
        have b2 : W0.cell? ⟨wr.heap.size, 2, none⟩ = some (.int .i64 t.num) := hBk.cell 2 _ rfl
        have b3 : W0.cell? ⟨wr.heap.size, 3, none⟩ = some (.int .i64 0) := hBk.cell 3 _ rfl
        have b4 : W0.cell? ⟨wr.heap.size, 4, none⟩ = some (.int .i64 0) := hBk.cell 4 _ rfl
        have b5 : W0.cell? ⟨wr.heap.size, 5, none⟩ = some (.int .i64 0) := hBk.cell 5 _ rfl
        have b6 : W0.cell? ⟨wr.heap.size, 6, none⟩ = some (.bool false) := hBk.cell 6 _ rfl
        have hlk := hBk.lt
        clear hBk k0 k1 k2 k3 k4 k5 k6 hgr
        go_region_with (first
          | (go_at_call 48; refine (HT0.out _ (by first | exact Below.refl _ _ | exact (Below.refl _ _).drew)).mono ?_; rintro e w3 ⟨rfl, hb3⟩; have HB3 : Hid (Below W0.heap.size W0 w3) := (by first | exact hb3 | exact ((Below.refl W0.heap.size W0).drew).trans hb3); clear hb3)
          | (go_at_call 141; refine (HW1.out _ (by first | exact HB3.out | exact HB3.out.drew)).mono ?_; rintro e w4 ⟨rfl, hA4, hb4⟩; have HA4 : Hid (Lib.IsBuilderF 61 5 b b (Lib.byteCells (jnT (ts.take (k + 1)))) w4) := hA4; have HB4 : Hid (Below b w w4) := hb4; clear hA4 hb4))
        all_goals
          go_wp2
          go_roundw
          case rel => exact ⟨k + 1, by omega, by go_num, HA4, HB4⟩
          case measure => simp [intOf]; omega
      · have hz1 : (0 : Int) < (k : Int) := by omega
        have hz2 : 0 < k := by omega
        have Hz : Hid (0 < k) := hz2
        have HSp : Hid (Calls Tryz.prog 141 #[.pointer (some ⟨b, 0, none⟩), .string ⟨#[32]⟩] W0 fun e W' => e = .returned (.tuple #[.int .i64 1, .nilIface]) ∧ Lib.IsBuilderF 61 5 b b (Lib.byteCells (jnT (ts.take k) ++ [32])) W' ∧ Below b w W' ∧ Blk W' wr.heap.size #[.int .i64 t.kind, .string (bs t.text), .int .i64 t.num, .int .i64 0, .int .i64 0, .int .i64 0, .bool false] 39) := by
          have hlt0 := isbF_lt HA0.out
          refine (writeStrK_c b b _ ⟨#[32]⟩ W0 HA0.out ?_ (by omega)).mono ?_
          · have := HJ.out k
            rw [Lib.byteCells_length]; show _ + 1 ≤ _; omega
          · rintro e W' ⟨rfl, h1, h2, h3⟩
            have e1 : Lib.byteCells (jnT (ts.take k)) ++ Lib.strCells ⟨#[32]⟩ = Lib.byteCells (jnT (ts.take k) ++ [32]) := cells_bs _ [32]
            rw [e1] at h1
            refine ⟨rfl, .inr h1, HB0.out.trans h2, ?_⟩
            exact h3 _ _ HBx.out (by have := Hbr.out; intro e; cases e; omega) (by intro c fz e; cases e)
        clear hz
        go_wp2_with (go_at_call 141; fail)
        rw [HW0.out]
        refine HSp.out.mono ?_
        rintro e w2 ⟨rfl, hA2, hb2, hx2⟩
        have HA2 : Hid (Lib.IsBuilderF 61 5 b b (Lib.byteCells (jnT (ts.take k) ++ [32])) w2) := hA2
        have HBx2 : Hid (Blk w2 wr.heap.size #[.int .i64 t.kind, .string (bs t.text), .int .i64 t.num, .int .i64 0, .int .i64 0, .int .i64 0, .bool false] 39) := hx2
        have HB2 : Hid (Below b w w2) := hb2
        have HT0 : Hid (∀ X : World, Below w2.heap.size w2 X → Calls Tryz.prog 48 #[.agg #[.int .i64 t.kind, .string (bs t.text), .int .i64 t.num, .int .i64 0, .int .i64 0, .int .i64 0, .bool false]] X fun e W' => e = .returned (.string (bs (txT t))) ∧ Below X.heap.size X W') := fun X hX => HTx.out X ((gok_b HG.out HGb.out HB2.out).below hX)
        have HW1 : Hid (∀ X : World, Below w2.heap.size w2 X → Calls Tryz.prog 141 #[.pointer (some ⟨b, 0, none⟩), .string (bs (txT t))] X fun e W' => e = .returned (.tuple #[.int .i64 (bs (txT t)).size, .nilIface]) ∧ Lib.IsBuilderF 61 5 b b (Lib.byteCells (jnT (ts.take (k + 1)))) W' ∧ Below b w W') := by
          intro X hX
          have hlt0 := isbF_lt HA2.out
          refine (writeStrK_c b b _ (bs (txT t)) X (isbF_below HA2.out hX) ?_ (by have := hX.size; omega)).mono ?_
          · have := HJ.out (k + 1)
            rw [Hnxt.out Hz.out, List.length_append] at this
            rw [Lib.byteCells_length, bs_size]; omega
          · rintro e W' ⟨rfl, h1, h2, -⟩
            rw [cells_bs] at h1
            rw [Hnxt.out Hz.out]
            exact ⟨rfl, .inr h1, HB2.out.trans ((hX.mono (by omega)).trans h2)⟩
        clear hA2 hb2 hx2
        go_wp2
        have hBk := HBx2.out
        have b0 : w2.cell? ⟨wr.heap.size, 0, none⟩ = some (.int .i64 t.kind) := hBk.cell 0 _ rfl
        have b1 : w2.cell? ⟨wr.heap.size, 1, none⟩ = some (.string (bs t.text)) := hBk.cell 1 _ rfl
        have b2 : w2.cell? ⟨wr.heap.size, 2, none⟩ = some (.int .i64 t.num) := hBk.cell 2 _ rfl
        have b3 : w2.cell? ⟨wr.heap.size, 3, none⟩ = some (.int .i64 0) := hBk.cell 3 _ rfl
        have b4 : w2.cell? ⟨wr.heap.size, 4, none⟩ = some (.int .i64 0) := hBk.cell 4 _ rfl
        have b5 : w2.cell? ⟨wr.heap.size, 5, none⟩ = some (.int .i64 0) := hBk.cell 5 _ rfl
        have b6 : w2.cell? ⟨wr.heap.size, 6, none⟩ = some (.bool false) := hBk.cell 6 _ rfl
        have hlk := hBk.lt
        clear hBk k0 k1 k2 k3 k4 k5 k6 hgr
        go_region_with (first
          | (go_at_call 48; refine (HT0.out _ (by first | exact Below.refl _ _ | exact (Below.refl _ _).drew)).mono ?_; rintro e w3 ⟨rfl, hb3⟩; have HB3 : Hid (Below w2.heap.size w2 w3) := (by first | exact hb3 | exact ((Below.refl w2.heap.size w2).drew).trans hb3); clear hb3)
          | (go_at_call 141; refine (HW1.out _ (by first | exact HB3.out | exact HB3.out.drew)).mono ?_; rintro e w4 ⟨rfl, hA4, hb4⟩; have HA4 : Hid (Lib.IsBuilderF 61 5 b b (Lib.byteCells (jnT (ts.take (k + 1)))) w4) := hA4; have HB4 : Hid (Below b w w4) := hb4; clear hA4 hb4))
        all_goals
          go_wp2
          go_roundw
          case rel => exact ⟨k + 1, by omega, by go_num, HA4, HB4⟩
          case measure => simp [intOf]; omega
    · obtain rfl : k = L := by omega
      have SF : Hid (Lib.IsBuilderF 61 5 b b (Lib.byteCells (jnT ts)) wr) := by
        have h1 := hA.out
        rw [List.take_of_length_le (by rw [HL.out]; exact Nat.le_refl _)] at h1
        exact h1
      go_wp2
      go_end0
      exact ⟨rfl, SF.out, hB.out⟩

end Go.Proofs.YtndpebkiiemfpaaGreatDoor
