/-
  Tokens of whatever numbers: how they lie in memory, and what the program tells of them.
-/
import Derived.Test.YtpidccdgkkcljaaGreatDoorJoin
namespace Go.Proofs.YtpidccdgkkcljaaGreatDoor
open Go.RowKit Go.Shelf Go.Maps
set_option linter.unusedVariables false

/-- A token, its numbers whatever they are. -/
structure Tg where
  kind : Int
  text : List UInt8
  num : Int
  pos : Int
  line : Int
  col : Int
  first : Bool
def tgC (t : Tg) : List Value := [.int .i64 t.kind, .string (bs t.text), .int .i64 t.num, .int .i64 t.pos, .int .i64 t.line, .int .i64 t.col, .bool t.first]
/-- Tokens that lie in a block, one behind the other. -/
def TgAt (W : World) (g off : Nat) (ts : List Tg) : Prop := ∀ (k : Nat) (h : k < ts.length) (q : Nat) (u : Value), (tgC ts[k])[q]? = some u → W.cell? ⟨g, off + k * 7 + q, none⟩ = some u
theorem TgAt.below {W W' : World} {g off : Nat} {ts : List Tg} (h : TgAt W g off ts) (hg : g < W.heap.size) (hb : Below W.heap.size W W') : TgAt W' g off ts := fun k hk q u hu => (hb.cell (p := ⟨g, off + k * 7 + q, none⟩) hg).trans (h k hk q u hu)
theorem TgAt.belowB {W W' : World} {B g off : Nat} {ts : List Tg} (h : TgAt W g off ts) (hg : g < B) (hb : Below B W W') : TgAt W' g off ts := fun k hk q u hu => (hb.cell (p := ⟨g, off + k * 7 + q, none⟩) hg).trans (h k hk q u hu)

/-- A slice that has such tokens; it may be nil where there are none. -/
def TgIn (W : World) (o : Option Addr) (ts : List Tg) : Prop := ts = [] ∨ ∃ g off, o = some ⟨g, off, none⟩ ∧ g < W.heap.size ∧ TgAt W g off ts
theorem TgIn.below {W W' : World} {o : Option Addr} {ts : List Tg} (h : TgIn W o ts) (hb : Below W.heap.size W W') : TgIn W' o ts := by
  rcases h with h | ⟨g, off, rfl, hg, hT⟩
  · exact .inl h
  · exact .inr ⟨g, off, rfl, by have := hb.size; omega, hT.below hg hb⟩
theorem TgIn.belowB {W W' : World} {o : Option Addr} {ts : List Tg} (h : TgIn W o ts) (hb : Below W.heap.size W W') : TgIn W' o ts := h.below hb
theorem TgIn.at {W : World} {o : Option Addr} {ts : List Tg} (h : TgIn W o ts) (k : Nat) (hk : k < ts.length) : ∃ g off, o = some ⟨g, off, none⟩ ∧ g < W.heap.size ∧ TgAt W g off ts := by
  rcases h with rfl | h
  · cases hk
  · exact h

def txG (t : Tg) : List UInt8 := txM t.kind t.text t.num
theorem txG_len (t : Tg) (hn : t.num ≤ 9223372036854775807) : (txG t).length ≤ 6 * t.text.length + 30 := by
  unfold txG txM
  split
  · obtain ⟨m, hm⟩ : ∃ m : Nat, max t.num 0 = (m : Int) := ⟨(max t.num 0).toNat, by omega⟩
    rw [hm, Lib.itoa_nonneg]
    have := dec_len 19 m (by omega)
    omega
  · split
    · unfold quM
      have := flat_len 39 [] [UInt8.ofNat (min (max t.num 0) 255).toNat]
      simp only [List.length_cons, List.length_append, List.length_nil] at this ⊢
      omega
    · split
      · unfold quM
        have := flat_len 34 [92, 38] t.text
        simp only [List.length_cons, List.length_append, List.length_nil] at this ⊢
        omega
      · split
        · omega
        · simp

theorem textG_c (t : Tg) (hn : t.num ≤ 9223372036854775807) (hx : t.text.length ≤ 70000) (w : World) (hG : GOK w) :
    Calls Tryz.prog 16 #[.agg #[.int .i64 t.kind, .string (bs t.text), .int .i64 t.num, .int .i64 t.pos, .int .i64 t.line, .int .i64 t.col, .bool t.first]] w fun e W' => e = .returned (.string (bs (txG t))) ∧ Below w.heap.size w W' := by
  obtain ⟨k, tx, num, pos, line, col, first⟩ := t
  simp only at hn hx ⊢
  unfold txG
  simp only
  by_cases h : k < 1 ∨ 10 < k
  · exact textNone_c k h tx num pos line col first w
  · obtain ⟨m, rfl⟩ : ∃ m : Nat, k = (m : Int) := ⟨k.toNat, by omega⟩
    by_cases h5 : m = 5
    · subst h5; exact textInt_c tx num hn pos line col first w hG
    · by_cases h6 : m = 6
      · subst h6; exact textChar_c tx num pos line col first w hG
      · by_cases h7 : m = 7
        · subst h7; exact textStr_c tx hx num pos line col first w hG
        · have hp : plainT m := by unfold plainT; omega
          rw [txM_plain m hp]
          exact text_plain m hp (bs tx) num pos line col first w

set_option maxHeartbeats 4000000 in
set_option maxRecDepth 100000 in
theorem joinG_c (ts : List Tg) (o : Option Addr) (cap : Nat) (hn : ts.length ≤ 5000) (hb : ∀ t ∈ ts, t.num ≤ 9223372036854775807 ∧ t.text.length ≤ 5000) (w : World) (hG : GOK w) (h : TgIn w o ts) :
    Calls Tryz.prog 19 #[.slice o ts.length cap] w fun r W' => r = .returned (.string (bs (joinM (ts.map txG)))) ∧ Below w.heap.size w W' := by
  have HT : Hid (∀ (t : Tg), t ∈ ts → ∀ W : World, Below w.heap.size w W → Calls Tryz.prog 16 #[.agg #[.int .i64 t.kind, .string (bs t.text), .int .i64 t.num, .int .i64 t.pos, .int .i64 t.line, .int .i64 t.col, .bool t.first]] W fun e W' => e = .returned (.string (bs (txG t))) ∧ Below W.heap.size W W') := fun t ht W hW => textG_c t (hb t ht).1 (by have := (hb t ht).2; omega) W (hG.below hW)
  obtain ⟨m, hm⟩ : ∃ m, ts.length = m := ⟨_, rfl⟩
  have HM : Hid (ts.length = m) := hm
  have HN : Hid (m ≤ 5000) := by rw [← hm]; exact hn
  have HB : Hid (∀ t ∈ ts, t.num ≤ 9223372036854775807 ∧ t.text.length ≤ 5000) := hb
  have hmi : (m : Int) ≤ 5000 := by omega
  have HR : Hid (TgIn w o ts) := h
  have hmk : ∀ W : World, (Instr.makeSlice 32 (.int .i64 (m : Int)) (.int .i64 (m : Int))).run Tryz.prog W = .ok (.slice (some ⟨W.heap.size, 0, none⟩) m m) (W.alloc (.cells (madeCells #[.string ⟨#[]⟩] m) 9)) := fun W => run_make_row' 32 9 (.string ⟨#[]⟩) 16 Tryz.underlying32 Tryz.info9 rfl .i64 .i64 m (by omega) (by omega) W
  have HJ : Hid (∀ (W : World) (A : Array Value), Blk W w.heap.size A 9 → (∀ j (h : j < ts.length), A[j]? = some (.string (bs (txG ts[j])))) → Calls Tryz.prog 45 #[.slice (some ⟨w.heap.size, 0, none⟩) m m, .string (ByteArray.mk #[32])] W fun r W' => r = .returned (.string (bs (joinM (ts.map txG)))) ∧ Below W.heap.size W W') := by
    intro W A hA hc
    have hxl : (ts.map fun t => bs (txG t)).length = m := by rw [List.length_map]; exact HM.out
    have hmap : (ts.map fun t => bs (txG t)).map (·.data.toList) = ts.map txG := by rw [List.map_map]; rfl
    have hbd : (joinM (ts.map txG)).length ≤ 5000 * 30031 := by
      have h1 := join_bound 30030 (ts.map txG) (by
        intro u hu
        obtain ⟨t, ht, rfl⟩ := List.mem_map.1 hu
        have h2 := HB.out t ht
        have h3 := txG_len t h2.1
        omega)
      rw [List.length_map, HM.out] at h1
      have h2 := HN.out
      exact Nat.le_trans h1 (Nat.mul_le_mul_right _ h2)
    have := Tryz.strings_Join w.heap.size 0 m (ts.map fun t => bs (txG t)) (ByteArray.mk #[32]) W (by
      intro j x hx
      rw [Nat.zero_add]
      obtain ⟨hj, rfl⟩ := List.getElem?_eq_some_iff.1 hx
      have hj' : j < ts.length := by simpa using hj
      have := hA.cell j _ (hc j hj')
      simpa using this) hA.lt (by rw [hxl]; have := HN.out; omega) (by rw [hxl]; exact Nat.le_refl _) (by rw [hmap]; show (Lib.join _ [32]).length ≤ _; rw [inter_join]; omega)
    rw [hxl, hmap] at this
    have e : Lib.join (ts.map txG) (ByteArray.mk #[32]).data.toList = joinM (ts.map txG) := inter_join _
    rw [e] at this
    exact this
  rw [hm]
  clear h hG hb hn hm
  go_enter Tryz.func19, Tryz.ntmps19
  go_wp2
  have hA0 : Hid (Blk (w.alloc (.cells (madeCells #[.string ⟨#[]⟩] m) 9)) w.heap.size (madeCells #[.string ⟨#[]⟩] m) 9) := Blk.new w _ _
  have hB0 : Hid (Below w.heap.size w (w.alloc (.cells (madeCells #[.string ⟨#[]⟩] m) 9))) := (Below.refl _ w).alloc (Nat.le_refl _) _
  go_loopw [11] (fun i wr => ∃ (k : Nat) (A : Array Value), k ≤ m ∧ i = .int .i64 k ∧ Hid (Blk wr w.heap.size A 9) ∧ Hid (A.size = m) ∧ Hid (∀ j (h : j < ts.length), j < k → A[j]? = some (.string (bs (txG ts[j])))) ∧ Hid (Below w.heap.size w wr)) (fun i _ => m - (intOf i).toNat)
  case atStart => exact ⟨0, _, Nat.zero_le _, rfl, hA0, size_madeCells _ _, fun j h hj => by omega, hB0⟩
  case round =>
    obtain ⟨k, A, hk, rfl, hA, hsz, hc, hB⟩ := hrel
    clear hA0 hB0
    by_cases hlt : k < m
    · have hkL : k < ts.length := by rw [HM.out]; exact hlt
      have hki : (k : Int) < (m : Int) := by omega
      obtain ⟨g, off, rfl, hg, hTA⟩ := HR.out.at k hkL
      have hcell := fun q u hu => (hB.out.cell (p := ⟨g, off + k * 7 + q, none⟩) hg).trans (hTA k hkL q u hu)
      have c0 := hcell 0 _ rfl
      rw [Nat.add_zero] at c0
      have c1 := hcell 1 _ rfl
      have c2 := hcell 2 _ rfl
      have c3 := hcell 3 _ rfl
      have c4 := hcell 4 _ rfl
      have c5 := hcell 5 _ rfl
      have c6 := hcell 6 _ rfl
      have hTk : Hid (∀ W : World, Below w.heap.size w W → Calls Tryz.prog 16 #[.agg #[.int .i64 ts[k].kind, .string (bs ts[k].text), .int .i64 ts[k].num, .int .i64 ts[k].pos, .int .i64 ts[k].line, .int .i64 ts[k].col, .bool ts[k].first]] W fun e W' => e = .returned (.string (bs (txG ts[k]))) ∧ Below W.heap.size W W') := fun W hW => HT.out ts[k] (List.getElem_mem hkL) W hW
      have hcn : Hid (∀ (B : Array Value), (∀ j, j ≠ k → B[j]? = A[j]?) → B[k]? = some (.string (bs (txG ts[k]))) → ∀ j (h : j < ts.length), j < k + 1 → B[j]? = some (.string (bs (txG ts[j])))) := by
        intro B h1 h2 j hj hjk
        by_cases hjk' : j = k
        · subst hjk'; exact h2
        · rw [h1 j hjk']; exact hc.out j hj (by omega)
      generalize ts[k] = t at c0 c1 c2 c3 c4 c5 c6 hTk hcn
      obtain ⟨tk, tt, tn, pos, line, col, first⟩ := t
      simp only at c0 c1 c2 c3 c4 c5 c6 hTk hcn
      generalize txG ⟨tk, tt, tn, pos, line, col, first⟩ = tx at hTk hcn
      have hgr : g < wr.heap.size := by have := hB.out.size; omega
      have hGr : w.heap.size < wr.heap.size := hA.out.lt
      clear hcell hkL hc hTA HR
      go_wp2_with (go_at_call 16; fail)
      refine (hTk.out _ (hB.out.alloc hB.out.size _)).mono ?_
      rintro r w2 ⟨rfl, hb2⟩
      have hA2 : Hid (Blk w2 w.heap.size A 9) := (hA.out.alloc _).below hb2
      have hB2 : Hid (Below w.heap.size w w2) := (hB.out.alloc hB.out.size _).trans (hb2.mono (by have := hB.out.size; simp; omega))
      have hk2 : ∃ u, A[k]? = some u := ⟨_, Array.getElem?_eq_getElem (by have := hsz.out; omega)⟩
      obtain ⟨u, hu⟩ := hk2
      have d0 := hA2.out.cell k u hu
      have d1 := hA2.out.frozen k
      clear hb2 hA hB c0 c1 c2 c3 c4 c5 c6 hu
      go_wp2
      go_roundw
      case rel => exact ⟨k + 1, A.setIfInBounds k (.string (bs tx)), by omega, by go_num, hA2.out.set k _, by show _ = _; rw [Array.size_setIfInBounds]; exact hsz.out, hcn.out _ (fun j hj => by rw [Array.getElem?_setIfInBounds, if_neg (fun e => hj e.symm)]) (by rw [Array.getElem?_setIfInBounds, if_pos rfl, if_pos (by have := hsz.out; omega)]), hB2.out.setCell (p := ⟨w.heap.size, k, none⟩) (Nat.le_refl _) _⟩
      case measure => simp [intOf]; omega
    · obtain rfl : k = m := by omega
      have hJ : Hid (Calls Tryz.prog 45 #[.slice (some ⟨w.heap.size, 0, none⟩) k k, .string (ByteArray.mk #[32])] wr fun r W' => r = .returned (.string (bs (joinM (ts.map txG)))) ∧ Below wr.heap.size wr W') := HJ.out wr A hA.out (fun j hj => hc.out j hj (by rw [← HM.out]; exact hj))
      go_wp2_with (go_at_call 45; fail)
      refine hJ.out.mono ?_
      rintro r w2 ⟨rfl, hb2⟩
      have hB2 : Hid (Below w.heap.size w w2) := hB.out.trans (hb2.mono hB.out.size)
      clear hb2
      go_wp2
      go_ret
      exact ⟨rfl, hB2.out⟩

end Go.Proofs.YtpidccdgkkcljaaGreatDoor
