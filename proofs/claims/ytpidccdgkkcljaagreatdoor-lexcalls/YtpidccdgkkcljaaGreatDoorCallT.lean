/-
  Tokens of whatever numbers, by contracts.
-/
import Derived.Test.YtpidccdgkkcljaaGreatDoorJoin
import Derived.BigQuiet
import Derived.Lib.JoinLaws
namespace Go.Proofs.YtpidccdgkkcljaaGreatDoor
open Go.RowKit Go.Shelf Go.Maps
set_option linter.unusedVariables false

/-- A token, its numbers whatever they are. -/
structure Tg where
  kind : Int
  text : List UInt8
  num : Int
  pos : Int
  line : Int
  col : Int
  first : Bool
def tgC (t : Tg) : List Value := [.int .i64 t.kind, .string (bs t.text), .int .i64 t.num, .int .i64 t.pos, .int .i64 t.line, .int .i64 t.col, .bool t.first]
/-- Tokens that lie in a block, one behind the other. -/
def TgAt (W : World) (g off : Nat) (ts : List Tg) : Prop := ∀ (k : Nat) (h : k < ts.length) (q : Nat) (u : Value), (tgC ts[k])[q]? = some u → W.cell? ⟨g, off + k * 7 + q, none⟩ = some u
theorem TgAt.below {W W' : World} {g off : Nat} {ts : List Tg} (h : TgAt W g off ts) (hg : g < W.heap.size) (hb : Below W.heap.size W W') : TgAt W' g off ts := fun k hk q u hu => (hb.cell (p := ⟨g, off + k * 7 + q, none⟩) hg).trans (h k hk q u hu)
theorem TgAt.belowB {W W' : World} {B g off : Nat} {ts : List Tg} (h : TgAt W g off ts) (hg : g < B) (hb : Below B W W') : TgAt W' g off ts := fun k hk q u hu => (hb.cell (p := ⟨g, off + k * 7 + q, none⟩) hg).trans (h k hk q u hu)

/-- A slice that has such tokens; it may be nil where there are none. -/
def TgIn (W : World) (o : Option Addr) (ts : List Tg) : Prop := ts = [] ∨ ∃ g off, o = some ⟨g, off, none⟩ ∧ g < W.heap.size ∧ TgAt W g off ts
theorem TgIn.below {W W' : World} {o : Option Addr} {ts : List Tg} (h : TgIn W o ts) (hb : Below W.heap.size W W') : TgIn W' o ts := by
  rcases h with h | ⟨g, off, rfl, hg, hT⟩
  · exact .inl h
  · exact .inr ⟨g, off, rfl, by have := hb.size; omega, hT.below hg hb⟩
theorem TgIn.belowB {W W' : World} {o : Option Addr} {ts : List Tg} (h : TgIn W o ts) (hb : Below W.heap.size W W') : TgIn W' o ts := h.below hb
theorem TgIn.at {W : World} {o : Option Addr} {ts : List Tg} (h : TgIn W o ts) (k : Nat) (hk : k < ts.length) : ∃ g off, o = some ⟨g, off, none⟩ ∧ g < W.heap.size ∧ TgAt W g off ts := by
  rcases h with rfl | h
  · cases hk
  · exact h

def txG (t : Tg) : List UInt8 := txM t.kind t.text t.num
theorem txG_len (t : Tg) (hn : t.num ≤ 9223372036854775807) : (txG t).length ≤ 6 * t.text.length + 30 := by
  unfold txG txM
  split
  · obtain ⟨m, hm⟩ : ∃ m : Nat, max t.num 0 = (m : Int) := ⟨(max t.num 0).toNat, by omega⟩
    rw [hm, Lib.itoa_nonneg]
    have := dec_len 19 m (by omega)
    omega
  · split
    · unfold quM
      have := flat_len 39 [] [UInt8.ofNat (min (max t.num 0) 255).toNat]
      simp only [List.length_cons, List.length_append, List.length_nil] at this ⊢
      omega
    · split
      · unfold quM
        have := flat_len 34 [92, 38] t.text
        simp only [List.length_cons, List.length_append, List.length_nil] at this ⊢
        omega
      · split
        · omega
        · simp

theorem textG_c (t : Tg) (hn : t.num ≤ 9223372036854775807) (hx : t.text.length ≤ 70000) (w : World) (hG : GOK w) :
    Calls Tryz.prog 16 #[.agg #[.int .i64 t.kind, .string (bs t.text), .int .i64 t.num, .int .i64 t.pos, .int .i64 t.line, .int .i64 t.col, .bool t.first]] w fun e W' => e = .returned (.string (bs (txG t))) ∧ Below w.heap.size w W' := by
  obtain ⟨k, tx, num, pos, line, col, first⟩ := t
  simp only at hn hx ⊢
  unfold txG
  simp only
  by_cases h : k < 1 ∨ 10 < k
  · exact textNone_c k h tx num pos line col first w
  · obtain ⟨m, rfl⟩ : ∃ m : Nat, k = (m : Int) := ⟨k.toNat, by omega⟩
    by_cases h5 : m = 5
    · subst h5; exact textInt_c tx num hn pos line col first w hG
    · by_cases h6 : m = 6
      · subst h6; exact textChar_c tx num pos line col first w hG
      · by_cases h7 : m = 7
        · subst h7; exact textStr_c tx hx num pos line col first w hG
        · have hp : plainT m := by unfold plainT; omega
          rw [txM_plain m hp]
          exact text_plain m hp (bs tx) num pos line col first w

set_option maxHeartbeats 4000000 in
set_option maxRecDepth 100000 in
theorem joinG_c (ts : List Tg) (o : Option Addr) (cap : Nat) (hn : ts.length ≤ 5000) (hb : ∀ t ∈ ts, t.num ≤ 9223372036854775807 ∧ t.text.length ≤ 5000) (w : World) (hG : GOK w) (h : TgIn w o ts) :
    Calls Tryz.prog 19 #[.slice o ts.length cap] w fun r W' => r = .returned (.string (bs (joinM (ts.map txG)))) ∧ Below w.heap.size w W' := by
  have HT : Hid (∀ (t : Tg), t ∈ ts → ∀ W : World, Below w.heap.size w W → Calls Tryz.prog 16 #[.agg #[.int .i64 t.kind, .string (bs t.text), .int .i64 t.num, .int .i64 t.pos, .int .i64 t.line, .int .i64 t.col, .bool t.first]] W fun e W' => e = .returned (.string (bs (txG t))) ∧ Below W.heap.size W W') := fun t ht W hW => textG_c t (hb t ht).1 (by have := (hb t ht).2; omega) W (hG.below hW)
  obtain ⟨m, hm⟩ : ∃ m, ts.length = m := ⟨_, rfl⟩
  have HM : Hid (ts.length = m) := hm
  have HN : Hid (m ≤ 5000) := by rw [← hm]; exact hn
  have HB : Hid (∀ t ∈ ts, t.num ≤ 9223372036854775807 ∧ t.text.length ≤ 5000) := hb
  have hmi : (m : Int) ≤ 5000 := by omega
  have HR : Hid (TgIn w o ts) := h
  have hmk : ∀ W : World, (Instr.makeSlice 32 (.int .i64 (m : Int)) (.int .i64 (m : Int))).run Tryz.prog W = .ok (.slice (some ⟨W.heap.size, 0, none⟩) m m) (W.alloc (.cells (madeCells #[.string ⟨#[]⟩] m) 9)) := fun W => run_make_row' 32 9 (.string ⟨#[]⟩) 16 Tryz.underlying32 Tryz.info9 rfl .i64 .i64 m (by omega) (by omega) W
  have HJ : Hid (∀ (W : World) (A : Array Value), Blk W w.heap.size A 9 → (∀ j (h : j < ts.length), A[j]? = some (.string (bs (txG ts[j])))) → Calls Tryz.prog 45 #[.slice (some ⟨w.heap.size, 0, none⟩) m m, .string (ByteArray.mk #[32])] W fun r W' => r = .returned (.string (bs (joinM (ts.map txG)))) ∧ Below W.heap.size W W') := by
    intro W A hA hc
    have hxl : (ts.map fun t => bs (txG t)).length = m := by rw [List.length_map]; exact HM.out
    have hmap : (ts.map fun t => bs (txG t)).map (·.data.toList) = ts.map txG := by rw [List.map_map]; rfl
    have hbd : (joinM (ts.map txG)).length ≤ 5000 * 30031 := by
      have h1 := join_bound 30030 (ts.map txG) (by
        intro u hu
        obtain ⟨t, ht, rfl⟩ := List.mem_map.1 hu
        have h2 := HB.out t ht
        have h3 := txG_len t h2.1
        omega)
      rw [List.length_map, HM.out] at h1
      have h2 := HN.out
      exact Nat.le_trans h1 (Nat.mul_le_mul_right _ h2)
    have := Tryz.strings_Join w.heap.size 0 m (ts.map fun t => bs (txG t)) (ByteArray.mk #[32]) W (by
      intro j x hx
      rw [Nat.zero_add]
      obtain ⟨hj, rfl⟩ := List.getElem?_eq_some_iff.1 hx
      have hj' : j < ts.length := by simpa using hj
      have := hA.cell j _ (hc j hj')
      simpa using this) hA.lt (by rw [hxl]; have := HN.out; omega) (by rw [hxl]; exact Nat.le_refl _) (by rw [hmap]; show (Lib.join _ [32]).length ≤ _; rw [inter_join]; omega)
    rw [hxl, hmap] at this
    have e : Lib.join (ts.map txG) (ByteArray.mk #[32]).data.toList = joinM (ts.map txG) := inter_join _
    rw [e] at this
    exact this
  rw [hm]
  clear h hG hb hn hm
  go_enter Tryz.func19, Tryz.ntmps19
  go_wp2
  have hA0 : Hid (Blk (w.alloc (.cells (madeCells #[.string ⟨#[]⟩] m) 9)) w.heap.size (madeCells #[.string ⟨#[]⟩] m) 9) := Blk.new w _ _
  have hB0 : Hid (Below w.heap.size w (w.alloc (.cells (madeCells #[.string ⟨#[]⟩] m) 9))) := (Below.refl _ w).alloc (Nat.le_refl _) _
  go_loopw [11] (fun i wr => ∃ (k : Nat) (A : Array Value), k ≤ m ∧ i = .int .i64 k ∧ Hid (Blk wr w.heap.size A 9) ∧ Hid (A.size = m) ∧ Hid (∀ j (h : j < ts.length), j < k → A[j]? = some (.string (bs (txG ts[j])))) ∧ Hid (Below w.heap.size w wr)) (fun i _ => m - (intOf i).toNat)
  case atStart => exact ⟨0, _, Nat.zero_le _, rfl, hA0, size_madeCells _ _, fun j h hj => by omega, hB0⟩
  case round =>
    obtain ⟨k, A, hk, rfl, hA, hsz, hc, hB⟩ := hrel
    clear hA0 hB0
    by_cases hlt : k < m
    · have hkL : k < ts.length := by rw [HM.out]; exact hlt
      have hki : (k : Int) < (m : Int) := by omega
      obtain ⟨g, off, rfl, hg, hTA⟩ := HR.out.at k hkL
      have hcell := fun q u hu => (hB.out.cell (p := ⟨g, off + k * 7 + q, none⟩) hg).trans (hTA k hkL q u hu)
      have c0 := hcell 0 _ rfl
      rw [Nat.add_zero] at c0
      have c1 := hcell 1 _ rfl
      have c2 := hcell 2 _ rfl
      have c3 := hcell 3 _ rfl
      have c4 := hcell 4 _ rfl
      have c5 := hcell 5 _ rfl
      have c6 := hcell 6 _ rfl
      have hTk : Hid (∀ W : World, Below w.heap.size w W → Calls Tryz.prog 16 #[.agg #[.int .i64 ts[k].kind, .string (bs ts[k].text), .int .i64 ts[k].num, .int .i64 ts[k].pos, .int .i64 ts[k].line, .int .i64 ts[k].col, .bool ts[k].first]] W fun e W' => e = .returned (.string (bs (txG ts[k]))) ∧ Below W.heap.size W W') := fun W hW => HT.out ts[k] (List.getElem_mem hkL) W hW
      have hcn : Hid (∀ (B : Array Value), (∀ j, j ≠ k → B[j]? = A[j]?) → B[k]? = some (.string (bs (txG ts[k]))) → ∀ j (h : j < ts.length), j < k + 1 → B[j]? = some (.string (bs (txG ts[j])))) := by
        intro B h1 h2 j hj hjk
        by_cases hjk' : j = k
        · subst hjk'; exact h2
        · rw [h1 j hjk']; exact hc.out j hj (by omega)
      generalize ts[k] = t at c0 c1 c2 c3 c4 c5 c6 hTk hcn
      obtain ⟨tk, tt, tn, pos, line, col, first⟩ := t
      simp only at c0 c1 c2 c3 c4 c5 c6 hTk hcn
      generalize txG ⟨tk, tt, tn, pos, line, col, first⟩ = tx at hTk hcn
      have hgr : g < wr.heap.size := by have := hB.out.size; omega
      have hGr : w.heap.size < wr.heap.size := hA.out.lt
      clear hcell hkL hc hTA HR
      go_wp2_with (go_at_call 16; fail)
      refine (hTk.out _ (hB.out.alloc hB.out.size _)).mono ?_
      rintro r w2 ⟨rfl, hb2⟩
      have hA2 : Hid (Blk w2 w.heap.size A 9) := (hA.out.alloc _).below hb2
      have hB2 : Hid (Below w.heap.size w w2) := (hB.out.alloc hB.out.size _).trans (hb2.mono (by have := hB.out.size; simp; omega))
      have hk2 : ∃ u, A[k]? = some u := ⟨_, Array.getElem?_eq_getElem (by have := hsz.out; omega)⟩
      obtain ⟨u, hu⟩ := hk2
      have d0 := hA2.out.cell k u hu
      have d1 := hA2.out.frozen k
      clear hb2 hA hB c0 c1 c2 c3 c4 c5 c6 hu
      go_wp2
      go_roundw
      case rel => exact ⟨k + 1, A.setIfInBounds k (.string (bs tx)), by omega, by go_num, hA2.out.set k _, by show _ = _; rw [Array.size_setIfInBounds]; exact hsz.out, hcn.out _ (fun j hj => by rw [Array.getElem?_setIfInBounds, if_neg (fun e => hj e.symm)]) (by rw [Array.getElem?_setIfInBounds, if_pos rfl, if_pos (by have := hsz.out; omega)]), hB2.out.setCell (p := ⟨w.heap.size, k, none⟩) (Nat.le_refl _) _⟩
      case measure => simp [intOf]; omega
    · obtain rfl : k = m := by omega
      have hJ : Hid (Calls Tryz.prog 45 #[.slice (some ⟨w.heap.size, 0, none⟩) k k, .string (ByteArray.mk #[32])] wr fun r W' => r = .returned (.string (bs (joinM (ts.map txG)))) ∧ Below wr.heap.size wr W') := HJ.out wr A hA.out (fun j hj => hc.out j hj (by rw [← HM.out]; exact hj))
      go_wp2_with (go_at_call 45; fail)
      refine hJ.out.mono ?_
      rintro r w2 ⟨rfl, hb2⟩
      have hB2 : Hid (Below w.heap.size w w2) := hB.out.trans (hb2.mono hB.out.size)
      clear hb2
      go_wp2
      go_ret
      exact ⟨rfl, hB2.out⟩


set_option maxRecDepth 100000 in
set_option maxHeartbeats 4000000 in
theorem sameTokG_c (ts : List Tg) (o o' : Option Addr) (c c' : Nat) (hn : ts.length ≤ 5000) (w : World) (h : TgIn w o ts) (h' : TgIn w o' ts) :
    Calls Tryz.prog 15 #[.slice o ts.length c, .slice o' ts.length c'] w fun r W' => r = .returned (.bool true) ∧ Below w.heap.size w W' := by
  have hdep : Tryz.prog.follows Departure.mixedOrders = true := by kernel_rfl
  obtain ⟨m, hm⟩ : ∃ m, ts.length = m := ⟨_, rfl⟩
  have HN : Hid (m ≤ 5000) := by rw [← hm]; exact hn
  have H : Hid (TgIn w o ts) := h
  have H' : Hid (TgIn w o' ts) := h'
  have HM : Hid (ts.length = m) := hm
  rw [hm]
  clear h h' hn hm
  go_enter Tryz.func15, Tryz.ntmps15
  go_wp2
  go_loopw [5] (fun i wr => ∃ k : Nat, k ≤ m ∧ i = .int .i64 k ∧ Hid (Below w.heap.size w wr)) (fun i _ => m - (intOf i).toNat)
  case atStart => exact ⟨0, Nat.zero_le _, rfl, Below.refl _ _⟩
  case round =>
    obtain ⟨k, hk, rfl, hB⟩ := hrel
    by_cases hlt : k < m
    · have hkL : k < ts.length := by rw [HM.out]; exact hlt
      have hki : (k : Int) < (m : Int) := by omega
      have hk5 : (k : Int) ≤ 5000 := by have := HN.out; omega
      obtain ⟨g, off, rfl, hg, hT⟩ := H.out.at k hkL
      obtain ⟨g', off', rfl, hg', hT'⟩ := H'.out.at k hkL
      have hcell := fun q u hu => (hB.out.cell (p := ⟨g, off + k * 7 + q, none⟩) hg).trans (hT k hkL q u hu)
      have hcell' := fun q u hu => (hB.out.cell (p := ⟨g', off' + k * 7 + q, none⟩) hg').trans (hT' k hkL q u hu)
      have c0 := hcell 0 _ rfl
      have d0 := hcell' 0 _ rfl
      rw [Nat.add_zero] at c0 d0
      have c1 := hcell 1 _ rfl
      have c2 := hcell 2 _ rfl
      have c3 := hcell 3 _ rfl
      have c4 := hcell 4 _ rfl
      have c5 := hcell 5 _ rfl
      have c6 := hcell 6 _ rfl
      have d1 := hcell' 1 _ rfl
      have d2 := hcell' 2 _ rfl
      have d3 := hcell' 3 _ rfl
      have d4 := hcell' 4 _ rfl
      have d5 := hcell' 5 _ rfl
      have d6 := hcell' 6 _ rfl
      generalize ts[k] = t at c0 c1 c2 c3 c4 c5 c6 d0 d1 d2 d3 d4 d5 d6
      obtain ⟨tk, tt, tn, pos, line, col, first⟩ := t
      simp only at c0 c1 c2 c3 c4 c5 c6 d0 d1 d2 d3 d4 d5 d6
      clear hcell hcell' hkL hT hT' H H' HM HN
      have jf : (first != first) = false := by cases first <;> rfl
      go_wp2_with fail
      go_big_quiet (fail)
      go_wp2
      go_roundw
      case rel =>
        refine ⟨k + 1, by omega, by go_num, ?_⟩
        show Below _ _ _
        refine Below.trans hB.out ⟨rfl, rfl, rfl, Nat.le_refl _, fun _ _ => rfl⟩
      case measure => simp [intOf]; omega
    · obtain rfl : k = m := by omega
      go_wp2
      go_ret
      exact ⟨rfl, hB.out⟩


theorem infoTok : (Tryz.prog.info? 30).map (fun i => (i.zero, i.size, i.bytes)) = some (some (.agg #[.int .i64 0, .string ⟨#[]⟩, .int .i64 0, .int .i64 0, .int .i64 0, .int .i64 0, .bool false]), 7, 64) := by kernel_rfl
theorem tgC_len (t : Tg) : (tgC t).length = 7 := rfl
theorem flat7 (f : Tg → List Value) (hf : ∀ t, (f t).length = 7) : ∀ ts : List Tg, (ts.flatMap f).length = ts.length * 7
  | [] => rfl
  | t :: ts => by rw [List.flatMap_cons, List.length_append, hf, flat7 f hf ts, List.length_cons]; omega
theorem flat7_get (f : Tg → List Value) (hf : ∀ t, (f t).length = 7) : ∀ (ts : List Tg) (k : Nat) (h : k < ts.length) (q : Nat), q < 7 → (ts.flatMap f)[k * 7 + q]? = (f ts[k])[q]?
  | t :: ts, 0, h, q, hq => by
    rw [List.flatMap_cons, Nat.zero_mul, Nat.zero_add, List.getElem?_append_left (by rw [hf]; exact hq)]; rfl
  | t :: ts, k + 1, h, q, hq => by
    rw [List.flatMap_cons, List.getElem?_append_right (by rw [hf]; omega), hf, show (k + 1) * 7 + q - 7 = k * 7 + q by omega]
    exact flat7_get f hf ts k (by simpa using h) q hq
theorem tgC_one (ts : List Tg) : ∀ u ∈ ts.flatMap tgC, u.oneCell' = true := by
  intro u hu
  obtain ⟨t, ht, hu⟩ := List.mem_flatMap.1 hu
  unfold tgC at hu
  simp only [List.mem_cons, List.not_mem_nil, or_false] at hu
  rcases hu with rfl | rfl | rfl | rfl | rfl | rfl | rfl <;> rfl
theorem tgAt_news {W : World} {g off : Nat} {ts : List Tg} (h : TgAt W g off ts) : ∀ j u, (ts.flatMap tgC)[j]? = some u → W.cell? ((⟨g, off, none⟩ : Addr).add j) = some u := by
  intro j u hu
  have hj : j < ts.length * 7 := by
    have := (List.getElem?_eq_some_iff.1 hu).1
    rwa [flat7 tgC tgC_len] at this
  have hk : j / 7 < ts.length := by omega
  have e : j / 7 * 7 + j % 7 = j := by omega
  have h1 := flat7_get tgC tgC_len ts (j / 7) hk (j % 7) (by omega)
  rw [e, hu] at h1
  have h2 := h (j / 7) hk (j % 7) u h1.symm
  rw [Nat.add_assoc, e] at h2
  rw [Addr.add_lit]
  exact h2

set_option maxHeartbeats 4000000 in
set_option maxRecDepth 100000 in
theorem tokens_c (ts : List Tg) (o : Option Addr) (cap : Nat) (hn : ts.length ≤ 5000) (w : World) (h : TgIn w o ts) :
    Calls Tryz.prog 18 #[.slice o ts.length cap] w fun r W' => r = .returned (.slice (some ⟨w.heap.size, 0, none⟩) ts.length (ts.length + 2)) ∧ TgAt W' w.heap.size 0 ts ∧ w.heap.size < W'.heap.size ∧ Below w.heap.size w W' := by
  obtain ⟨i, hi, hzz⟩ := Option.map_eq_some_iff.1 infoTok
  simp only [Prod.mk.injEq] at hzz
  obtain ⟨hz, hs7, hb56⟩ := hzz
  obtain ⟨m, hm⟩ : ∃ m, ts.length = m := ⟨_, rfl⟩
  have hmi : (m : Int) ≤ 5000 := by omega
  have hmk : ∀ W : World, (Instr.makeSlice 23 (.int .i64 0) (.int .i64 ((m : Int) + 2))).run Tryz.prog W = .ok (.slice (some ⟨W.heap.size, 0, none⟩) 0 (m + 2)) (W.alloc (.cells (madeCells #[.int .i64 0, .string ⟨#[]⟩, .int .i64 0, .int .i64 0, .int .i64 0, .int .i64 0, .bool false] ((m + 2) * 7)) 30)) := by
    intro W
    have hr := run_make (P := Tryz.prog) W 23 30 i _ Tryz.underlying23 hi hz .i64 .i64 0 ((m : Int) + 2) (by omega) (by omega) (by rw [hb56]; omega) (by omega)
    rw [hs7, show ((m : Int) + 2).toNat = m + 2 by omega] at hr
    exact hr
  have HS : Hid (∀ W : World, Below w.heap.size w W → Src Tryz.prog i.size 23 (.slice o m cap) m (ts.flatMap tgC) W) := by
    intro W hW
    rcases h with rfl | ⟨g, off, rfl, hg, hT⟩
    · obtain rfl : m = 0 := by rw [← hm]; rfl
      cases o with
      | none => exact Src.ofNil W Tryz.underlying23 cap
      | some a => exact Src.ofSlice W Tryz.underlying23 a 0 cap [] (by simp) (fun j u hu => by simp at hu) (fun u hu => by cases hu)
    · exact Src.ofSlice W Tryz.underlying23 ⟨g, off, none⟩ m cap _ (by rw [flat7 tgC tgC_len, hs7, hm]) (tgAt_news (hT.belowB hg hW)) (tgC_one ts)
  have hfl : (ts.flatMap tgC).length = m * 7 := by rw [flat7 tgC tgC_len, hm]
  have HF : Hid ((ts.flatMap tgC).length = m * 7) := hfl
  obtain ⟨z7, hz7⟩ : ∃ z, (#[.int .i64 0, .string ⟨#[]⟩, .int .i64 0, .int .i64 0, .int .i64 0, .int .i64 0, .bool false] : Array Value) = z := ⟨_, rfl⟩
  rw [hz7] at hmk
  have HC : Hid (∀ j, j < (ts.flatMap tgC).length → ((w.alloc (.cells (madeCells z7 ((m + 2) * 7)) 30)).cell? ⟨w.heap.size, 0 + 0 * i.size + j, none⟩).isSome = true) := by
    intro j hj
    have hj' : j < (madeCells z7 ((m + 2) * 7)).size := by rw [size_madeCells]; omega
    have := (Blk.new w (madeCells z7 ((m + 2) * 7)) 30).cell j _ (Array.getElem?_eq_getElem hj')
    simp only [Nat.zero_mul, Nat.zero_add, this]; rfl
  have HZ : Hid (∀ j, j < (ts.flatMap tgC).length → (w.alloc (.cells (madeCells z7 ((m + 2) * 7)) 30)).frozen? ⟨w.heap.size, 0 + 0 * i.size + j, none⟩ = false) := fun j hj => (Blk.new w (madeCells z7 ((m + 2) * 7)) 30).frozen _
  have HB : Hid (Below w.heap.size w (w.alloc (.cells (madeCells z7 ((m + 2) * 7)) 30))) := (Below.refl _ w).alloc (Nat.le_refl _) _
  have HL : Hid (ts.length = m) := hm
  have HSz : Hid (i.size = 7) := hs7
  rw [hm]
  clear h hn hm hfl hz hs7 hb56 hz7
  have hui : Hid (Tryz.prog.info? 30 = some i) := hi
  clear hi
  go_enter Tryz.func18, Tryz.ntmps18
  go_wp2_with (at_builtin; refine wpList_append_room_src _ rfl (.tmp 6) (.tmp 7) 23 23 rfl 30 i Tryz.underlying23 hui.out w.heap.size 0 0 (m + 2) rfl _ rfl m (ts.flatMap tgC) (HS.out _ HB.out) (by omega) HC.out HZ.out ?_)
  go_ret
  refine ⟨rfl, ?_, ?_, ?_⟩
  · intro k hk q u hu
    have hq : q < 7 := (List.getElem?_eq_some_iff.1 hu).1
    have hj : k * 7 + q < (ts.flatMap tgC).length := by rw [HF.out]; have := HL.out; omega
    have := World.cell?_setCells_in w.heap.size (ts.flatMap tgC) (0 + 0 * i.size) _ HC.out (k * 7 + q) hj
    have h1 := flat7_get tgC tgC_len ts k hk q hq
    rw [hu, List.getElem?_eq_getElem hj] at h1
    rw [Option.some.inj h1] at this
    simp only [Nat.zero_mul, Nat.zero_add] at this ⊢
    exact this
  · have h1 := (below_setCells (b := w.heap.size) (Nat.le_refl _) (ts.flatMap tgC) (0 + 0 * i.size) _ (Below.refl w.heap.size (w.alloc (.cells (madeCells z7 ((m + 2) * 7)) 30)))).size
    simp at h1 ⊢
    omega
  · exact below_setCells (b := w.heap.size) (Nat.le_refl _) (ts.flatMap tgC) _ _ HB.out

end Go.Proofs.YtpidccdgkkcljaaGreatDoor
