/-
  syntax.Check, by a contract.
-/
import Derived.Test.YtndpebkiiemfpaaGreatDoorMay
namespace Go.Proofs.YtndpebkiiemfpaaGreatDoor
open Go.RowKit Go.Shelf Go.Maps
set_option linter.unusedVariables false

mutual
theorem NdAt.mono {W : World} {B B' : Nat} (hb : B ≤ B') : ∀ (n : Nd) (g off : Nat), NdAt W B n g off → NdAt W B' n g off
  | .mk k nm nu kids ps, g, off, h => by
    simp only [NdAt] at h ⊢
    obtain ⟨o, cap, h0, h1, h2, h3, h4, hc, hc2, hwf, hk⟩ := h
    refine ⟨o, cap, h0, h1, h2, h3, h4, hc, hc2, hwf, ?_⟩
    rcases hk with hk | ⟨g', off', e, hg', hk⟩
    · exact .inl hk
    · exact .inr ⟨g', off', e, by omega, KidsAt.mono hb kids g' off' hk⟩
theorem KidsAt.mono {W : World} {B B' : Nat} (hb : B ≤ B') : ∀ (ns : List Nd) (g off : Nat), KidsAt W B ns g off → KidsAt W B' ns g off
  | [], _, _, _ => by simp only [KidsAt]
  | n :: ns, g, off, h => by
    simp only [KidsAt] at h ⊢
    exact ⟨NdAt.mono hb n g off h.1, KidsAt.mono hb ns g (off + 5) h.2⟩
end
theorem Blk.new2 (w : World) (o : Obj) (vs : Array Value) (T : TypeId) : Blk ((w.alloc o).alloc (.cells vs T)) (w.heap.size + 1) vs T := by
  have := Blk.new (w.alloc o) vs T
  have hs : (w.alloc o).heap.size = w.heap.size + 1 := by simp
  rw [hs] at this
  exact this
/-- What Check answers. -/
def chkM (n : Nd) : Int := if (hN 256 1048576 n).1 = true then (if mbM 256 n = true then 0 else 2) else 3
/-- A node as a value. -/
def ndV (n : Nd) (o : Option Addr) (cap : Nat) : Value := .agg #[.int .i64 n.kind, .string (bs n.name), .int .i64 n.num, .slice o n.kids.length cap, .int .i64 n.pos]
/-- A node that was handed over by value: its parts lie below B. -/
def NdIn (W : World) (B : Nat) (n : Nd) (o : Option Addr) (cap : Nat) : Prop := KIn W B o n.kids ∧ n.kids.length ≤ cap ∧ cap ≤ 9223372036854775807 ∧ (-9223372036854775808 ≤ n.kind ∧ n.kind ≤ 9223372036854775807) ∧ n.name.length ≤ 9223372036854775807 ∧ (-9223372036854775808 ≤ n.num ∧ n.num ≤ 9223372036854775807)
theorem NdIn.below {W W' : World} {B : Nat} {n : Nd} {o : Option Addr} {cap : Nat} (h : NdIn W B n o cap) (hb : Below B W W') : NdIn W' B n o cap := ⟨h.1.below hb, h.2⟩
/-- A node that lies in a block of its own. -/
theorem ndAt_blk {W : World} {B g : Nat} {n : Nd} {o : Option Addr} {cap : Nat} {T : TypeId} (h : NdIn W B n o cap) (hb : Blk W g #[.int .i64 n.kind, .string (bs n.name), .int .i64 n.num, .slice o n.kids.length cap, .int .i64 n.pos] T) : NdAt W B n g 0 := by
  obtain ⟨h1, h2, h3, h4, h5, h6⟩ := h
  cases n
  simp only [NdAt]
  exact ⟨o, cap, hb.cell 0 _ rfl, hb.cell 1 _ rfl, hb.cell 2 _ rfl, hb.cell 3 _ rfl, hb.cell 4 _ rfl, h2, h3, ⟨h4, h5, h6⟩, h1⟩

set_option maxRecDepth 100000 in
set_option maxHeartbeats 8000000 in
theorem nodeChk_c (n : Nd) (o : Option Addr) (cap B bl c : Nat) (w : World) (hn : NdIn w B n o cap) (hB : B ≤ bl) (hG : GOK w) (hGs : 6 ≤ bl) (hL : LexSt w bl c) (hc : c + 1048576 ≤ 4611686018427387904) :
    Calls Tryz.prog 22 #[.agg #[.int .i64 n.kind, .string (bs n.name), .int .i64 n.num, .slice o n.kids.length cap, .int .i64 n.pos], .map (some bl)] w fun e W' => e = .returned (.int .i64 (chkM n)) ∧ But bl w W' ∧ LexSt W' bl (c + 1048576) := by
  have hlt := hL.lt
  obtain ⟨V, hV⟩ : ∃ V, (w.alloc (.cells #[.int .i64 n.kind, .string (bs n.name), .int .i64 n.num, .slice o n.kids.length cap, .int .i64 n.pos] 24)).alloc (.cells #[.int .i64 1048576] 88) = V := ⟨_, rfl⟩
  have hVb : Below w.heap.size w V := by rw [← hV]; exact ((Below.refl _ w).alloc (Nat.le_refl _) _).alloc (by simp) _
  have hVs : V.heap.size = w.heap.size + 2 := by rw [← hV]; simp
  have hB1 : Blk V w.heap.size #[.int .i64 n.kind, .string (bs n.name), .int .i64 n.num, .slice o n.kids.length cap, .int .i64 n.pos] 24 := by rw [← hV]; exact (Blk.new w _ _).alloc _
  have hB2 : Blk V (w.heap.size + 1) #[.int .i64 1048576] 88 := by rw [← hV]; exact Blk.new2 w _ _ _
  have hnV : NdIn V B n o cap := hn.below (hVb.mono (by omega))
  have HH : Hid (Calls Tryz.prog 42 #[.pointer (some ⟨w.heap.size + 1, 0, none⟩), .pointer (some ⟨w.heap.size, 0, none⟩), .int .i64 256] V fun e w' => e = .returned (.bool (hN 256 1048576 n).1) ∧ Blk w' (w.heap.size + 1) #[.int .i64 ((hN 256 1048576 n).2 : Int)] 88 ∧ Below (w.heap.size + 1) V w' ∧ w'.heap.size = V.heap.size) := by
    exact holds_c 256 1048576 n w.heap.size 0 (w.heap.size + 1) (w.heap.size + 1) V (NdAt.mono (by omega) n w.heap.size 0 (ndAt_blk hnV hB1)) (by omega) (Nat.le_refl _) hB2 (by omega) (by omega)
  have HR : Hid (chkM n = if (hN 256 1048576 n).1 = true then (if mbM 256 n = true then 0 else 2) else 3) := rfl
  have HA : Hid ((hN 256 1048576 n).1 = true → deepLe 256 n ∧ cntT 256 n ≤ 1048576) := fun h => by have := hNall 256 1048576 n h; exact ⟨this.1, by omega⟩
  have HBV : Hid (But bl w V) := but_below hVb bl
  have HGV : Hid (∀ X : World, Below w.heap.size w X → GOK X ∧ LexSt X bl c) := fun X hX => ⟨hG.below hX, hL.below hX⟩
  have HVb : Hid (Below w.heap.size w V) := hVb
  have HNV : Hid (∀ X : World, Below (w.heap.size + 1) V X → NdAt X B n w.heap.size 0) := fun X hX => ndAt_blk (hnV.below (hX.mono (by omega))) (by unfold Blk; rw [hX.block w.heap.size (by omega)]; exact hB1)
  have HKP : Hid (∀ X : World, Calls Tryz.prog 43 #[] X fun e W' => ∃ vw vr vo, e = .returned (.map (some (X.heap.size + 3))) ∧ KS2 (X.heap.size + 3) X W' vw vr vo 44) := kidPatterns_c
  have HMB : Hid (∀ (b0 : Nat) (X : World), bl + 3 < b0 → deepLe 256 n → MSt b0 bl B c X n w.heap.size 0 → c + cntT 256 n ≤ 4611686018427387904 → Calls Tryz.prog 44 #[.agg #[.map (some b0), .map (some bl)], .pointer (some ⟨w.heap.size, 0, none⟩)] X fun e W' => e = .returned (.bool (mbM 256 n)) ∧ But bl X W' ∧ LexSt W' bl (c + cntT 256 n)) := fun b0 X h1 h2 h3 h4 => nodeBe_c bl B hB h1 hGs 256 n w.heap.size 0 c X h2 (by omega) h3 h4
  have HCc : Hid (c + 1048576 ≤ 4611686018427387904) := hc
  have HVs : Hid (V.heap.size = w.heap.size + 2 ∧ bl < w.heap.size) := ⟨hVs, hlt⟩
  generalize (hN 256 1048576 n).2 = m2 at HH
  generalize (hN 256 1048576 n).1 = bh at HH HR HA
  clear hn hB hG hGs hL hc hlt hVb hVs hB1 hB2 hnV
  go_enter Tryz.func22, Tryz.ntmps22
  go_wp2_with (go_at_call 42; fail)
  refine HH.out.mono ?_
  rintro e w1 ⟨rfl, hb1, hb2, hb3⟩
  have H1 : Hid (Below (w.heap.size + 1) V w1) := hb2
  have H2 : Hid (w1.heap.size = V.heap.size) := hb3
  have H3 : Hid (Below w.heap.size w w1) := HVb.out.trans (hb2.mono (by omega))
  clear hb1 hb2 hb3 HH
  cases bh with
  | false =>
    go_wp2
    go_ret
    exact ⟨by rw [HR.out]; rfl, but_below H3.out bl, (HGV.out w1 H3.out).2.mono (by omega)⟩
  | true =>
    have HA2 : Hid (deepLe 256 n ∧ cntT 256 n ≤ 1048576) := HA.out rfl
    clear HA
    go_wp2_with (go_at_call 43; fail)
    refine (HKP.out w1).mono ?_
    rintro e w2 ⟨vw, vr, vo, rfl, hks⟩
    have hb4 : Below w1.heap.size w1 w2 := by
      obtain ⟨L, _, h⟩ := hks
      exact h.1
    obtain ⟨W3, hW3⟩ : ∃ W3, w2.alloc (.cells #[.map (some (w1.heap.size + 3)), .map (some bl)] 93) = W3 := ⟨_, rfl⟩
    have hb5 : Below w2.heap.size w2 W3 := by rw [← hW3]; exact (Below.refl _ _).alloc (Nat.le_refl _) _
    have hKM : KM (w1.heap.size + 3) W3 := (km_of hks).below hb5
    have hB3 : Below w1.heap.size w1 W3 := hb4.trans (hb5.mono hb4.size)
    have hB4 : Below w.heap.size w W3 := H3.out.trans (hB3.mono H3.out.size)
    have hBlk := Blk.new w2 #[.map (some (w1.heap.size + 3)), .map (some bl)] 93
    rw [hW3] at hBlk
    have i0 : W3.cell? ⟨w2.heap.size, 0, none⟩ = some (.map (some (w1.heap.size + 3))) := hBlk.cell 0 _ rfl
    have i1 : W3.cell? ⟨w2.heap.size, 1, none⟩ = some (.map (some bl)) := hBlk.cell 1 _ rfl
    have hbl2 := hBlk.lt
    have hA := HA2.out
    have HC : Hid (Calls Tryz.prog 44 #[.agg #[.map (some (w1.heap.size + 3)), .map (some bl)], .pointer (some ⟨w.heap.size, 0, none⟩)] W3 fun e W' => e = .returned (.bool (mbM 256 n)) ∧ But bl W3 W' ∧ LexSt W' bl (c + cntT 256 n)) := by
      have h2 := H2.out
      have h3 := HVs.out
      refine HMB.out (w1.heap.size + 3) W3 (by omega) hA.1 ⟨?_, ?_, hKM, (HGV.out W3 hB4).1, (HGV.out W3 hB4).2⟩ (by have := HCc.out; omega)
      · exact HNV.out W3 (H1.out.trans (hB3.mono (by omega)))
      · have := hB4.size
        have := hB3.size
        omega
    have HB6 : Hid (But bl w W3) := but_below hB4 bl
    have HCt : Hid (c + cntT 256 n ≤ c + 1048576) := by have := hA.2; show _ ≤ _; omega
    generalize mbM 256 n = bm at HC HR
    clear hks hb4 hb5 hKM hB3 hB4 hBlk hA HA2 HMB HKP HNV
    go_wp2_with (go_at_call 44; fail)
    refine HC.out.mono ?_
    rintro e w4 ⟨rfl, hb6, hl6⟩
    have HB7 : Hid (But bl w w4) := HB6.out.trans hb6
    have HL7 : Hid (LexSt w4 bl (c + 1048576)) := hl6.mono HCt.out
    clear hb6 hl6 i0 i1
    cases bm with
    | true =>
      go_wp2
      go_ret
      exact ⟨by rw [HR.out]; rfl, HB7.out, HL7.out⟩
    | false =>
      go_wp2
      go_ret
      exact ⟨by rw [HR.out]; rfl, HB7.out, HL7.out⟩

set_option maxRecDepth 100000 in
set_option maxHeartbeats 8000000 in
theorem checkS_c (n : Nd) (o : Option Addr) (cap : Nat) (w : World) (hn : NdIn w w.heap.size n o cap) (hG : GOK w) :
    Calls Tryz.prog 7 #[.agg #[.int .i64 n.kind, .string (bs n.name), .int .i64 n.num, .slice o n.kids.length cap, .int .i64 n.pos]] w fun e W' => e = .returned (.int .i64 (chkM n)) ∧ Below w.heap.size w W' := by
  have hmm : ∀ W : World, (Instr.makeMap 54 none).run Tryz.prog W = .ok (.map (some W.heap.size)) (W.alloc (.map #[] 0)) := fun W => rfl
  obtain ⟨V, hV⟩ : ∃ V, w.alloc (.cells #[.int .i64 n.kind, .string (bs n.name), .int .i64 n.num, .slice o n.kids.length cap, .int .i64 n.pos] 24) = V := ⟨_, rfl⟩
  have hVb : Below w.heap.size w V := by rw [← hV]; exact (Below.refl _ w).alloc (Nat.le_refl _) _
  have hVs : V.heap.size = w.heap.size + 1 := by rw [← hV]; simp
  have hB1 : Blk V w.heap.size #[.int .i64 n.kind, .string (bs n.name), .int .i64 n.num, .slice o n.kids.length cap, .int .i64 n.pos] 24 := by rw [← hV]; exact Blk.new w _ _
  have hA : Below V.heap.size V (V.alloc (.map #[] 0)) := (Below.refl _ _).alloc (Nat.le_refl _) _
  have hVA : Below w.heap.size w (V.alloc (.map #[] 0)) := hVb.trans (hA.mono (by omega))
  have HC : Hid (Calls Tryz.prog 22 #[.agg #[.int .i64 n.kind, .string (bs n.name), .int .i64 n.num, .slice o n.kids.length cap, .int .i64 n.pos], .map (some (w.heap.size + 1))] (V.alloc (.map #[] 0)) fun e W' => e = .returned (.int .i64 (chkM n)) ∧ But (w.heap.size + 1) (V.alloc (.map #[] 0)) W' ∧ LexSt W' (w.heap.size + 1) (0 + 1048576)) := by
    have hL := lexSt_new V
    rw [hVs] at hL
    exact nodeChk_c n o cap w.heap.size (w.heap.size + 1) 0 (V.alloc (.map #[] 0)) (hn.below hVA) (by omega) (hG.below hVA) (by have := hG.size; omega) hL (by omega)
  have HB : Hid (∀ X : World, But (w.heap.size + 1) (V.alloc (.map #[] 0)) X → Below w.heap.size w X) := fun X hX => hVA.trans (hX.below (by omega) hVA.size)
  have c0 : V.cell? ⟨w.heap.size, 0, none⟩ = some (.int .i64 n.kind) := hB1.cell 0 _ rfl
  have c1 : V.cell? ⟨w.heap.size, 1, none⟩ = some (.string (bs n.name)) := hB1.cell 1 _ rfl
  have c2 : V.cell? ⟨w.heap.size, 2, none⟩ = some (.int .i64 n.num) := hB1.cell 2 _ rfl
  have c3 : V.cell? ⟨w.heap.size, 3, none⟩ = some (.slice o n.kids.length cap) := hB1.cell 3 _ rfl
  have c4 : V.cell? ⟨w.heap.size, 4, none⟩ = some (.int .i64 n.pos) := hB1.cell 4 _ rfl
  generalize chkM n = ck at HC
  clear hn hG hVb hB1 hA hVA
  go_enter Tryz.func7, Tryz.ntmps7
  go_wp2_with (go_at_call 22; fail)
  refine HC.out.mono ?_
  rintro e w1 ⟨rfl, hb, -⟩
  have HB1 : Hid (Below w.heap.size w w1) := HB.out _ hb
  clear hb
  go_wp2
  go_ret
  exact ⟨rfl, HB1.out⟩
end Go.Proofs.YtndpebkiiemfpaaGreatDoor
