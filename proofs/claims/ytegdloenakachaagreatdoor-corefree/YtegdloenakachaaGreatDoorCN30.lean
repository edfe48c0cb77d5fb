/-
  Check of a program of the built-in constructors and at most one binding, by a contract.
  Text of a function of one name whose body is a variable, by a contract.
  Text of a function of one name whose body is a variable, by a contract: the walk.
  Text of a function of one name whose body is a variable, by a contract: core.Text.
  The chapter's example of a substitution, as mathematics: what comes is a lambda that differs in its bound name alone.
  The law's program, by a contract.
-/
import Derived.Test.YtegdloenakachaaGreatDoorCN29
namespace Go.Proofs.YtegdloenakachaaGreatDoor
open Go.RowKit Go.Shelf Go.Maps
set_option linter.unusedVariables false

theorem alkOK (fs : List CT) (m c : Nat) (w : World) (hc : CtSt w m c fs) : AlkOK m (alkM fs) w := fun W hW d l o cap B hl hw hn hF => alike_c fs m c W (hc.below hW) d l o cap B hl hw hn hF
theorem mbaOK (fs : List CT) (m c : Nat) (w : World) (hc : CtSt w m c fs) : MbaOK m (altsB (alkM fs)) w := fun W hW d l o cap B hl hw hn hcap hF => mayBeAlts_c m (alkM fs) W (alkOK fs m c W (hc.below hW)) d l o cap B hl hw hn hcap hF
def mainB : ByteArray := ⟨#[109, 97, 105, 110]⟩
/-- What Check answers. -/
def ckM (d : Nat) (l : List (ByteArray × Tr d)) (R : Bool) : Int := if l.all (fun b => nameB b.1.data.toList) = false then 2 else if chkN (altsB (alkM bi7)) bi7 d l R = 0 then (if hasT mainB (l.map Prod.fst) then 0 else 10) else chkN (altsB (alkM bi7)) bi7 d l R
theorem RowIn.lt_of {α : Type} {B n : Nat} {p : α → Nat → Nat → Prop} {o : Option Addr} {l : List α} (h : RowIn B n p o l) {k : Nat} (hk : k < l.length) {g x : Nat} (e : o = some ⟨g, x, none⟩) : g < B ∧ p l[k] g (x + k * n) := by
  rcases h with h | ⟨g', x', e', hg, h⟩
  · rw [h] at hk; cases hk
  · rw [e] at e'; cases e'
    exact ⟨hg, h k hk⟩
theorem CpAt.up {W : World} {B B' : Nat} : ∀ (d : Nat) (t : Tr d) (g off : Nat), ExAt W B d t g off → CpAt W B d t g off → CpAt W B' d t g off
  | 0, t, _, _, _, _ => nomatch t
  | d + 1, t, g, off, hE, h => by
    obtain ⟨hg, -, -, -, -, ⟨o4, c4, e4, k4⟩, ⟨o5, c5, e5, k5⟩, ⟨o6, c6, e6, k6⟩⟩ := hE
    obtain ⟨h6, p4, p5, p6⟩ := h
    refine ⟨h6, fun g' x' n c hg' e k hk => ?_, fun g' x' n c hg' e k hk => ?_, fun g' x' n c hg' e k hk => ?_⟩
    · have e9 := e4.symm.trans e
      injection e9 with e9; injection e9 with e9 _ _
      have h9 := k4.lt_of hk e9
      exact CpAt.up d _ _ _ h9.2.2 (p4 g' x' n c h9.1 e k hk)
    · have e9 := e5.symm.trans e
      injection e9 with e9; injection e9 with e9 _ _
      have h9 := k5.lt_of hk e9
      exact CpAt.up d _ _ _ h9.2 (p5 g' x' n c h9.1 e k hk)
    · have e9 := e6.symm.trans e
      injection e9 with e9; injection e9 with e9 _ _
      have h9 := k6.lt_of hk e9
      exact CpAt.up d _ _ _ h9.2.2.2.2.2 (p6 g' x' n c h9.1 e k hk)
set_option maxRecDepth 100000 in
set_option maxHeartbeats 4000000 in
theorem bindsRise0_c (o : Option Addr) (cap : Nat) (w : World) : Calls Tryz.prog 41 #[.slice o 0 cap] w fun e w' => e = .returned (.bool true) ∧ Below w.heap.size w w' := by
  go_enter Tryz.func41, Tryz.ntmps41
  go_wp2
  go_loopw [6] (fun i wr => i = .int .i64 0 ∧ wr = w) (fun i _ => 0)
  case atStart => exact ⟨rfl, rfl⟩
  case round =>
    obtain ⟨rfl, rfl⟩ := hrel
    go_wp2
    go_ret
    exact ⟨rfl, Below.refl _ _⟩
theorem bindsRise01_c (d : Nat) (l : List (ByteArray × Tr d)) (h1 : l.length ≤ 1) (o : Option Addr) (cap B : Nat) (w : World) (hl : RowIn B 8 (fun (b : ByteArray × Tr d) g off => w.cell? ⟨g, off, none⟩ = some (.string b.1) ∧ ExAt w B d b.2 g (off + 1)) o l) (hw : B ≤ w.heap.size) (hz : ∀ b ∈ l, b.1.size ≤ maxLen) :
    Calls Tryz.prog 41 #[.slice o l.length cap] w fun e w' => e = .returned (.bool (l.all (fun b => nameB b.1.data.toList))) ∧ Below w.heap.size w w' := by
  match l, h1, hl, hz with
  | [], _, _, _ => exact bindsRise0_c o cap w
  | [b], _, hl, hz =>
    rcases hl with h | ⟨g, off, rfl, hg, h⟩
    · cases h
    · have h9 := bindsRise1_c b.1 (hz b (by simp)) g off cap w (by omega) (by have := (h 0 (by simp)).1; simpa using this)
      show Calls Tryz.prog 41 #[.slice (some ⟨g, off, none⟩) 1 cap] w _
      refine h9.mono ?_
      rintro e w' ⟨rfl, hb⟩
      exact ⟨by simp, hb⟩
  | a :: b :: r, h1, _, _ => exact absurd h1 (by simp)
set_option maxRecDepth 100000 in
set_option maxHeartbeats 8000000 in
theorem Check_c (d : Nat) (l : List (ByteArray × Tr d)) (h1 : l.length ≤ 1) (g cap : Nat) (o : Option Addr) (cp B : Nat) (w : World) (hB : Blk w g bi7V 59) (hgB : g < B) (hl : RowIn B 8 (fun (b : ByteArray × Tr d) g off => w.cell? ⟨g, off, none⟩ = some (.string b.1) ∧ ExAt w B d b.2 g (off + 1)) o l) (hw : B ≤ w.heap.size)
    (hz : ∀ b ∈ l, b.1.size ≤ maxLen) (hFit : ∀ b ∈ l, Fit d b.2) (hN : ∀ b ∈ l, NmOK d b.2) (hd : d ≤ 4096)
    (hc : 1 + 2 * (l.map fun b => costM d b.2).sum ≤ 2000000) (hs : (l.map fun b => sizeM d b.2).sum ≤ 1048576)
    (hcp : ∀ k (h : k < l.length) g off, o = some ⟨g, off, none⟩ → g < B → CpAt w B d l[k].2 g (off + k * 8 + 1))
    (R : Bool) (hR : R = true ↔ ∃ x, l.any (fun b => freeM d b.2 (dl (l.map Prod.fst).reverse) x) = true) :
    Calls Tryz.prog 17 #[.agg #[.slice (some ⟨g, 0, none⟩) 5 cap, .slice o l.length cp]] w fun e w' => e = .returned (.int .i64 (ckM d l R)) ∧ Below w.heap.size w w' := by
  obtain ⟨V, hV⟩ : ∃ V, w.alloc (.cells #[.slice (some ⟨g, 0, none⟩) 5 cap, .slice o l.length cp] 47) = V := ⟨_, rfl⟩
  have k0 : Blk V w.heap.size #[.slice (some ⟨g, 0, none⟩) 5 cap, .slice o l.length cp] 47 := by rw [← hV]; exact Blk.new w _ _
  have b0 : Below w.heap.size w V := by rw [← hV]; exact below1 w _
  have hsm : ∀ {W : World}, Below w.heap.size w W → ∀ g off, g < B → W.cell? ⟨g, off, none⟩ = w.cell? ⟨g, off, none⟩ := fun hW g off hg => cell_of_block (hW.block g (by omega)) off
  have hrow : ∀ {W : World}, Below w.heap.size w W → RowIn B 8 (fun (b : ByteArray × Tr d) g off => W.cell? ⟨g, off, none⟩ = some (.string b.1) ∧ ExAt W B d b.2 g (off + 1)) o l := fun hW => hl.mono (fun y g off hg h => ⟨(hsm hW _ _ hg).trans h.1, ExAt.same (hsm hW) d _ _ _ h.2⟩)
  have hgw : g < w.heap.size := by omega
  have HP : Hid (Calls Tryz.prog 39 #[.pointer (some ⟨w.heap.size, 0, none⟩)] V fun e w' => e = .returned (.bool true) ∧ Below V.heap.size V w') := programFits_c d l o cp B w.heap.size 0 V (hrow b0) k0.lt (k0.cell 1 _ rfl) (Nat.le_trans hw b0.size) hs hd
  have HCm : Hid (∀ W, Below w.heap.size w W → Calls Tryz.prog 40 #[.slice (some ⟨g, 0, none⟩) 5 cap] W fun e w' => e = .returned (.bool true) ∧ Below W.heap.size W w') := fun W hW => consMayBe_c g cap W (by unfold Blk; rw [hW.block g hgw]; exact hB)
  have HBr : Hid (∀ W, Below w.heap.size w W → Calls Tryz.prog 41 #[.slice o l.length cp] W fun e w' => e = .returned (.bool (l.all (fun b => nameB b.1.data.toList))) ∧ Below W.heap.size W w') := fun W hW => bindsRise01_c d l h1 o cp B W (hrow hW) (Nat.le_trans hw hW.size) hz
  have HBb : Hid (∀ W, Below w.heap.size w W → Calls Tryz.prog 42 #[.slice o l.length cp] W fun e w' => e = .returned (.slice (some ⟨W.heap.size, 0, none⟩) l.length l.length) ∧ TxIn w' (W.heap.size + 1) (some ⟨W.heap.size, 0, none⟩) (l.map Prod.fst) ∧ Below W.heap.size W w') := fun W hW => boundBy_c d l o cp B W (hrow hW) (Nat.le_trans hw hW.size) (by omega)
  have HCk : Hid (∀ W X, Below w.heap.size w W → B ≤ X + 1 → TxIn W (X + 1) (some ⟨X, 0, none⟩) (l.map Prod.fst) → Calls Tryz.prog 43 #[.slice o l.length cp, .slice (some ⟨g, 0, none⟩) 5 cap, .slice (some ⟨X, 0, none⟩) l.length l.length] W fun e w' => e = .returned (.int .i64 (chkN (altsB (alkM bi7)) bi7 d l R)) ∧ Below W.heap.size W w') := by
    intro W X hW hBX hT
    obtain ⟨B2, hB2, hX, hT2⟩ : ∃ B2, B ≤ B2 ∧ B2 ≤ W.heap.size ∧ TxIn W B2 (some ⟨X, 0, none⟩) (l.map Prod.fst) := by
      by_cases e : l.map Prod.fst = []
      · exact ⟨B, Nat.le_refl _, Nat.le_trans hw hW.size, .inl e⟩
      · refine ⟨X + 1, hBX, ?_, hT⟩
        rcases hT with h | ⟨g9, off9, e9, hg9, h9⟩
        · exact absurd h e
        · cases e9
          have := cell_lt (h9 0 (List.length_pos_iff.2 e))
          omega
    have hBk : Blk W g bi7V 59 := by unfold Blk; rw [hW.block g hgw]; exact hB
    have h9 := check_c (altsB (alkM bi7)) bi7 (some ⟨g, 0, none⟩) cap (l.map Prod.fst) (some ⟨X, 0, none⟩) l.length d l o cp B2 W ((hrow hW).up hB2 (fun y g off hg h => ⟨h.1, ExAt.up hB2 d _ _ _ h.2⟩)) (bi7_row hBk (by omega)) hT2 hX (by omega) (by decide) (by
      intro f hf
      obtain ⟨k, hk, rfl⟩ := List.getElem_of_mem hf
      have := (bi7_nm k hk).2.2.2.2.2
      unfold maxLen; omega) (by
      intro x hx
      obtain ⟨b, hb, rfl⟩ := List.mem_map.1 hx
      exact hz b hb) hFit hN (by rw [List.length_map]; omega) (by omega) (by
      intro k hk g' off e hg
      have h8 := hl.lt_of hk e
      have h7 : ExAt W B d l[k].2 g' (off + k * 8 + 1) := ExAt.same (hsm hW) d _ _ _ h8.2.2
      exact CpAt.up d _ _ _ h7 (CpAt.same (hsm hW) d _ _ _ h8.1 (hcp k hk g' off e h8.1))) (fun W' m c _ hC => mbaOK bi7 m c W' hC) R hR
    rw [List.length_map] at h9
    exact h9
  have HCt : Hid (∀ W X, TxIn W (X + 1) (some ⟨X, 0, none⟩) (l.map Prod.fst) → Calls Tryz.prog 44 #[.slice (some ⟨X, 0, none⟩) l.length l.length, .string mainB] W fun r w' => r = .returned (.bool (hasT mainB (l.map Prod.fst))) ∧ w' = W) := fun W X hT => by
    have h9 := contains7_c mainB (l.map Prod.fst) (some ⟨X, 0, none⟩) l.length W.heap.size W hT.fit (Nat.le_refl _) (by rw [List.length_map]; omega)
    rw [List.length_map] at h9
    exact h9
  have HZ : Hid (ckM d l R = if l.all (fun b => nameB b.1.data.toList) = false then 2 else if chkN (altsB (alkM bi7)) bi7 d l R = 0 then (if hasT mainB (l.map Prod.fst) then 0 else 10) else chkN (altsB (alkM bi7)) bi7 d l R) := rfl
  have HV : Hid (Below w.heap.size w V ∧ Blk V w.heap.size #[.slice (some ⟨g, 0, none⟩) 5 cap, .slice o l.length cp] 47 ∧ B ≤ w.heap.size) := ⟨b0, k0, hw⟩
  generalize ckM d l R = Z at HZ ⊢
  generalize l.all (fun b => nameB b.1.data.toList) = br at HBr HZ
  generalize chkN (altsB (alkM bi7)) bi7 d l R = ck at HCk HZ
  generalize hasT mainB (l.map Prod.fst) = hm at HCt HZ
  have HEV : Hid (_ = V) := hV
  clear hV b0 k0 hsm hrow hl hz hFit hN hcp hR hB hw hc hs
  generalize l.length = n at h1 HBb HBr HCk HCt HEV HV ⊢
  have hni : (n : Int) ≤ 1 := by omega
  unfold mainB at HCt
  go_enter Tryz.func17, Tryz.ntmps17
  go_wp2_with (go_at_call 39; fail)
  rw [HEV.out]
  refine HP.out.mono ?_
  rintro e w1 ⟨rfl, hb1⟩
  have HB1 : Hid (Below w.heap.size w w1 ∧ Blk w1 w.heap.size #[.slice (some ⟨g, 0, none⟩) 5 cap, .slice o n cp] 47) := ⟨HV.out.1.trans (hb1.mono HV.out.1.size), HV.out.2.1.below hb1⟩
  clear hb1 HP
  have x0 := HB1.out.2.cell 0 _ rfl
  have x1 := HB1.out.2.cell 1 _ rfl
  have l1 := HB1.out.2.lt
  go_wp2_with (go_at_call 40; fail)
  refine (HCm.out w1 HB1.out.1).mono ?_
  rintro e w2 ⟨rfl, hb2⟩
  have HB2 : Hid (Below w.heap.size w w2 ∧ Blk w2 w.heap.size #[.slice (some ⟨g, 0, none⟩) 5 cap, .slice o n cp] 47) := ⟨HB1.out.1.trans (hb2.mono HB1.out.1.size), HB1.out.2.below hb2⟩
  clear hb2 HCm x0 x1 l1
  have x0 := HB2.out.2.cell 0 _ rfl
  have x1 := HB2.out.2.cell 1 _ rfl
  have l1 := HB2.out.2.lt
  go_wp2_with (go_at_call 41; fail)
  refine (HBr.out w2 HB2.out.1).mono ?_
  rintro e w3 ⟨rfl, hb3⟩
  have HB3 : Hid (Below w.heap.size w w3 ∧ Blk w3 w.heap.size #[.slice (some ⟨g, 0, none⟩) 5 cap, .slice o n cp] 47) := ⟨HB2.out.1.trans (hb3.mono HB2.out.1.size), HB2.out.2.below hb3⟩
  clear hb3 HBr x0 x1 l1
  have x0 := HB3.out.2.cell 0 _ rfl
  have x1 := HB3.out.2.cell 1 _ rfl
  have l1 := HB3.out.2.lt
  cases br with
  | false =>
    go_wp2
    go_ret
    exact ⟨by rw [HZ.out]; rfl, HB3.out.1⟩
  | true =>
    go_wp2_with (go_at_call 42; fail)
    refine (HBb.out w3 HB3.out.1).mono ?_
    rintro e w4 ⟨rfl, hT4, hb4⟩
    have HB4 : Hid (Below w.heap.size w w4 ∧ Blk w4 w.heap.size #[.slice (some ⟨g, 0, none⟩) 5 cap, .slice o n cp] 47) := ⟨HB3.out.1.trans (hb4.mono HB3.out.1.size), HB3.out.2.below hb4⟩
    have HT4 : Hid (TxIn w4 (w3.heap.size + 1) (some ⟨w3.heap.size, 0, none⟩) (l.map Prod.fst) ∧ B ≤ w3.heap.size + 1) := ⟨hT4, by have := HV.out.2.2; have := HB3.out.1.size; omega⟩
    clear hb4 hT4 HBb x0 x1 l1
    have x0 := HB4.out.2.cell 0 _ rfl
    have x1 := HB4.out.2.cell 1 _ rfl
    have l1 := HB4.out.2.lt
    generalize w3.heap.size = X at HT4 ⊢
    go_wp2_with (go_at_call 43; fail)
    refine (HCk.out w4 X HB4.out.1 HT4.out.2 HT4.out.1).mono ?_
    rintro e w5 ⟨rfl, hb5⟩
    have HB5 : Hid (Below w.heap.size w w5 ∧ TxIn w5 (X + 1) (some ⟨X, 0, none⟩) (l.map Prod.fst)) := by
      refine ⟨HB4.out.1.trans (hb5.mono HB4.out.1.size), ?_⟩
      rcases HT4.out.1 with h | ⟨g9, off9, e9, hg9, h9⟩
      · exact .inl h
      · refine .inr ⟨g9, off9, e9, hg9, fun k hk => ?_⟩
        have h8 := h9 k hk
        exact (cell_of_block (hb5.block g9 (cell_lt h8)) _).trans h8
    clear hb5 HCk x0 x1 l1
    by_cases h0 : ck = 0
    · subst h0
      go_wp2_with (go_at_call 44; fail)
      refine (HCt.out w5 X HB5.out.2).mono ?_
      rintro e w6 ⟨rfl, hw6⟩
      have hw7 := hw6.symm
      subst hw7
      clear hw6
      cases hm with
      | true =>
        go_wp2
        go_ret
        exact ⟨by rw [HZ.out]; rfl, HB5.out.1⟩
      | false =>
        go_wp2
        go_ret
        exact ⟨by rw [HZ.out]; rfl, HB5.out.1⟩
    · have e0 : (ck != 0) = true := by simpa using h0
      have HZ2 : Hid (Z = ck) := by show _ = _; rw [HZ.out, if_neg (by decide), if_neg h0]
      go_wp2
      go_ret
      exact ⟨by rw [HZ2.out]; rfl, HB5.out.1⟩
end Go.Proofs.YtegdloenakachaaGreatDoor

namespace Go.Proofs.YtegdloenakachaaGreatDoor
open Go.RowKit Go.Shelf Go.Maps
set_option linter.unusedVariables false

set_option maxHeartbeats 2000000 in
set_option maxRecDepth 100000 in
theorem join1_c (g off c : Nat) (x sep : ByteArray) (w : World) (h : w.cell? ⟨g, off, none⟩ = some (.string x)) (hg : g < w.heap.size) : Calls Tryz.prog 135 #[.slice (some ⟨g, off, none⟩) 1 c, .string sep] w fun e w' => e = .returned (.string x) ∧ w' = w := by
  go_enter Tryz.func135, Tryz.ntmps135
  go_wp2
  go_ret
  exact ⟨rfl, rfl⟩
/-- What is told goes behind what was told. -/
def TlPost (B b : Nat) (bs : List Value) (w : World) (r : Ending) (w' : World) : Prop := r = .returned (.tuple #[]) ∧ TlAt B b (.pointer (some ⟨b, 0, none⟩)) bs w' ∧ Below B w w'
theorem putN (B b : Nat) (bs : List Value) (l : List ByteArray) (hl0 : l ≠ []) (w : World) (h : IsTl B b bs w) (hlen : bs.length ≤ 100000) (hls : ∀ x ∈ l, x.size ≤ 100000) (hn : l.length ≤ 100) (hBw : B ≤ w.heap.size) (n : Nat) (hln : l.length = n) (cs : Array Value) (hcs : cs = (l.map Value.string).toArray) :
    Calls Tryz.prog 99 #[.pointer (some ⟨b, 0, none⟩), .slice (some ⟨w.heap.size, 0, none⟩) n n] (w.alloc (.cells cs 9)) fun r w' => TlPost B b (bs ++ flS l) w r w' := by
  subst hln hcs
  have hB1 := below1 w (.cells (l.map Value.string).toArray 9)
  refine (put_c B b bs l hl0 w.heap.size l.length _ (h.below hB1) hlen hls hn (Blk.new w _ _) (Nat.le_trans hBw hB1.size) (by have := h.lt; omega)).mono ?_
  rintro e w' ⟨rfl, q1, q2, -⟩
  exact ⟨rfl, q1, (hB1.mono hBw).trans q2⟩
set_option maxHeartbeats 2000000 in
set_option maxRecDepth 100000 in
theorem tellVar_c (B b : Nat) (bs : List Value) (nm : ByteArray) (g off : Nat) (w : World) (h : IsTl B b bs w) (hlen : bs.length ≤ 100000) (hs : nm.size ≤ 100000) (hBw : B ≤ w.heap.size) (hg : g < w.heap.size) (h0 : w.cell? ⟨g, off, none⟩ = some (.int .i64 1)) (h1 : w.cell? ⟨g, off + 1, none⟩ = some (.string nm)) :
    Calls Tryz.prog 52 #[.pointer (some ⟨b, 0, none⟩), .pointer (some ⟨g, off, none⟩)] w fun r w' => TlPost B b (bs ++ Lib.strCells nm) w r w' := by
  have HP : Hid (Calls Tryz.prog 99 #[.pointer (some ⟨b, 0, none⟩), .slice (some ⟨w.heap.size, 0, none⟩) 1 1] (w.alloc (.cells #[.string nm] 9)) fun r w' => TlPost B b (bs ++ flS [nm]) w r w') := putN B b bs [nm] (by simp) w h hlen (by intro x hx; simp at hx; subst hx; exact hs) (by simp) hBw 1 rfl _ rfl
  have lb := h.lt
  clear h hlen hs hBw
  go_enter Tryz.func52, Tryz.ntmps52
  go_wp2_with (go_at_call 99; fail)
  refine HP.out.mono ?_
  rintro e w1 ⟨rfl, q1, q2⟩
  have HQ : Hid (TlAt B b (.pointer (some ⟨b, 0, none⟩)) (bs ++ flS [nm]) w1 ∧ Below B w w1) := ⟨q1, q2⟩
  clear q1 q2 HP
  go_wp2
  go_end0
  refine ⟨rfl, ?_, HQ.out.2⟩
  have := HQ.out.1
  simpa [flS] using this
end Go.Proofs.YtegdloenakachaaGreatDoor

namespace Go.Proofs.YtegdloenakachaaGreatDoor
open Go.RowKit Go.Shelf Go.Maps
set_option linter.unusedVariables false

def bBl : ByteArray := ⟨#[32]⟩
def bOp : ByteArray := ⟨#[40]⟩
def bCl : ByteArray := ⟨#[41]⟩
def bLm : ByteArray := ⟨#[92, 32]⟩
def bAr : ByteArray := ⟨#[32, 45, 62]⟩
theorem putOne (B b : Nat) (bs : List Value) (x : ByteArray) (w : World) (h : IsTl B b bs w) (hlen : bs.length ≤ 100000) (hs : x.size ≤ 100000) (hBw : B ≤ w.heap.size) :
    Calls Tryz.prog 99 #[.pointer (some ⟨b, 0, none⟩), .slice (some ⟨w.heap.size, 0, none⟩) 1 1] (w.alloc (.cells #[.string x] 9)) fun r w' => TlPost B b (bs ++ Lib.strCells x) w r w' := by
  have h9 := putN B b bs [x] (by simp) w h hlen (by intro y hy; simp at hy; subst hy; exact hs) (by simp) hBw 1 rfl #[.string x] rfl
  have e : flS [x] = Lib.strCells x := by simp [flS]
  rw [e] at h9
  exact h9
set_option maxHeartbeats 2000000 in
set_option maxRecDepth 100000 in
theorem tellExprs1_c (B b : Nat) (bs : List Value) (nm : ByteArray) (g off c : Nat) (w : World) (h : IsTl B b bs w) (hlen : bs.length ≤ 50000) (hs : nm.size ≤ 100000) (hBw : B ≤ w.heap.size) (hg : g < B) (h0 : w.cell? ⟨g, off, none⟩ = some (.int .i64 1)) (h1 : w.cell? ⟨g, off + 1, none⟩ = some (.string nm)) :
    Calls Tryz.prog 134 #[.pointer (some ⟨b, 0, none⟩), .slice (some ⟨g, off, none⟩) 1 c] w fun r w' => TlPost B b (bs ++ Lib.strCells bBl ++ Lib.strCells nm) w r w' := by
  have HP : Hid (Calls Tryz.prog 99 #[.pointer (some ⟨b, 0, none⟩), .slice (some ⟨w.heap.size, 0, none⟩) 1 1] (w.alloc (.cells #[.string bBl] 9)) fun r w' => TlPost B b (bs ++ Lib.strCells bBl) w r w') := putOne B b bs bBl w h (by omega) (by decide) hBw
  have HE : Hid (∀ W, TlAt B b (.pointer (some ⟨b, 0, none⟩)) (bs ++ Lib.strCells bBl) W → Below B w W → Calls Tryz.prog 52 #[.pointer (some ⟨b, 0, none⟩), .pointer (some ⟨g, off, none⟩)] W fun r w' => TlPost B b (bs ++ Lib.strCells bBl ++ Lib.strCells nm) W r w') := fun W hT hW => tellVar_c B b _ nm g off W (.inr hT) (by rw [List.length_append, Lib.strCells_length]; show _ + 1 ≤ _; omega) hs (Nat.le_trans hBw hW.size) (by have := hW.size; omega) ((cell_of_block (hW.block g hg) _).trans h0) ((cell_of_block (hW.block g hg) _).trans h1)
  have lb := h.lt
  have lg : g < w.heap.size := by omega
  unfold bBl at HP
  clear h hlen hs h0 h1
  go_enter Tryz.func134, Tryz.ntmps134
  go_wp2
  go_loopw [7] (fun v wr => ∃ k : Nat, v = .int .i64 (k : Int) ∧ Hid (k ≤ 1 ∧ (k = 0 → wr = w) ∧ (k = 1 → TlAt B b (.pointer (some ⟨b, 0, none⟩)) (bs ++ Lib.strCells bBl ++ Lib.strCells nm) wr ∧ Below B w wr))) (fun v _ => 1 - (intOf v).toNat)
  case atStart => exact ⟨0, rfl, ⟨Nat.zero_le _, fun _ => rfl, fun h => by cases h⟩⟩
  case round =>
    obtain ⟨k, rfl, HI⟩ := hrel
    rcases (by have := HI.out.1; omega : k = 0 ∨ k = 1) with rfl | rfl
    · have hwr := (HI.out.2.1 rfl).symm
      subst hwr
      clear HI
      go_wp2_with (go_at_call 99; fail)
      refine HP.out.mono ?_
      rintro e w1 ⟨rfl, q1, q2⟩
      have HC : Hid (Calls Tryz.prog 52 #[.pointer (some ⟨b, 0, none⟩), .pointer (some ⟨g, off, none⟩)] w1 fun r w' => TlPost B b (bs ++ Lib.strCells bBl ++ Lib.strCells nm) w1 r w') := HE.out w1 q1 q2
      have l1 : b < w1.heap.size := TlAt.lt q1
      have l2 : g < w1.heap.size := Nat.lt_of_lt_of_le lg q2.size
      have HQ : Hid (Below B w w1) := q2
      clear q1 q2 HP HE
      go_wp2_with (go_at_call 52; fail)
      refine HC.out.mono ?_
      rintro e w2 ⟨rfl, q1, q2⟩
      have HQ2 : Hid (TlAt B b (.pointer (some ⟨b, 0, none⟩)) (bs ++ Lib.strCells bBl ++ Lib.strCells nm) w2 ∧ Below B w w2) := ⟨q1, HQ.out.trans q2⟩
      clear q1 q2 HC
      go_wp2
      exact ⟨⟨1, rfl, ⟨Nat.le_refl _, fun e => (by cases e), fun _ => HQ2.out⟩⟩, by decide⟩
    · have HQ : Hid (TlAt B b (.pointer (some ⟨b, 0, none⟩)) (bs ++ Lib.strCells bBl ++ Lib.strCells nm) wr ∧ Below B w wr) := HI.out.2.2 rfl
      clear HI
      go_wp2
      go_end0
      exact ⟨rfl, HQ.out⟩
/-- A function of one name whose body is a variable, in memory below B. -/
structure Lm1 (B : Nat) (w : World) (g off gp op cp ga oa ca : Nat) (x y : ByteArray) : Prop where
  lg : g < B
  lp : gp < B
  la : ga < B
  k : w.cell? ⟨g, off, none⟩ = some (.int .i64 5)
  p : w.cell? ⟨g, off + 3, none⟩ = some (.slice (some ⟨gp, op, none⟩) 1 cp)
  a : w.cell? ⟨g, off + 5, none⟩ = some (.slice (some ⟨ga, oa, none⟩) 1 ca)
  x : w.cell? ⟨gp, op, none⟩ = some (.string x)
  e0 : w.cell? ⟨ga, oa, none⟩ = some (.int .i64 1)
  e1 : w.cell? ⟨ga, oa + 1, none⟩ = some (.string y)
theorem Lm1.below {B : Nat} {w W : World} {g off gp op cp ga oa ca : Nat} {x y : ByteArray} (h : Lm1 B w g off gp op cp ga oa ca x y) (hW : Below B w W) : Lm1 B W g off gp op cp ga oa ca x y :=
  ⟨h.lg, h.lp, h.la, (cell_of_block (hW.block _ h.lg) _).trans h.k, (cell_of_block (hW.block _ h.lg) _).trans h.p, (cell_of_block (hW.block _ h.lg) _).trans h.a, (cell_of_block (hW.block _ h.lp) _).trans h.x, (cell_of_block (hW.block _ h.la) _).trans h.e0, (cell_of_block (hW.block _ h.la) _).trans h.e1⟩
set_option maxHeartbeats 4000000 in
set_option maxRecDepth 100000 in
theorem tellIn5_c (B b : Nat) (bs : List Value) (x y : ByteArray) (g off gp op cp ga oa ca : Nat) (w : World) (h : IsTl B b bs w) (hlen : bs.length ≤ 1000) (hs : x.size ≤ 1000) (hs2 : y.size ≤ 1000) (hBw : B ≤ w.heap.size) (hL : Lm1 B w g off gp op cp ga oa ca x y) :
    Calls Tryz.prog 102 #[.pointer (some ⟨b, 0, none⟩), .pointer (some ⟨g, off, none⟩)] w fun r w' => TlPost B b (bs ++ flS [bLm, x, bAr] ++ Lib.strCells bBl ++ Lib.strCells y) w r w' := by
  have hfl : (flS [bLm, x, bAr]).length = 5 + x.size := by
    unfold flS
    simp only [List.flatMap_cons, List.flatMap_nil, List.append_nil, List.length_append, Lib.strCells_length]
    show 2 + (x.size + 3) = _; omega
  have HJ : Hid (Calls Tryz.prog 135 #[.slice (some ⟨gp, op, none⟩) 1 cp, .string ⟨#[32]⟩] w fun e w' => e = .returned (.string x) ∧ w' = w) := join1_c gp op cp x _ w hL.x (by have := hL.lp; omega)
  have HP : Hid (Calls Tryz.prog 99 #[.pointer (some ⟨b, 0, none⟩), .slice (some ⟨w.heap.size, 0, none⟩) 3 3] (w.alloc (.cells #[.string ⟨#[92, 32]⟩, .string x, .string ⟨#[32, 45, 62]⟩] 9)) fun r w' => TlPost B b (bs ++ flS [bLm, x, bAr]) w r w') := putN B b bs [bLm, x, bAr] (by simp) w h (by omega) (by
    intro z hz
    simp at hz
    rcases hz with rfl | rfl | rfl
    · decide
    · omega
    · decide) (by simp) hBw 3 rfl _ rfl
  have HE : Hid (∀ W, TlAt B b (.pointer (some ⟨b, 0, none⟩)) (bs ++ flS [bLm, x, bAr]) W → Below B w W → Calls Tryz.prog 134 #[.pointer (some ⟨b, 0, none⟩), .slice (some ⟨ga, oa, none⟩) 1 ca] W fun r w' => TlPost B b (bs ++ flS [bLm, x, bAr] ++ Lib.strCells bBl ++ Lib.strCells y) W r w') := fun W hT hW => tellExprs1_c B b _ y ga oa ca W (.inr hT) (by rw [List.length_append, hfl]; omega) (by omega) (Nat.le_trans hBw hW.size) hL.la (hL.below hW).e0 (hL.below hW).e1
  have HL : Hid (Lm1 B w g off gp op cp ga oa ca x y ∧ B ≤ w.heap.size) := ⟨hL, hBw⟩
  have lb := h.lt
  have lg : g < w.heap.size := by have := hL.lg; omega
  have c0 := hL.k
  have c3 := hL.p
  clear h hlen hs hs2 hL hfl hBw
  go_enter Tryz.func102, Tryz.ntmps102
  go_wp2_with (go_at_call 135; fail)
  refine HJ.out.mono ?_
  rintro e w1 ⟨rfl, hw1⟩
  have hw2 := hw1.symm
  subst hw2
  clear hw1 HJ
  go_wp2_with (go_at_call 99; fail)
  refine HP.out.mono ?_
  rintro e w1 ⟨rfl, q1, q2⟩
  have HC : Hid (Calls Tryz.prog 134 #[.pointer (some ⟨b, 0, none⟩), .slice (some ⟨ga, oa, none⟩) 1 ca] w1 fun r w' => TlPost B b (bs ++ flS [bLm, x, bAr] ++ Lib.strCells bBl ++ Lib.strCells y) w1 r w') := HE.out w1 q1 q2
  have l1 : b < w1.heap.size := TlAt.lt q1
  have l2 : g < w1.heap.size := Nat.lt_of_lt_of_le lg q2.size
  have c5 := (HL.out.1.below q2).a
  have HQ : Hid (Below B w w1) := q2
  clear q1 q2 HP HE c0 c3
  go_wp2_with (go_at_call 134; fail)
  refine HC.out.mono ?_
  rintro e w2 ⟨rfl, q1, q2⟩
  have HQ2 : Hid (TlAt B b (.pointer (some ⟨b, 0, none⟩)) (bs ++ flS [bLm, x, bAr] ++ Lib.strCells bBl ++ Lib.strCells y) w2 ∧ Below B w w2) := ⟨q1, HQ.out.trans q2⟩
  clear q1 q2 HC
  go_wp2
  go_end0
  exact ⟨rfl, HQ2.out⟩
set_option maxHeartbeats 4000000 in
set_option maxRecDepth 100000 in
theorem tellLm_c (B b : Nat) (bs : List Value) (x y : ByteArray) (g off gp op cp ga oa ca : Nat) (w : World) (h : IsTl B b bs w) (hlen : bs.length ≤ 900) (hs : x.size ≤ 1000) (hs2 : y.size ≤ 1000) (hBw : B ≤ w.heap.size) (hL : Lm1 B w g off gp op cp ga oa ca x y) :
    Calls Tryz.prog 52 #[.pointer (some ⟨b, 0, none⟩), .pointer (some ⟨g, off, none⟩)] w fun r w' => TlPost B b (bs ++ Lib.strCells bOp ++ flS [bLm, x, bAr] ++ Lib.strCells bBl ++ Lib.strCells y ++ Lib.strCells bCl) w r w' := by
  have HP1 : Hid (Calls Tryz.prog 99 #[.pointer (some ⟨b, 0, none⟩), .slice (some ⟨w.heap.size, 0, none⟩) 1 1] (w.alloc (.cells #[.string ⟨#[40]⟩] 9)) fun r w' => TlPost B b (bs ++ Lib.strCells bOp) w r w') := putOne B b bs bOp w h (by omega) (by decide) hBw
  have HI1 : Hid (∀ W, TlAt B b (.pointer (some ⟨b, 0, none⟩)) (bs ++ Lib.strCells bOp) W → Below B w W → Calls Tryz.prog 102 #[.pointer (some ⟨b, 0, none⟩), .pointer (some ⟨g, off, none⟩)] W fun r w' => TlPost B b (bs ++ Lib.strCells bOp ++ flS [bLm, x, bAr] ++ Lib.strCells bBl ++ Lib.strCells y) W r w') := fun W hT hW => tellIn5_c B b _ x y g off gp op cp ga oa ca W (.inr hT) (by rw [List.length_append, Lib.strCells_length]; show _ + 1 ≤ _; omega) hs hs2 (Nat.le_trans hBw hW.size) (hL.below hW)
  have HP2 : Hid (∀ W, TlAt B b (.pointer (some ⟨b, 0, none⟩)) (bs ++ Lib.strCells bOp ++ flS [bLm, x, bAr] ++ Lib.strCells bBl ++ Lib.strCells y) W → Below B w W → Calls Tryz.prog 99 #[.pointer (some ⟨b, 0, none⟩), .slice (some ⟨W.heap.size, 0, none⟩) 1 1] (W.alloc (.cells #[.string ⟨#[41]⟩] 9)) fun r w' => TlPost B b (bs ++ Lib.strCells bOp ++ flS [bLm, x, bAr] ++ Lib.strCells bBl ++ Lib.strCells y ++ Lib.strCells bCl) W r w') := fun W hT hW => putOne B b _ bCl W (.inr hT) (by
    have hfl : (flS [bLm, x, bAr]).length = 5 + x.size := by
      unfold flS
      simp only [List.flatMap_cons, List.flatMap_nil, List.append_nil, List.length_append, Lib.strCells_length]
      show 2 + (x.size + 3) = _; omega
    simp only [List.length_append, Lib.strCells_length, hfl]
    show bs.length + 1 + (5 + x.size) + 1 + y.size ≤ _; omega) (by decide) (Nat.le_trans hBw hW.size)
  have lb := h.lt
  have lg : g < w.heap.size := by have := hL.lg; omega
  have c0 := hL.k
  clear h hlen hs hs2 hL hBw
  go_enter Tryz.func52, Tryz.ntmps52
  go_wp2_with (go_at_call 99; fail)
  refine HP1.out.mono ?_
  rintro e w1 ⟨rfl, q1, q2⟩
  have HC : Hid (Calls Tryz.prog 102 #[.pointer (some ⟨b, 0, none⟩), .pointer (some ⟨g, off, none⟩)] w1 fun r w' => TlPost B b (bs ++ Lib.strCells bOp ++ flS [bLm, x, bAr] ++ Lib.strCells bBl ++ Lib.strCells y) w1 r w') := HI1.out w1 q1 q2
  have HQ : Hid (Below B w w1) := q2
  clear q1 q2 HP1 HI1 c0
  go_wp2_with (go_at_call 102; fail)
  refine HC.out.mono ?_
  rintro e w2 ⟨rfl, q1, q2⟩
  have HC2 : Hid (Calls Tryz.prog 99 #[.pointer (some ⟨b, 0, none⟩), .slice (some ⟨w2.heap.size, 0, none⟩) 1 1] (w2.alloc (.cells #[.string ⟨#[41]⟩] 9)) fun r w' => TlPost B b (bs ++ Lib.strCells bOp ++ flS [bLm, x, bAr] ++ Lib.strCells bBl ++ Lib.strCells y ++ Lib.strCells bCl) w2 r w') := HP2.out w2 q1 (HQ.out.trans q2)
  have HQ2 : Hid (Below B w w2) := HQ.out.trans q2
  clear q1 q2 HC HP2 HQ
  go_wp2_with (go_at_call 99; fail)
  refine HC2.out.mono ?_
  rintro e w3 ⟨rfl, q1, q2⟩
  have HQ3 : Hid (TlAt B b (.pointer (some ⟨b, 0, none⟩)) (bs ++ Lib.strCells bOp ++ flS [bLm, x, bAr] ++ Lib.strCells bBl ++ Lib.strCells y ++ Lib.strCells bCl) w3 ∧ Below B w w3) := ⟨q1, HQ2.out.trans q2⟩
  clear q1 q2 HC2
  go_wp2
  go_end0
  exact ⟨rfl, HQ3.out⟩
end Go.Proofs.YtegdloenakachaaGreatDoor

namespace Go.Proofs.YtegdloenakachaaGreatDoor
open Go.RowKit Go.Shelf Go.Maps
set_option linter.unusedVariables false

def varT (y : ByteArray) : Tr 1 := (⟨1, y, 0, [], [], [], []⟩ : TrN (Tr 0))
def lamT (x y : ByteArray) : Tr 2 := (⟨5, ⟨#[]⟩, 0, [x], [], [varT y], []⟩ : TrN (Tr 1))
def txtB (x y : ByteArray) : List UInt8 := bOp.data.toList ++ (bLm.data.toList ++ (x.data.toList ++ (bAr.data.toList ++ (bBl.data.toList ++ (y.data.toList ++ bCl.data.toList)))))
theorem txtB_cells (x y : ByteArray) : [] ++ Lib.strCells bOp ++ flS [bLm, x, bAr] ++ Lib.strCells bBl ++ Lib.strCells y ++ Lib.strCells bCl = Lib.byteCells (txtB x y) := by
  unfold flS txtB
  simp only [List.flatMap_cons, List.flatMap_nil, List.append_nil, List.nil_append, Lib.strCells_eq, Lib.byteCells, List.map_append, List.append_assoc]
theorem tl_new (W : World) : IsTl W.heap.size W.heap.size [] (W.alloc (.cells #[.pointer none, .slice none 0 0] 94)) :=
  .inl ⟨Nat.le_refl _, .slice none 0 0, Blk.new W _ _, World.ownsRow_nil _ _ _ _, by intro h; cases h⟩
set_option maxHeartbeats 4000000 in
set_option maxRecDepth 100000 in
theorem TextLm_c (x y : ByteArray) (v : Value) (B : Nat) (w : World) (hv : ExVal w B 1 (lamT x y) v) (hw : B ≤ w.heap.size) (hx : x.size ≤ 1000) (hy : y.size ≤ 1000) :
    Calls Tryz.prog 29 #[v] w fun e w' => e = .returned (.string ⟨(txtB x y).toArray⟩) ∧ Below w.heap.size w w' := by
  obtain ⟨o3, c3, o4, c4, o5, c5, o6, c6, rfl, k3, k4, k5, k6⟩ := id hv
  obtain ⟨gp, op, rfl, hgp, kx⟩ : ∃ g off, o3 = some ⟨g, off, none⟩ ∧ g < B ∧ w.cell? ⟨g, off, none⟩ = some (.string x) := by
    rcases k3 with h | ⟨g, off, e, hg, h⟩
    · cases h
    · exact ⟨g, off, e, hg, by have := h 0 Nat.zero_lt_one; rw [Nat.add_zero] at this; exact this⟩
  obtain ⟨ga, oa, rfl, hga, ky⟩ : ∃ g off, o5 = some ⟨g, off, none⟩ ∧ g < B ∧ ExAt w B 1 (varT y) g off := by
    rcases k5 with h | ⟨g, off, e, hg, h⟩
    · cases h
    · exact ⟨g, off, e, hg, by have := h 0 Nat.zero_lt_one; rw [Nat.zero_mul, Nat.add_zero] at this; exact this⟩
  obtain ⟨-, y0, y1, -⟩ := ky
  obtain ⟨V, hV⟩ : ∃ V, w.alloc (.cells #[.int .i64 5, .string ⟨#[]⟩, .int .i64 0, .slice (some ⟨gp, op, none⟩) 1 c3, .slice o4 0 c4, .slice (some ⟨ga, oa, none⟩) 1 c5, .slice o6 0 c6] 31) = V := ⟨_, rfl⟩
  have kV : Blk V w.heap.size #[.int .i64 5, .string ⟨#[]⟩, .int .i64 0, .slice (some ⟨gp, op, none⟩) 1 c3, .slice o4 0 c4, .slice (some ⟨ga, oa, none⟩) 1 c5, .slice o6 0 c6] 31 := by rw [← hV]; exact Blk.new w _ _
  have bV : Below w.heap.size w V := by rw [← hV]; exact below1 w _
  have sV : V.heap.size = w.heap.size + 1 := by rw [← hV]; exact Array.size_push _
  have hE : ExAt V (w.heap.size + 1) 2 (lamT x y) w.heap.size 0 := (hv.same (fun g off hg => cell_of_block (bV.block g (by omega)) off)).at hw kV
  have hL : Lm1 V.heap.size V w.heap.size 0 gp op c3 ga oa c5 x y := by
    have e : ∀ g off, g < B → V.cell? ⟨g, off, none⟩ = w.cell? ⟨g, off, none⟩ := fun g off hg => cell_of_block (bV.block g (by omega)) off
    exact ⟨by omega, by omega, by omega, kV.cell 0 _ rfl, kV.cell 3 _ rfl, kV.cell 5 _ rfl, (e _ _ hgp).trans kx, (e _ _ hga).trans y0, (e _ _ hga).trans y1⟩
  have HF : Hid (Calls Tryz.prog 30 #[.pointer (some ⟨w.heap.size, 0, none⟩)] V fun e w' => e = .returned (.bool true) ∧ Below V.heap.size V w') := fits_c 2 (lamT x y) (w.heap.size + 1) w.heap.size 0 V hE (by omega) (by show (2 : Nat) ≤ _; omega) (by decide)
  have HT : Hid (∀ W, Below V.heap.size V W → Calls Tryz.prog 52 #[.pointer (some ⟨W.heap.size, 0, none⟩), .pointer (some ⟨w.heap.size, 0, none⟩)] (W.alloc (.cells #[.pointer none, .slice none 0 0] 94)) fun r w' => TlPost W.heap.size W.heap.size (Lib.byteCells (txtB x y)) (W.alloc (.cells #[.pointer none, .slice none 0 0] 94)) r w') := by
    intro W hW
    have hb := below1 W (.cells #[.pointer none, .slice none 0 0] 94)
    have hL2 : Lm1 W.heap.size (W.alloc (.cells #[.pointer none, .slice none 0 0] 94)) w.heap.size 0 gp op c3 ga oa c5 x y := by
      have h8 := hL.below hW
      have hs := hW.size
      have h9 : Lm1 W.heap.size W w.heap.size 0 gp op c3 ga oa c5 x y := ⟨by have := h8.lg; omega, by have := h8.lp; omega, by have := h8.la; omega, h8.k, h8.p, h8.a, h8.x, h8.e0, h8.e1⟩
      exact h9.below hb
    have h9 := tellLm_c W.heap.size W.heap.size [] x y w.heap.size 0 gp op c3 ga oa c5 _ (tl_new W) (by simp) hx hy hb.size hL2
    rw [txtB_cells] at h9
    exact h9
  have HV : Hid (Below w.heap.size w V) := bV
  have HEV : Hid (_ = V) := hV
  have hne : txtB x y ≠ [] := by unfold txtB bOp; simp
  have HNe : Hid (txtB x y ≠ []) := hne
  have lV : w.heap.size < V.heap.size := by omega
  have HlV : Hid (w.heap.size < V.heap.size) := lV
  generalize txtB x y = tb at HT HNe ⊢
  clear hv k3 k4 k5 k6 kx y0 y1 hV kV bV sV hE hL hx hy hne hw hgp hga lV
  show Calls Tryz.prog 29 #[.agg #[.int .i64 5, .string ⟨#[]⟩, .int .i64 0, .slice (some ⟨gp, op, none⟩) 1 c3, .slice o4 0 c4, .slice (some ⟨ga, oa, none⟩) 1 c5, .slice o6 0 c6]] w _
  go_enter Tryz.func29, Tryz.ntmps29
  go_wp2_with (go_at_call 30; fail)
  rw [HEV.out]
  refine HF.out.mono ?_
  rintro e w1 ⟨rfl, h1⟩
  have HC : Hid (Calls Tryz.prog 52 #[.pointer (some ⟨w1.heap.size, 0, none⟩), .pointer (some ⟨w.heap.size, 0, none⟩)] (w1.alloc (.cells #[.pointer none, .slice none 0 0] 94)) fun r w' => TlPost w1.heap.size w1.heap.size (Lib.byteCells tb) (w1.alloc (.cells #[.pointer none, .slice none 0 0] 94)) r w') := HT.out w1 h1
  have H1 : Hid (Below w.heap.size w w1 ∧ w.heap.size < w1.heap.size) := ⟨HV.out.trans (h1.mono HV.out.size), by have := h1.size; have := HlV.out; omega⟩
  clear h1 HF HT HEV HV
  go_wp2_with (go_at_call 52; fail)
  refine HC.out.mono ?_
  rintro e w2 ⟨rfl, q1, q2⟩
  have HS : Hid (Calls Tryz.prog 53 #[.pointer (some ⟨w1.heap.size, 0, none⟩)] w2 fun e w' => e = .returned (.string ⟨tb.toArray⟩) ∧ Below w1.heap.size w2 w') := tlString w1.heap.size w1.heap.size _ tb w2 q1 HNe.out
  have H2 : Hid (Below w.heap.size w w2) := by
    have hb := below1 w1 (.cells #[.pointer none, .slice none 0 0] 94)
    exact H1.out.1.trans ((hb.trans q2).mono (Nat.le_of_lt H1.out.2))
  have l2 : w1.heap.size < w2.heap.size := TlAt.lt q1
  clear q1 q2 HC
  go_wp2_with (go_at_call 53; fail)
  refine HS.out.mono ?_
  rintro e w3 ⟨rfl, q⟩
  have H3 : Hid (Below w.heap.size w w3) := H2.out.trans (q.mono (Nat.le_of_lt H1.out.2))
  clear q HS
  go_wp2
  go_ret
  exact ⟨rfl, H3.out⟩
end Go.Proofs.YtegdloenakachaaGreatDoor

namespace Go.Proofs.YtegdloenakachaaGreatDoor
open Go.RowKit Go.Shelf Go.Maps
set_option linter.unusedVariables false
def xB7 : ByteArray := ⟨#[120]⟩
def yB7 : ByteArray := ⟨#[121]⟩
def zB7 : ByteArray := ⟨#[122]⟩
/-- An application of two variables, a lambda around it. -/
def apT (x y : ByteArray) : Tr 2 := (⟨6, ⟨#[]⟩, 0, [], [], [varT x, varT y], []⟩ : TrN (Tr 1))
def laT (p x y : ByteArray) : Tr 3 := (⟨5, ⟨#[]⟩, 0, [p], [], [apT x y], []⟩ : TrN (Tr 2))
/-- What an expression of this make is, whatever its depth's bound. -/
structure IsLa (t : Tr (3 + 1)) (p x y : ByteArray) : Prop where
  kind : TrN.kind t = 5
  name : TrN.name t = ⟨#[]⟩
  num : TrN.num t = 0
  params : TrN.params t = [p]
  binds : TrN.binds t = []
  alts : TrN.alts t = []
  body : ∃ u : Tr (2 + 1), TrN.args t = [u] ∧ TrN.kind u = 6 ∧ TrN.name u = ⟨#[]⟩ ∧ TrN.num u = 0 ∧ TrN.params u = [] ∧ TrN.binds u = [] ∧ TrN.alts u = [] ∧ ∃ a c : Tr (1 + 1), TrN.args u = [a, c] ∧
    (TrN.kind a = 1 ∧ TrN.name a = x ∧ TrN.num a = 0 ∧ TrN.params a = [] ∧ TrN.binds a = [] ∧ TrN.args a = [] ∧ TrN.alts a = []) ∧ (TrN.kind c = 1 ∧ TrN.name c = y ∧ TrN.num c = 0 ∧ TrN.params c = [] ∧ TrN.binds c = [] ∧ TrN.args c = [] ∧ TrN.alts c = [])
theorem all2_nil {α β : Type} {R : α → β → Prop} {l' : List β} (h : All2 R [] l') : l' = [] := List.length_eq_zero_iff.1 h.1
theorem all2_one {α β : Type} {R : α → β → Prop} {a : α} {l' : List β} (h : All2 R [a] l') : ∃ b, l' = [b] ∧ R a b := by
  obtain ⟨h1, h2⟩ := h
  match l', h1 with
  | [b], _ => exact ⟨b, rfl, h2 0 (by simp) (by simp)⟩
theorem all2_two {α β : Type} {R : α → β → Prop} {a b : α} {l' : List β} (h : All2 R [a, b] l') : ∃ c d, l' = [c, d] ∧ R a c ∧ R b d := by
  obtain ⟨h1, h2⟩ := h
  match l', h1 with
  | [c, d], _ => exact ⟨c, d, rfl, h2 0 (by simp) (by simp), h2 1 (by simp) (by simp)⟩
theorem sub_ex {φ : List UInt8 → Nat} {t' : Tr (1 + 3)} (h : SubR xB7 (freeM 1 (varT yB7) []) 1 (varT yB7) φ 3 [] (laT yB7 xB7 yB7) t') : φ [121] ≠ 0 ∧ IsLa t' (numB (φ [121])) yB7 (numB (φ [121])) := by
  have hF : freeM 1 (varT yB7) [] [121] = true := by decide
  rcases h with h | ⟨-, h1, h2, h3, -, h4, h5, h6, h7, h8⟩
  · exact absurd h.1 (by decide)
  have hn : φ [121] ≠ 0 := h4 yB7 (by simp [bndM, laT]) hF
  have hrn : rnB (freeM 1 (varT yB7) []) φ yB7 = numB (φ [121]) := if_pos hF
  refine ⟨hn, ⟨h1, ?_, h2, ?_, all2_nil h6, all2_nil h8, ?_⟩⟩
  · rw [h3]; rfl
  · rw [h5]
    show [rnB _ φ yB7] = _
    rw [hrn]
  · obtain ⟨u, hu, hR⟩ := all2_one h7
    refine ⟨u, hu, ?_⟩
    rcases hR with h | ⟨-, g1, g2, g3, -, g4, g5, g6, g7, g8⟩
    · exact absurd h.1 (by decide)
    refine ⟨g1, by rw [g3]; rfl, g2, by rw [g5]; rfl, all2_nil g6, all2_nil g8, ?_⟩
    obtain ⟨a, c, hac, hA, hC⟩ := all2_two g7
    refine ⟨a, c, hac, ?_, ?_⟩
    · rcases hA with ⟨-, -, -, rfl⟩ | ⟨hno, -⟩
      · exact ⟨rfl, rfl, rfl, rfl, rfl, rfl, rfl⟩
      · exact absurd ⟨rfl, by decide, rfl⟩ hno
    · rcases hC with ⟨-, hc, -⟩ | ⟨-, f1, f2, f3, -, -, f5, f6, f7, f8⟩
      · exact absurd hc (by decide)
      · refine ⟨f1, ?_, f2, by rw [f5]; rfl, all2_nil f6, all2_nil f7, all2_nil f8⟩
        rw [f3, if_pos ⟨rfl, by decide⟩]
        exact hrn
theorem lvl1 (p x : List UInt8) (h : x ≠ p) : lvlN [p] x = 0 := by
  show (if x = p then _ else _) = 0
  rw [if_neg h]; rfl
theorem lvl1s (p : List UInt8) : lvlN [p] p = 1 := by
  show (if p = p then _ else _) = 1
  rw [if_pos rfl]; rfl
/-- Such expressions differ in their bound name alone. -/
theorem same_la {t1 t2 : Tr (3 + 1)} {p q : ByteArray} (h1 : IsLa t1 p yB7 p) (h2 : IsLa t2 q yB7 q) (hp : yB7.data.toList ≠ p.data.toList) (hq : yB7.data.toList ≠ q.data.toList) : sameM (3 + 1) t1 t2 [] [] = true := by
  obtain ⟨u1, e1, k1, n1, m1, p1, b1, l1, a1, c1, f1, ⟨g1, g2, g3, g4, g5, g6, g7⟩, ⟨i1, i2, i3, i4, i5, i6, i7⟩⟩ := h1.body
  obtain ⟨u2, e2, k2, n2, m2, p2, b2, l2, a2, c2, f2, ⟨r1, r2, r3, r4, r5, r6, r7⟩, ⟨s1, s2, s3, s4, s5, s6, s7⟩⟩ := h2.body
  have bd1 : bndM t1 = [p] := by unfold bndM; rw [h1.params, h1.binds]; rfl
  have bd2 : bndM t2 = [q] := by unfold bndM; rw [h2.params, h2.binds]; rfl
  have bu1 : bndM u1 = [] := by unfold bndM; rw [p1, b1]; rfl
  have bu2 : bndM u2 = [] := by unfold bndM; rw [p2, b2]; rfl
  have ba1 : bndM a1 = [] := by unfold bndM; rw [g4, g5]; rfl
  have ba2 : bndM a2 = [] := by unfold bndM; rw [r4, r5]; rfl
  have bc1 : bndM c1 = [] := by unfold bndM; rw [i4, i5]; rfl
  have bc2 : bndM c2 = [] := by unfold bndM; rw [s4, s5]; rfl
  have sA : sameM (1 + 1) a1 a2 [p.data.toList] [q.data.toList] = true := by
    unfold sameM
    rw [g1, r1, g3, r3, g4, r4, g5, r5, g6, r6, g7, r7, g2, r2, ba1, ba2]
    simp [nameM, dl, lvl1 _ _ hp, lvl1 _ _ hq]
  have sC : sameM (1 + 1) c1 c2 [p.data.toList] [q.data.toList] = true := by
    unfold sameM
    rw [i1, s1, i3, s3, i4, s4, i5, s5, i6, s6, i7, s7, i2, s2, bc1, bc2]
    simp [nameM, dl, lvl1s]
  have sU : sameM (2 + 1) u1 u2 [p.data.toList] [q.data.toList] = true := by
    unfold sameM
    rw [k1, k2, n1, n2, m1, m2, p1, p2, b1, b2, l1, l2, f1, f2, bu1, bu2]
    simp [nameM, dl]
    exact ⟨sA, sC⟩
  unfold sameM
  rw [h1.kind, h2.kind, h1.name, h2.name, h1.num, h2.num, h1.params, h2.params, h1.binds, h2.binds, h1.alts, h2.alts, e1, e2, bd1, bd2]
  simp [nameM, dl]
  exact sU
end Go.Proofs.YtegdloenakachaaGreatDoor

namespace Go.Proofs.YtegdloenakachaaGreatDoor
open Go.RowKit Go.Shelf Go.Maps
set_option linter.unusedVariables false

def PgPost (x0 : Int) (x1 : ByteArray) (x2 : Int) (x3 x4 x5 x6 : Option Addr) (y3 z3 y4 z4 y5 z5 y6 z6 : Nat) (w : World) (r : Ending) (w' : World) : Prop := ∃ g M, r = .returned (.agg #[.slice (some ⟨g, 0, none⟩) 5 5, .slice (some ⟨M, 0, none⟩) 1 1]) ∧ w.heap.size ≤ g ∧ w.heap.size ≤ M ∧ Blk w' g bi7V 59 ∧ Blk w' M #[.string mainB, .int .i64 x0, .string x1, .int .i64 x2, .slice x3 y3 z3, .slice x4 y4 z4, .slice x5 y5 z5, .slice x6 y6 z6] 36 ∧ Below w.heap.size w w'
theorem pgA {x0 : Int} {x1 : ByteArray} {x2 : Int} {x3 x4 x5 x6 : Option Addr} {y3 z3 y4 z4 y5 z5 y6 z6 : Nat} {w V w2 : World} (hw : w.heap.size + 1 < V.heap.size) (h1 : Blk w2 V.heap.size bi7V 59) (h2 : Blk w2 (w.heap.size + 1) #[.slice none 0 0, .slice none 0 0] 47) (h3 : Below w.heap.size w w2) (Z : World) (hZ : Z = ((w2.setCell ⟨w.heap.size + 1, 0, none⟩ (.slice (some ⟨V.heap.size, 0, none⟩) 5 5)).setCell ⟨w.heap.size + 1, 1, none⟩ (.slice (some ⟨w2.heap.size, 0, none⟩) 1 1)).alloc (.cells #[.string mainB, .int .i64 x0, .string x1, .int .i64 x2, .slice x3 y3 z3, .slice x4 y4 z4, .slice x5 y5 z5, .slice x6 y6 z6] 36)) :
    Blk Z (w.heap.size + 1) #[.slice (some ⟨V.heap.size, 0, none⟩) 5 5, .slice (some ⟨w2.heap.size, 0, none⟩) 1 1] 47 ∧ PgPost x0 x1 x2 x3 x4 x5 x6 y3 z3 y4 z4 y5 z5 y6 z6 w (.returned (.agg #[.slice (some ⟨V.heap.size, 0, none⟩) 5 5, .slice (some ⟨w2.heap.size, 0, none⟩) 1 1])) Z := by
  have hs : ((w2.setCell ⟨w.heap.size + 1, 0, none⟩ (.slice (some ⟨V.heap.size, 0, none⟩) 5 5)).setCell ⟨w.heap.size + 1, 1, none⟩ (.slice (some ⟨w2.heap.size, 0, none⟩) 1 1)).heap.size = w2.heap.size := by rw [size_set7, size_set7]
  subst hZ
  have hl1 := h1.lt
  have hl2 := h2.lt
  refine ⟨((h2.set 0 _).set 1 _).alloc _, V.heap.size, w2.heap.size, rfl, by omega, by omega, ?_, ?_, ?_⟩
  · refine Blk.alloc ?_ _
    unfold Blk
    rw [heap_set_other _ _ _ _ _ (by omega), heap_set_other _ _ _ _ _ (by omega)]
    exact h1
  · have h9 := Blk.new ((w2.setCell ⟨w.heap.size + 1, 0, none⟩ (.slice (some ⟨V.heap.size, 0, none⟩) 5 5)).setCell ⟨w.heap.size + 1, 1, none⟩ (.slice (some ⟨w2.heap.size, 0, none⟩) 1 1)) #[.string mainB, .int .i64 x0, .string x1, .int .i64 x2, .slice x3 y3 z3, .slice x4 y4 z4, .slice x5 y5 z5, .slice x6 y6 z6] 36
    rw [hs] at h9
    exact h9
  · exact ((h3.setCell (p := ⟨w.heap.size + 1, 0, none⟩) (Nat.le_succ _) _).setCell (p := ⟨w.heap.size + 1, 1, none⟩) (Nat.le_succ _) _).alloc (by have := h3.size; omega) _
theorem pgB {x0 : Int} {x1 : ByteArray} {x2 : Int} {x3 x4 x5 x6 : Option Addr} {y3 z3 y4 z4 y5 z5 y6 z6 : Nat} {w V w2 : World} (hw : w.heap.size + 1 < V.heap.size) (h1 : Blk w2 (V.heap.size + 1) bi7V 59) (h2 : Blk w2 (w.heap.size + 1) #[.slice none 0 0, .slice none 0 0] 47) (h3 : Below w.heap.size w w2) (h4 : Blk w2 V.heap.size #[.string mainB, .int .i64 x0, .string x1, .int .i64 x2, .slice x3 y3 z3, .slice x4 y4 z4, .slice x5 y5 z5, .slice x6 y6 z6] 36) (Z : World) (hZ : Z = (w2.setCell ⟨w.heap.size + 1, 0, none⟩ (.slice (some ⟨V.heap.size + 1, 0, none⟩) 5 5)).setCell ⟨w.heap.size + 1, 1, none⟩ (.slice (some ⟨V.heap.size, 0, none⟩) 1 1)) :
    Blk Z (w.heap.size + 1) #[.slice (some ⟨V.heap.size + 1, 0, none⟩) 5 5, .slice (some ⟨V.heap.size, 0, none⟩) 1 1] 47 ∧ PgPost x0 x1 x2 x3 x4 x5 x6 y3 z3 y4 z4 y5 z5 y6 z6 w (.returned (.agg #[.slice (some ⟨V.heap.size + 1, 0, none⟩) 5 5, .slice (some ⟨V.heap.size, 0, none⟩) 1 1])) Z := by
  subst hZ
  refine ⟨(h2.set 0 _).set 1 _, V.heap.size + 1, V.heap.size, rfl, by omega, by omega, ?_, ?_, ?_⟩
  · unfold Blk
    rw [heap_set_other _ _ _ _ _ (by omega), heap_set_other _ _ _ _ _ (by omega)]
    exact h1
  · unfold Blk
    rw [heap_set_other _ _ _ _ _ (by omega), heap_set_other _ _ _ _ _ (by omega)]
    exact h4
  · exact (h3.setCell (p := ⟨w.heap.size + 1, 0, none⟩) (Nat.le_succ _) _).setCell (p := ⟨w.heap.size + 1, 1, none⟩) (Nat.le_succ _) _
set_option maxRecDepth 100000 in
set_option maxHeartbeats 4000000 in
theorem program_c (x0 : Int) (x1 : ByteArray) (x2 : Int) (x3 x4 x5 x6 : Option Addr) (y3 z3 y4 z4 y5 z5 y6 z6 : Nat) (w : World) : Calls Tryz.prog 18 #[.agg #[.int .i64 x0, .string x1, .int .i64 x2, .slice x3 y3 z3, .slice x4 y4 z4, .slice x5 y5 z5, .slice x6 y6 z6]] w fun r w' => PgPost x0 x1 x2 x3 x4 x5 x6 y3 z3 y4 z4 y5 z5 y6 z6 w r w' := by
  have hdep : Tryz.prog.follows Departure.mixedOrders = true := by kernel_rfl
  have HBu : Hid (∀ W, Calls Tryz.prog 7 #[] W fun e w' => e = .returned (.slice (some ⟨W.heap.size, 0, none⟩) 5 5) ∧ Blk w' W.heap.size bi7V 59 ∧ Below W.heap.size W w') := fun W => builtin7_c W
  obtain ⟨V, hV⟩ : ∃ V, (w.alloc (.cells #[.int .i64 x0, .string x1, .int .i64 x2, .slice x3 y3 z3, .slice x4 y4 z4, .slice x5 y5 z5, .slice x6 y6 z6] 31)).alloc (.cells #[.slice none 0 0, .slice none 0 0] 47) = V := ⟨_, rfl⟩
  have s0 : (w.alloc (.cells #[.int .i64 x0, .string x1, .int .i64 x2, .slice x3 y3 z3, .slice x4 y4 z4, .slice x5 y5 z5, .slice x6 y6 z6] 31)).heap.size = w.heap.size + 1 := Array.size_push _
  have kX : Blk V w.heap.size #[.int .i64 x0, .string x1, .int .i64 x2, .slice x3 y3 z3, .slice x4 y4 z4, .slice x5 y5 z5, .slice x6 y6 z6] 31 := by rw [← hV]; exact (Blk.new w _ _).alloc _
  have kY : Blk V (w.heap.size + 1) #[.slice none 0 0, .slice none 0 0] 47 := by rw [← hV, ← s0]; exact Blk.new _ _ _
  have bV : Below w.heap.size w V := by rw [← hV]; exact (below1 w _).trans ((below1 _ _).mono (by omega))
  have HX : Hid (∀ W w2, Below V.heap.size V W → Below W.heap.size W w2 → Blk w2 w.heap.size #[.int .i64 x0, .string x1, .int .i64 x2, .slice x3 y3 z3, .slice x4 y4 z4, .slice x5 y5 z5, .slice x6 y6 z6] 31 ∧ Blk w2 (w.heap.size + 1) #[.slice none 0 0, .slice none 0 0] 47 ∧ Below w.heap.size w w2) := fun W w2 h1 h2 => ⟨(kX.below h1).below h2, (kY.below h1).below h2, (bV.trans (h1.mono bV.size)).trans (h2.mono (by have := bV.size; have := h1.size; omega))⟩
  have HEV : Hid (_ = V) := hV
  have HV : Hid (Blk V w.heap.size #[.int .i64 x0, .string x1, .int .i64 x2, .slice x3 y3 z3, .slice x4 y4 z4, .slice x5 y5 z5, .slice x6 y6 z6] 31 ∧ Blk V (w.heap.size + 1) #[.slice none 0 0, .slice none 0 0] 47 ∧ Below w.heap.size w V) := ⟨kX, kY, bV⟩
  clear hV s0 kX kY bV
  go_enter Tryz.func18, Tryz.ntmps18
  go_wp2
  rw [HEV.out]
  obtain ⟨a0, a1, a2, a3, a4, a5, a6, lX⟩ : V.drew.cell? ⟨w.heap.size, 0, none⟩ = some (.int .i64 x0) ∧ V.drew.cell? ⟨w.heap.size, 1, none⟩ = some (.string x1) ∧ V.drew.cell? ⟨w.heap.size, 2, none⟩ = some (.int .i64 x2) ∧ V.drew.cell? ⟨w.heap.size, 3, none⟩ = some (.slice x3 y3 z3) ∧ V.drew.cell? ⟨w.heap.size, 4, none⟩ = some (.slice x4 y4 z4) ∧ V.drew.cell? ⟨w.heap.size, 5, none⟩ = some (.slice x5 y5 z5) ∧ V.drew.cell? ⟨w.heap.size, 6, none⟩ = some (.slice x6 y6 z6) ∧ w.heap.size < V.heap.size := ⟨HV.out.1.cell 0 _ rfl, HV.out.1.cell 1 _ rfl, HV.out.1.cell 2 _ rfl, HV.out.1.cell 3 _ rfl, HV.out.1.cell 4 _ rfl, HV.out.1.cell 5 _ rfl, HV.out.1.cell 6 _ rfl, HV.out.1.lt⟩
  have c0 : V.drew.cell? ⟨w.heap.size + 1, 0, none⟩ = some (.slice none 0 0) := HV.out.2.1.cell 0 _ rfl
  have c1 : V.drew.cell? ⟨w.heap.size + 1, 1, none⟩ = some (.slice none 0 0) := HV.out.2.1.cell 1 _ rfl
  have d0 : V.drew.frozen? ⟨w.heap.size + 1, 0, none⟩ = false := HV.out.2.1.frozen 0
  have d1 : V.drew.frozen? ⟨w.heap.size + 1, 1, none⟩ = false := HV.out.2.1.frozen 1
  have lY : w.heap.size + 1 < V.heap.size := HV.out.2.1.lt
  go_region_with (go_at_call 7; refine (HBu.out _).mono ?_; rintro e w2 ⟨rfl, q1, q2⟩; have HQ : Hid (Blk w2 _ bi7V 59 ∧ Below _ _ w2) := ⟨q1, q2⟩; obtain ⟨p1, p2, p3⟩ := HX.out _ w2 (by first | exact (Below.refl _ V).drew | exact ((Below.refl _ V).drew.alloc (Nat.le_refl _) _)) q2; have HP : Hid (Blk w2 w.heap.size #[.int .i64 x0, .string x1, .int .i64 x2, .slice x3 y3 z3, .slice x4 y4 z4, .slice x5 y5 z5, .slice x6 y6 z6] 31 ∧ Blk w2 (w.heap.size + 1) #[.slice none 0 0, .slice none 0 0] 47 ∧ Below w.heap.size w w2) := ⟨p1, p2, p3⟩; have b0 := p1.cell 0 _ rfl; have b1 := p1.cell 1 _ rfl; have b2 := p1.cell 2 _ rfl; have b3 := p1.cell 3 _ rfl; have b4 := p1.cell 4 _ rfl; have b5 := p1.cell 5 _ rfl; have b6 := p1.cell 6 _ rfl; have e0 := p2.cell 0 _ rfl; have e1 := p2.cell 1 _ rfl; have f0 := p2.frozen 0; have f1 := p2.frozen 1; have g0 := p1.lt; have g1 := p2.lt; clear q1 q2 p1 p2 p3)
  · go_wp2
    (try simp only [Exit.inBlock, Exit.then])
    obtain ⟨h1, h2⟩ := pgA (x0 := x0) (x1 := x1) (x2 := x2) (x3 := x3) (x4 := x4) (x5 := x5) (x6 := x6) (y3 := y3) (z3 := z3) (y4 := y4) (z4 := z4) (y5 := y5) (z5 := z5) (y6 := y6) (z6 := z6) (V := V) lY HQ.out.1 HP.out.2.1 HP.out.2.2 _ rfl
    exact bodyPost_ret (results_cell_row rfl _ _ (w.heap.size + 1) 47 _ _ _ rfl h1 Tryz.underlying47 rfl rfl) rfl h2
  · go_wp2
    (try simp only [Exit.inBlock, Exit.then])
    obtain ⟨h1, h2⟩ := pgA (x0 := x0) (x1 := x1) (x2 := x2) (x3 := x3) (x4 := x4) (x5 := x5) (x6 := x6) (y3 := y3) (z3 := z3) (y4 := y4) (z4 := z4) (y5 := y5) (z5 := z5) (y6 := y6) (z6 := z6) (V := V) lY HQ.out.1 HP.out.2.1 HP.out.2.2 _ rfl
    exact bodyPost_ret (results_cell_row rfl _ _ (w.heap.size + 1) 47 _ _ _ rfl h1 Tryz.underlying47 rfl rfl) rfl h2
  · go_wp2
    (try simp only [Exit.inBlock, Exit.then])
    have hsz : (V.alloc (.cells #[.string mainB, .int .i64 x0, .string x1, .int .i64 x2, .slice x3 y3 z3, .slice x4 y4 z4, .slice x5 y5 z5, .slice x6 y6 z6] 36)).heap.size = V.heap.size + 1 := Array.size_push _
    have hq1 : Blk w2 (V.alloc (.cells #[.string mainB, .int .i64 x0, .string x1, .int .i64 x2, .slice x3 y3 z3, .slice x4 y4 z4, .slice x5 y5 z5, .slice x6 y6 z6] 36)).heap.size bi7V 59 := HQ.out.1
    have hq2 : Below (V.alloc (.cells #[.string mainB, .int .i64 x0, .string x1, .int .i64 x2, .slice x3 y3 z3, .slice x4 y4 z4, .slice x5 y5 z5, .slice x6 y6 z6] 36)).heap.size (V.alloc (.cells #[.string mainB, .int .i64 x0, .string x1, .int .i64 x2, .slice x3 y3 z3, .slice x4 y4 z4, .slice x5 y5 z5, .slice x6 y6 z6] 36)).drew w2 := HQ.out.2
    have hq3 : Blk w2 V.heap.size #[.string mainB, .int .i64 x0, .string x1, .int .i64 x2, .slice x3 y3 z3, .slice x4 y4 z4, .slice x5 y5 z5, .slice x6 y6 z6] 36 := by
      unfold Blk
      rw [hq2.block V.heap.size (by omega)]
      exact Blk.new V _ _
    rw [hsz] at hq1
    obtain ⟨h1, h2⟩ := pgB (x0 := x0) (x1 := x1) (x2 := x2) (x3 := x3) (x4 := x4) (x5 := x5) (x6 := x6) (y3 := y3) (z3 := z3) (y4 := y4) (z4 := z4) (y5 := y5) (z5 := z5) (y6 := y6) (z6 := z6) (V := V) lY hq1 HP.out.2.1 HP.out.2.2 hq3 _ rfl
    exact bodyPost_ret (results_cell_row rfl _ _ (w.heap.size + 1) 47 _ _ _ rfl h1 Tryz.underlying47 rfl rfl) rfl h2
end Go.Proofs.YtegdloenakachaaGreatDoor
