/-
  The law LexCalls, by a contract.
-/
import Derived.Test.YtpidccdgkkcljaaGreatDoorCallT
import Derived.Test.YtpidccdgkkcljaaGreatDoorCall3
import Derived.Test.YtpidccdgkkcljaaGreatDoorCallR
import Derived.Test.YtpidccdgkkcljaaGreatDoorLives2
import Derived.Deep.RegionHeld3
namespace Go.Proofs.YtpidccdgkkcljaaGreatDoor
open Go.RowKit Go.Shelf Go.Maps
set_option linter.unusedVariables false

set_option maxHeartbeats 8000000 in
set_option maxRecDepth 100000 in
theorem lawCalls_c (ts : List Tg) (o : Option Addr) (cap : Nat) (s : ByteArray) (c : UInt8) (w : World) (hG : GOK w) (hT : TgIn w o ts) (hnum : ∀ t ∈ ts, t.num ≤ 9223372036854775807) (hl : ts.length ≤ maxLen) (hs : s.size ≤ maxLen) (hx : ∀ t ∈ ts, t.text.length ≤ maxLen) :
    Calls Tryz.prog 5 #[.slice o ts.length cap, .string s, .int .u8 (c.toNat : Int)] w fun e W' => e = .returned (.bool true) ∧ Below w.heap.size w W' := by
  have hdep : Tryz.prog.follows Departure.mixedOrders = true := by kernel_rfl
  obtain ⟨m, hm⟩ : ∃ m, ts.length = m := ⟨_, rfl⟩
  have HM : Hid (ts.length = m) := hm
  have HG : Hid (GOK w) := hG
  have HT : Hid (TgIn w o ts) := hT
  have HN : Hid (∀ t ∈ ts, t.num ≤ 9223372036854775807) := hnum
  have HX : Hid (∀ t ∈ ts, t.text.length ≤ maxLen) := hx
  have HS : Hid (s.size ≤ maxLen) := hs
  have HL : Hid (m ≤ maxLen) := by rw [← hm]; exact hl
  rw [hm]
  clear hG hT hnum hl hs hm hx
  by_cases h300 : 300 < m
  · have h3i : (300 : Int) < m := by omega
    go_enter Tryz.func5, Tryz.ntmps5
    go_wp2_with (go_at_call 9; fail)
    refine (lives_c _ HG.out).mono ?_
    rintro r w1 ⟨rfl, hb⟩
    have HB1 : Hid (Below w.heap.size w w1) := hb
    clear hb
    go_wp2
    go_ret
    exact ⟨rfl, HB1.out⟩
  · have h3i : (m : Int) ≤ 300 := by omega
    go_enter Tryz.func5, Tryz.ntmps5
    go_wp2_with (go_at_call 9; fail)
    refine (lives_c _ HG.out).mono ?_
    rintro r w1 ⟨rfl, hb⟩
    have HB1 : Hid (Below w.heap.size w w1) := hb
    clear hb
    go_wp2
    go_loopw [7, 8] (fun n i wr => ∃ (k : Nat) (z : Int), k ≤ m ∧ i = .int .i64 k ∧ n = .int .i64 z ∧ Hid (∀ j (h : j < ts.length), j < k → ts[j].text.length ≤ 4000) ∧ Hid (Below w.heap.size w wr)) (fun _ i _ => m - (intOf i).toNat)
    case atStart => exact ⟨0, s.size, Nat.zero_le _, rfl, rfl, fun j h hj => by omega, HB1⟩
    case round =>
      obtain ⟨k, z, hk, rfl, rfl, hAll, hB⟩ := hrel
      by_cases hlt : k < m
      · have hkL : k < ts.length := by rw [HM.out]; exact hlt
        have hki : (k : Int) < (m : Int) := by omega
        obtain ⟨g, off, rfl, hg, hTA⟩ := HT.out.at k hkL
        have hgr : g < wr.heap.size := by have := hB.out.size; omega
        have HC0 : Hid (∀ X : World, Below w.heap.size w X → ∀ q u, (tgC ts[k])[q]? = some u → X.cell? ⟨g, off + k * 7 + q, none⟩ = some u) := fun X hX q u hu => (hX.cell (p := ⟨g, off + k * 7 + q, none⟩) hg).trans (hTA k hkL q u hu)
        have hxm := HX.out ts[k] (List.getElem_mem hkL)
        have hnm := HN.out ts[k] (List.getElem_mem hkL)
        have HA1 : Hid (ts[k].text.length ≤ 4000 → ∀ j (h : j < ts.length), j < k + 1 → ts[j].text.length ≤ 4000) := by
          intro h0 j hj hjk
          by_cases hjk' : j = k
          · subst hjk'; exact h0
          · exact hAll.out j hj (by omega)
        have HLx : Hid (ts[k].text.length ≤ 4000 → ∀ W : World, Below w.heap.size w W → Calls Tryz.prog 16 #[.agg #[.int .i64 ts[k].kind, .string (bs ts[k].text), .int .i64 ts[k].num, .int .i64 ts[k].pos, .int .i64 ts[k].line, .int .i64 ts[k].col, .bool ts[k].first]] W fun e W' => e = .returned (.string (bs (txG ts[k]))) ∧ Below W.heap.size W W') := fun h0 W hW => textG_c ts[k] hnm (by omega) W (HG.out.below hW)
        have HRx : Hid (ts[k].text.length ≤ 4000 → ∀ W : World, Below w.heap.size w W → Calls Tryz.prog 17 #[.agg #[.int .i64 ts[k].kind, .string (bs ts[k].text), .int .i64 ts[k].num, .int .i64 ts[k].pos, .int .i64 ts[k].line, .int .i64 ts[k].col, .bool ts[k].first]] W fun e W' => e = .returned (.string (bs (txG ts[k]))) ∧ Below W.heap.size W W') := fun h0 W hW => rTextG_c ts[k] hnm (by omega) W
        generalize ts[k] = t at HC0 hxm HA1 HLx HRx
        obtain ⟨tk, tt, tn, pos, line, col, first⟩ := t
        simp only at HC0 hxm HA1 HLx HRx
        have hsz : (bs tt).size = tt.length := bs_size tt
        clear hTA hkL hnm
        by_cases hx4 : tt.length ≤ 4000
        · have hLx : Hid (∀ W : World, Hid (Below w.heap.size w W) → Calls Tryz.prog 16 #[.agg #[.int .i64 tk, .string (bs tt), .int .i64 tn, .int .i64 pos, .int .i64 line, .int .i64 col, .bool first]] W fun e W' => e = .returned (.string (bs (txG ⟨tk, tt, tn, pos, line, col, first⟩))) ∧ Below W.heap.size W W') := fun W hW => HLx.out hx4 W hW.out
          have hRx : Hid (∀ W : World, Hid (Below w.heap.size w W) → Calls Tryz.prog 17 #[.agg #[.int .i64 tk, .string (bs tt), .int .i64 tn, .int .i64 pos, .int .i64 line, .int .i64 col, .bool first]] W fun e W' => e = .returned (.string (bs (txG ⟨tk, tt, tn, pos, line, col, first⟩))) ∧ Below W.heap.size W W') := fun W hW => HRx.out hx4 W hW.out
          generalize txG ⟨tk, tt, tn, pos, line, col, first⟩ = tx at hLx hRx
          have HA2 : Hid (∀ j (h : j < ts.length), j < k + 1 → ts[j].text.length ≤ 4000) := HA1.out hx4
          have hx4i : (tt.length : Int) ≤ 4000 := by omega
          have c0 := HC0.out wr hB.out 0 _ rfl
          rw [Nat.add_zero] at c0
          have c1 := HC0.out wr hB.out 1 _ rfl
          have hmk : Hid (∀ X : World, Below w.heap.size w X → (Hid (Below w.heap.size w X) ∧ X.cell? ⟨g, off + k * 7, none⟩ = some (.int .i64 tk) ∧ X.cell? ⟨g, off + k * 7 + 1, none⟩ = some (.string (bs tt)) ∧ X.cell? ⟨g, off + k * 7 + 2, none⟩ = some (.int .i64 tn) ∧ X.cell? ⟨g, off + k * 7 + 3, none⟩ = some (.int .i64 pos) ∧ X.cell? ⟨g, off + k * 7 + 4, none⟩ = some (.int .i64 line) ∧ X.cell? ⟨g, off + k * 7 + 5, none⟩ = some (.int .i64 col) ∧ X.cell? ⟨g, off + k * 7 + 6, none⟩ = some (.bool first))) := fun X hX => ⟨hX, HC0.out X hX 0 _ rfl, HC0.out X hX 1 _ rfl, HC0.out X hX 2 _ rfl, HC0.out X hX 3 _ rfl, HC0.out X hX 4 _ rfl, HC0.out X hX 5 _ rfl, HC0.out X hX 6 _ rfl⟩
          have hbe : Hid (∀ X Y : World, Hid (Below w.heap.size w X) → Below X.heap.size X Y → Hid (Below w.heap.size w Y)) := fun X Y h1 h2 => h1.out.trans (h2.mono h1.out.size)
          have hBd : Hid (Below w.heap.size w wr.drew) := hB.out.drew
          clear hxm HA1 HLx HRx HC0 hAll hx4
          go_wp2
          clear c0 c1 hx4i
          go_region_held3 (fun X : World => Hid (Below w.heap.size w X) ∧ X.cell? ⟨g, off + k * 7, none⟩ = some (.int .i64 tk) ∧ X.cell? ⟨g, off + k * 7 + 1, none⟩ = some (.string (bs tt)) ∧ X.cell? ⟨g, off + k * 7 + 2, none⟩ = some (.int .i64 tn) ∧ X.cell? ⟨g, off + k * 7 + 3, none⟩ = some (.int .i64 pos) ∧ X.cell? ⟨g, off + k * 7 + 4, none⟩ = some (.int .i64 line) ∧ X.cell? ⟨g, off + k * 7 + 5, none⟩ = some (.int .i64 col) ∧ X.cell? ⟨g, off + k * 7 + 6, none⟩ = some (.bool first))
            (first
              | with_reducible exact hmk.out _ hB.out
              | with_reducible exact hmk.out _ hBd.out
              | with_reducible exact hmk.out _ hS3.out
              | with_reducible exact hmk.out _ hS2.out)
            (first
              | (go_at_call 16; refine (hLx.out _ (And.left (by with_reducible assumption))).mono ?_; rintro r w2 ⟨rfl, hb2⟩; have hS2 : Hid (Below w.heap.size w w2) := hbe.out _ _ (And.left (by with_reducible assumption)) hb2; clear hb2)
              | (go_at_call 17; refine (hRx.out _ (And.left (by with_reducible assumption))).mono ?_; rintro r w3 ⟨rfl, hb3⟩; have hS3 : Hid (Below w.heap.size w w3) := hbe.out _ _ (And.left (by with_reducible assumption)) hb3; clear hb3))
          all_goals go_wp2
          all_goals go_roundw
          all_goals first | exact ⟨k + 1, _, by omega, by go_num, rfl, HA2, by first | exact hS3 | exact hS2⟩ | (simp [intOf]; omega)
        · have hx4i : (4000 : Int) < tt.length := by omega
          have c1 := HC0.out wr hB.out 1 _ rfl
          clear hxm HA1 HLx HRx HC0 hAll hx4
          go_wp2
          go_ret
          exact ⟨rfl, hB.out⟩
      · obtain rfl : k = m := by omega
        clear hlt hk
        by_cases hz : 4000 < z
        · go_wp2
          go_ret
          exact ⟨rfl, hB.out⟩
        · have hz4 : z ≤ 4000 := by omega
          clear hz
          have HBo : Hid (∀ t ∈ ts, t.num ≤ 9223372036854775807 ∧ t.text.length ≤ 5000) := by
            intro t ht
            obtain ⟨j, hj, rfl⟩ := List.getElem_of_mem ht
            exact ⟨HN.out _ ht, by have := hAll.out j hj (by rw [← HM.out]; exact hj); omega⟩
          have HL5 : Hid (ts.length ≤ 5000) := by show _ ≤ _; rw [HM.out]; omega
          have HTok : Hid (∀ W : World, TgIn W o ts → Calls Tryz.prog 18 #[.slice o k cap] W fun r W' => r = .returned (.slice (some ⟨W.heap.size, 0, none⟩) k (k + 2)) ∧ TgAt W' W.heap.size 0 ts ∧ W.heap.size < W'.heap.size ∧ Below W.heap.size W W') := by
            intro W hW
            have := tokens_c ts o cap HL5.out W hW
            rw [HM.out] at this
            exact this
          have HJ : Hid (∀ (W : World) (o : Option Addr) (cap : Nat), GOK W → TgIn W o ts → Calls Tryz.prog 19 #[.slice o k cap] W fun r W' => r = .returned (.string (bs (joinM (ts.map txG)))) ∧ Below W.heap.size W W') := by
            intro W o cap hg hW
            have := joinG_c ts o cap HL5.out HBo.out W hg hW
            rw [HM.out] at this
            exact this
          have HRJ : Hid (∀ (W : World), TgIn W o ts → Calls Tryz.prog 20 #[.slice o k cap] W fun r W' => r = .returned (.string (bs (joinM (ts.map txG)))) ∧ Below W.heap.size W W') := by
            intro W hW
            have := rJoinG_c ts o cap HL5.out HBo.out W hW
            rw [HM.out] at this
            exact this
          have HSm : Hid (∀ (W : World) (o' : Option Addr) (c' : Nat), TgIn W o' ts → TgIn W o ts → Calls Tryz.prog 15 #[.slice o' k c', .slice o k cap] W fun r W' => r = .returned (.bool true) ∧ Below W.heap.size W W') := by
            intro W o' c' h1 h2
            have := sameTokG_c ts o' o c' cap HL5.out W h1 h2
            rw [HM.out] at this
            exact this
          have HWd : Hid (∀ W : World, Calls Tryz.prog 21 #[.string s] W fun e w' => e = .returned (.bool (has1 M.wordL s.data.toList)) ∧ Below W.heap.size W w') := fun W => word_c s HS.out W
          have HRW : Hid (∀ W : World, Calls Tryz.prog 22 #[.string s] W fun e w' => e = .returned (.bool (has1 M.wordL s.data.toList)) ∧ Below W.heap.size W w') := fun W => rWord_c s W
          have HSd : Hid (∀ W : World, Calls Tryz.prog 23 #[.string s] W fun e w' => e = .returned (.bool (has1 M.signL s.data.toList)) ∧ Below W.heap.size W w') := fun W => sign_c s HS.out W
          have HRS : Hid (∀ W : World, Calls Tryz.prog 24 #[.string s] W fun e w' => e = .returned (.bool (has1 M.signL s.data.toList)) ∧ Below W.heap.size W w') := fun W => rSign_c s W
          have HYd : Hid (∀ W : World, Calls Tryz.prog 25 #[.int .u8 (c.toNat : Int)] W fun e w' => e = .returned (.bool (M.sym c)) ∧ w' = W) := fun W => symbol_c c W
          have HRY : Hid (∀ W : World, Calls Tryz.prog 26 #[.int .u8 (c.toNat : Int)] W fun e w' => e = .returned (.bool (M.sym c)) ∧ w' = W) := fun W => rSymbol_c c W
          generalize joinM (ts.map txG) = jn at HJ HRJ
          generalize has1 M.wordL s.data.toList = bw at HWd HRW
          generalize has1 M.signL s.data.toList = bg at HSd HRS
          generalize M.sym c = by1 at HYd HRY
          clear hAll
          go_wp2_with (go_at_call 18; fail)
          refine (HTok.out _ (HT.out.belowB hB.out)).mono ?_
          rintro r w2 ⟨rfl, hA2, hsz2, hb2⟩
          have HO2 : Hid (TgIn w2 (some ⟨wr.heap.size, 0, none⟩) ts) := .inr ⟨_, _, rfl, hsz2, hA2⟩
          have HB2 : Hid (Below w.heap.size w w2) := hB.out.trans (hb2.mono hB.out.size)
          clear hb2 hA2 hsz2 hB
          go_wp2_with (go_at_call 19; fail)
          refine (HJ.out _ _ _ (HG.out.below HB2.out) HO2.out).mono ?_
          rintro r w3 ⟨rfl, hb3⟩
          have HO3 : Hid (TgIn w3 (some ⟨wr.heap.size, 0, none⟩) ts) := HO2.out.below hb3
          have HB3 : Hid (Below w.heap.size w w3) := HB2.out.trans (hb3.mono HB2.out.size)
          clear hb3 HO2 HB2
          go_wp2_with (go_at_call 20; fail)
          refine (HRJ.out _ (HT.out.belowB HB3.out)).mono ?_
          rintro r w4 ⟨rfl, hb4⟩
          have HO4 : Hid (TgIn w4 (some ⟨wr.heap.size, 0, none⟩) ts) := HO3.out.below hb4
          have HB4 : Hid (Below w.heap.size w w4) := HB3.out.trans (hb4.mono HB3.out.size)
          clear hb4 HO3 HB3
          go_wp2_with (go_at_call 15; fail)
          refine (HSm.out _ _ _ HO4.out (HT.out.belowB HB4.out)).mono ?_
          rintro r w5 ⟨rfl, hb5⟩
          have HB5 : Hid (Below w.heap.size w w5) := HB4.out.trans (hb5.mono HB4.out.size)
          clear hb5 HO4 HB4
          go_wp2_with (go_at_call 21; fail)
          refine (HWd.out _).mono ?_
          rintro r w6 ⟨rfl, hb6⟩
          have HB6 : Hid (Below w.heap.size w w6) := HB5.out.trans (hb6.mono HB5.out.size)
          clear hb6 HB5
          go_wp2_with (go_at_call 22; fail)
          refine (HRW.out _).mono ?_
          rintro r w7 ⟨rfl, hb7⟩
          have HB7 : Hid (Below w.heap.size w w7) := HB6.out.trans (hb7.mono HB6.out.size)
          clear hb7 HB6
          go_wp2_with (go_at_call 23; fail)
          refine (HSd.out _).mono ?_
          rintro r w8 ⟨rfl, hb8⟩
          have HB8 : Hid (Below w.heap.size w w8) := HB7.out.trans (hb8.mono HB7.out.size)
          clear hb8 HB7
          go_wp2_with (go_at_call 24; fail)
          refine (HRS.out _).mono ?_
          rintro r w9 ⟨rfl, hb9⟩
          have HB9 : Hid (Below w.heap.size w w9) := HB8.out.trans (hb9.mono HB8.out.size)
          clear hb9 HB8
          go_wp2_with (go_at_call 25; fail)
          refine (HYd.out _).mono ?_
          rintro r w10 ⟨rfl, rfl⟩
          go_wp2_with (go_at_call 26; fail)
          refine (HRY.out _).mono ?_
          rintro r w11 ⟨rfl, rfl⟩
          go_wp2
          go_ret
          exact ⟨rfl, HB9.out⟩

end Go.Proofs.YtpidccdgkkcljaaGreatDoor
