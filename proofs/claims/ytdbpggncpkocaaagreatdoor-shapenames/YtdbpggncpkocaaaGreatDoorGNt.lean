/-
  Package shape: wrong (what is wrong with a node, its kids aside), by a contract.
  Package shape: firstFault (from the left, a node ahead of its kids), by a contract.
  Package shape: Check, by a contract.
  Package shape: Type and Only, by contracts (of a list in memory; the answer up to order).
  The chapter's trees on constructors: what Cons and Check tell of them (mathematics).
  Nodes with one kid or two, laid in memory: what the laws' literals leave.
  The calls of the chapter's examples on constructors, closed.
-/
import Derived.Test.YtdbpggncpkocaaaGreatDoorGLi
import Derived.BigQuiet
import Derived.Sort.Walk0
namespace Go.Proofs.YtdbpggncpkocaaaGreatDoor
open Go.RowKit Go.Shelf Go.Maps
set_option linter.unusedVariables false

/-- What wrong answers. -/
def wrM (fs : List CT) (kd : Int) (nm : ByteArray) (ln : Nat) : Int := if kd = 12 ∨ kd = 39 then (match fstC fs (askC nm).data.toList with | none => 8 | some f => if kd = 39 ∧ (ln : Int) ≠ f.2.1 then 9 else 0) else 0
/-- A finder's function value. -/
def fnV (mb : Nat) : Value := .func (.func 48) #[] #[.pointer (some ⟨mb, 0, none⟩)]
theorem blw_drew2 (W : World) (n : Nat) : Below W.heap.size W (W.drewN n) := ⟨rfl, rfl, rfl, Nat.le_refl _, fun _ _ => rfl⟩
set_option maxRecDepth 100000 in
set_option maxHeartbeats 4000000 in
theorem wrong_c (fs : List CT) (kd : Int) (nm : ByteArray) (hs : nm.size ≤ 9223372036854775807) (o : Option Addr) (ln cap : Nat) (hln : (ln : Int) ≤ 9223372036854775807) (mb b c g off : Nat) (w : World) (hm : w.cell? ⟨mb, 0, none⟩ = some (.map (some b))) (hmb : mb < w.heap.size) (hC : CtSt w b c fs) (hg : g < w.heap.size)
    (c0 : w.cell? ⟨g, off, none⟩ = some (.int .i64 kd)) (c1 : w.cell? ⟨g, off + 1, none⟩ = some (.string nm)) (c3 : w.cell? ⟨g, off + 3, none⟩ = some (.slice o ln cap)) :
    Calls Tryz.prog 49 #[fnV mb, .pointer (some ⟨g, off, none⟩)] w fun e w' => e = .returned (.int .i64 (wrM fs kd nm ln)) ∧ Below w.heap.size w w' := by
  unfold fnV
  have hmx : Tryz.prog.follows Departure.mixedOrders = true := by kernel_rfl
  by_cases hk : kd = 12 ∨ kd = 39
  · have HC1 : Hid (Calls Tryz.prog 48 #[.string nm, .pointer (some ⟨mb, 0, none⟩)] w fun e w' => e = .returned (findV fs nm) ∧ Below w.heap.size w w') := finder1C_c fs nm hs mb b c w hm hmb hC
    have eg : ∀ args w, (callFunc 48 args).run Tryz.prog w = .ok (.enter 48 args) w := enters_of Tryz.func48 (by kernel_rfl) rfl
    obtain ⟨f1, f2, f3, f4, ok, hfv, hwr⟩ : ∃ f1 f2 f3 f4 ok, findV fs nm = .tuple #[.agg #[.string f1, .int .i64 f2, .string f3, .int .i64 f4], .bool ok] ∧ wrM fs kd nm ln = if ok = true then (if kd = 39 ∧ (ln : Int) ≠ f2 then 9 else 0) else 8 := by
      unfold findV wrM
      rw [if_pos hk]
      cases fstC fs (askC nm).data.toList with
      | none => exact ⟨_, _, _, _, _, rfl, rfl⟩
      | some f => exact ⟨_, _, _, _, _, rfl, by simp⟩
    rw [hfv] at HC1
    rw [hwr]
    have HD : Hid (∀ W', Below w.heap.size w W' → W'.cell? ⟨g, off, none⟩ = some (.int .i64 kd) ∧ W'.cell? ⟨g, off + 3, none⟩ = some (.slice o ln cap) ∧ g < W'.heap.size) := fun W' hb => ⟨(hb.cell (p := ⟨g, off, none⟩) hg).trans c0, (hb.cell (p := ⟨g, off + 3, none⟩) hg).trans c3, Nat.lt_of_lt_of_le hg hb.size⟩
    have HK : Hid (kd = 12 ∨ kd = 39) := hk
    have k1 : (kd != 12) = true → (kd != 39) = false := by rcases hk with rfl | rfl <;> decide
    clear hm hmb hC hfv hwr hs k1 hk c3
    rcases HK.out with rfl | rfl
    · go_enter Tryz.func49, Tryz.ntmps49
      go_wp2_with (go_at_fn 48; fail)
      refine HC1.out.mono ?_
      rintro e w2 ⟨rfl, hb2⟩
      obtain ⟨V, hV⟩ : ∃ V, w2.alloc (.cells #[.string f1, .int .i64 f2, .string f3, .int .i64 f4] 38) = V := ⟨_, rfl⟩
      have HV : Hid (w2.alloc (.cells #[.string f1, .int .i64 f2, .string f3, .int .i64 f4] 38) = V) := hV
      have hbV : Below w.heap.size w V := by rw [← hV]; exact hb2.alloc hb2.size _
      have HB : Hid (Below w.heap.size w V) := hbV
      obtain ⟨d0, d3, dl⟩ := HD.out V hbV
      clear hV hb2 hbV HC1 HD c0 c1 hg
      cases ok with
      | false =>
        go_wp2_with fail
        rw [HV.out]
        go_ret
        exact ⟨rfl, HB.out⟩
      | true =>
        go_wp2_with fail
        rw [HV.out]
        go_big_quiet (fail)
        have HB2 : Hid (Below w.heap.size w (V.drewN nq)) := HB.out.trans ((blw_drew2 V nq).mono HB.out.size)
        go_wp2
        go_ret
        exact ⟨by simp, HB2.out⟩
    · go_enter Tryz.func49, Tryz.ntmps49
      go_wp2_with (go_at_fn 48; fail)
      refine HC1.out.mono ?_
      rintro e w2 ⟨rfl, hb2⟩
      obtain ⟨V, hV⟩ : ∃ V, w2.alloc (.cells #[.string f1, .int .i64 f2, .string f3, .int .i64 f4] 38) = V := ⟨_, rfl⟩
      have HV : Hid (w2.alloc (.cells #[.string f1, .int .i64 f2, .string f3, .int .i64 f4] 38) = V) := hV
      have hbV : Below w.heap.size w V := by rw [← hV]; exact hb2.alloc hb2.size _
      have hkV : Blk V w2.heap.size #[.string f1, .int .i64 f2, .string f3, .int .i64 f4] 38 := by rw [← hV]; exact Blk.new w2 _ _
      have HB : Hid (Below w.heap.size w V) := hbV
      obtain ⟨d0, d3, dl⟩ := HD.out V hbV
      have y1 : V.cell? ⟨w2.heap.size, 1, none⟩ = some (.int .i64 f2) := hkV.cell 1 _ rfl
      have yl := hkV.lt
      clear hV hb2 hbV hkV HC1 HD c0 c1 hg
      cases ok with
      | false =>
        go_wp2_with fail
        rw [HV.out]
        go_ret
        exact ⟨rfl, HB.out⟩
      | true =>
        by_cases hq : (ln : Int) = f2
        · have q1 : ((ln : Int) != f2) = false := by simpa using hq
          have q2 : ((ln : Int) == f2) = true := by simpa using hq
          have HQ : Hid ((ln : Int) = f2) := hq
          clear hq
          go_wp2_with fail
          rw [HV.out]
          go_big_quiet (fail)
          have HB2 : Hid (Below w.heap.size w (V.drewN nq)) := HB.out.trans ((blw_drew2 V nq).mono HB.out.size)
          go_wp2
          go_ret
          exact ⟨by simp, HB2.out⟩
        · have q1 : ((ln : Int) != f2) = true := by simpa using hq
          have q2 : ((ln : Int) == f2) = false := by simpa using hq
          have HQ : Hid (¬ (ln : Int) = f2) := hq
          go_wp2_with fail
          rw [HV.out]
          go_big_quiet (fail)
          have HB2 : Hid (Below w.heap.size w (V.drewN nq)) := HB.out.trans ((blw_drew2 V nq).mono HB.out.size)
          go_wp2
          go_ret
          exact ⟨by simp, HB2.out⟩
  · have hz : wrM fs kd nm ln = 0 := if_neg hk
    rw [hz]
    obtain ⟨h12, h39⟩ : kd ≠ 12 ∧ kd ≠ 39 := ⟨fun e => hk (.inl e), fun e => hk (.inr e)⟩
    have q1 : (kd != 12) = true := by simpa using h12
    have q2 : (kd != 39) = true := by simpa using h39
    have q3 : (kd == 12) = false := by simpa using h12
    have q4 : (kd == 39) = false := by simpa using h39
    have HB : Hid (Below w.heap.size w w) := Below.refl _ w
    clear hk hz hm hmb hC hs c1 c3
    go_enter Tryz.func49, Tryz.ntmps49
    go_wp2
    go_ret
    exact ⟨rfl, HB.out⟩
end Go.Proofs.YtdbpggncpkocaaaGreatDoor

namespace Go.Proofs.YtdbpggncpkocaaaGreatDoor
open Go.RowKit Go.Shelf Go.Maps
set_option linter.unusedVariables false

/-- The first fault of a row. -/
def ffK (f : Nd → Int × Int) : List Nd → Int × Int
  | [] => (0, 0)
  | x :: xs => if (f x).1 ≠ 0 then f x else ffK f xs
/-- The first fault of a tree. -/
def ffM (fs : List CT) : Nat → Nd → Int × Int
  | 0, _ => (0, 0)
  | d + 1, n => if wrM fs n.kind (bs n.name) n.kids.length ≠ 0 then (wrM fs n.kind (bs n.name) n.kids.length, n.pos) else ffK (ffM fs d) n.kids
def depB : Nat → Nd → Bool
  | 0, _ => false
  | d + 1, n => n.kids.all (depB d)
theorem ffK_no (f : Nd → Int × Int) : ∀ (l : List Nd) (k : Nat), (∀ j (hj : j < l.length), j < k → (f l[j]).1 = 0) → l.length ≤ k → ffK f l = (0, 0)
  | [], _, _, _ => rfl
  | x :: xs, k, h, hk => by
    have h0 : (f x).1 = 0 := h 0 (by simp) (by simp at hk; omega)
    simp only [ffK, h0, ne_eq, not_true_eq_false, if_false]
    exact ffK_no f xs (k - 1) (fun j hj hjk => h (j + 1) (by simp; omega) (by omega)) (by simp at hk; omega)
theorem ffK_yes (f : Nd → Int × Int) : ∀ (l : List Nd) (k : Nat) (hk : k < l.length), (∀ j (hj : j < l.length), j < k → (f l[j]).1 = 0) → (f l[k]).1 ≠ 0 → ffK f l = f l[k]
  | x :: xs, 0, hk, h, hne => by simp only [List.getElem_cons_zero] at hne ⊢; simp only [ffK, if_pos hne]
  | x :: xs, k + 1, hk, h, hne => by
    have h0 : (f x).1 = 0 := h 0 (by simp) (by omega)
    simp only [ffK, h0, ne_eq, not_true_eq_false, if_false, List.getElem_cons_succ]
    exact ffK_yes f xs k (by simpa using hk) (fun j hj hjk => h (j + 1) (by simp; omega) (by omega)) hne
theorem Blk.sets2 {W : World} {E : Nat} {v0 v1 : Value} {T : TypeId} (h : Blk W E #[v0, v1] T) (a0 a1 : Value) : Blk ((W.setCell ⟨E, 0, none⟩ a0).setCell ⟨E, 1, none⟩ a1) E #[a0, a1] T := by
  have h0 : Blk (W.setCell ⟨E, 0, none⟩ a0) E #[a0, v1] T := h.set 0 a0
  exact h0.set 1 a1
theorem below_sets2 {w W : World} (h : Below w.heap.size w W) (a0 a1 : Value) : Below w.heap.size w ((W.setCell ⟨w.heap.size, 0, none⟩ a0).setCell ⟨w.heap.size, 1, none⟩ a1) :=
  (h.setCell (p := ⟨w.heap.size, 0, none⟩) (Nat.le_refl _) _).setCell (p := ⟨w.heap.size, 1, none⟩) (Nat.le_refl _) _
/-- What stays while a tree is gone through. -/
structure FfS (w : World) (fs : List CT) (mb b c : Nat) (W : World) : Prop where
  bel : Below w.heap.size w W
  res : Blk W w.heap.size #[.int .i64 0, .int .i64 0] 31
theorem FfS.on {w W W' : World} {fs : List CT} {mb b c : Nat} (h : FfS w fs mb b c W) (hb : Below W.heap.size W W') : FfS w fs mb b c W' := ⟨h.bel.trans (hb.mono h.bel.size), h.res.below hb⟩
set_option maxRecDepth 100000 in
set_option maxHeartbeats 4000000 in
theorem firstFault_c (fs : List CT) : ∀ (d : Nat) (n : Nd) (hd : depB d n = true) (mb b c g off : Nat) (w : World) (hm : w.cell? ⟨mb, 0, none⟩ = some (.map (some b))) (hmb : mb < w.heap.size) (hC : CtSt w b c fs) (hg : g < w.heap.size) (hN : NdAt w w.heap.size n g off),
    Calls Tryz.prog 34 #[fnV mb, .pointer (some ⟨g, off, none⟩)] w fun e w' => e = .returned (.agg #[.int .i64 (ffM fs d n).1, .int .i64 (ffM fs d n).2]) ∧ Below w.heap.size w w'
  | 0, n, hd, mb, b, c, g, off, w, hm, hmb, hC, hg, hN => by cases hd
  | d + 1, n, hd, mb, b, c, g, off, w, hm, hmb, hC, hg, hN => by
    have hd' : ∀ k (hk : k < n.kids.length), depB d n.kids[k] = true := fun k hk => by
      have : n.kids.all (depB d) = true := hd
      exact List.all_eq_true.1 this _ (List.getElem_mem hk)
    have hwf := hN.wf
    obtain ⟨o, cap, h0, h1, h2, h3, h4, hcp, hcm, hKI⟩ := hN.cells
    have HIH : Hid (∀ k (hk : k < n.kids.length) (g off : Nat) (W : World), Below w.heap.size w W → g < w.heap.size → NdAt W W.heap.size n.kids[k] g off → Calls Tryz.prog 34 #[.func (.func 48) #[] #[.pointer (some ⟨mb, 0, none⟩)], .pointer (some ⟨g, off, none⟩)] W fun e w' => e = .returned (.agg #[.int .i64 (ffM fs d n.kids[k]).1, .int .i64 (ffM fs d n.kids[k]).2]) ∧ Below W.heap.size W w') := fun k hk g off W hb hg hN => firstFault_c fs d n.kids[k] (hd' k hk) mb b c g off W ((hb.cell (p := ⟨mb, 0, none⟩) hmb).trans hm) (Nat.lt_of_lt_of_le hmb hb.size) (hC.below hb) (Nat.lt_of_lt_of_le hg hb.size) hN
    obtain ⟨w0, hw0⟩ : ∃ w0, w.alloc (.cells #[.int .i64 0, .int .i64 0] 31) = w0 := ⟨_, rfl⟩
    have HV : Hid (w.alloc (.cells #[.int .i64 0, .int .i64 0] 31) = w0) := hw0
    have hb0 : Below w.heap.size w w0 := by rw [← hw0]; exact (Below.refl _ w).alloc (Nat.le_refl _) _
    have hk0 : Blk w0 w.heap.size #[.int .i64 0, .int .i64 0] 31 := by rw [← hw0]; exact Blk.new w _ _
    have HS0 : Hid (FfS w fs mb b c w0) := ⟨hb0, hk0⟩
    have hcc : ∀ W, Below w.heap.size w W → W.cell? ⟨g, off, none⟩ = some (.int .i64 n.kind) ∧ W.cell? ⟨g, off + 1, none⟩ = some (.string (bs n.name)) ∧ W.cell? ⟨g, off + 3, none⟩ = some (.slice o n.kids.length cap) ∧ W.cell? ⟨g, off + 4, none⟩ = some (.int .i64 n.pos) ∧ g < W.heap.size := fun W hb => ⟨(hb.cell (p := ⟨g, off, none⟩) hg).trans h0, (hb.cell (p := ⟨g, off + 1, none⟩) hg).trans h1, (hb.cell (p := ⟨g, off + 3, none⟩) hg).trans h3, (hb.cell (p := ⟨g, off + 4, none⟩) hg).trans h4, Nat.lt_of_lt_of_le hg hb.size⟩
    have HCC : Hid (∀ W, Below w.heap.size w W → W.cell? ⟨g, off, none⟩ = some (.int .i64 n.kind) ∧ W.cell? ⟨g, off + 1, none⟩ = some (.string (bs n.name)) ∧ W.cell? ⟨g, off + 3, none⟩ = some (.slice o n.kids.length cap) ∧ W.cell? ⟨g, off + 4, none⟩ = some (.int .i64 n.pos) ∧ g < W.heap.size) := hcc
    have hnl : (bs n.name).size ≤ 9223372036854775807 := hwf.2.1
    have hLi : (n.kids.length : Int) ≤ 9223372036854775807 := by omega
    have HW : Hid (Calls Tryz.prog 49 #[.func (.func 48) #[] #[.pointer (some ⟨mb, 0, none⟩)], .pointer (some ⟨g, off, none⟩)] w0 fun e w' => e = .returned (.int .i64 (wrM fs n.kind (bs n.name) n.kids.length)) ∧ Below w0.heap.size w0 w') := wrong_c fs n.kind (bs n.name) hnl o n.kids.length cap hLi mb b c g off w0 ((hb0.cell (p := ⟨mb, 0, none⟩) hmb).trans hm) (Nat.lt_of_lt_of_le hmb hb0.size) (hC.below hb0) (Nat.lt_of_lt_of_le hg hb0.size) (hcc w0 hb0).1 (hcc w0 hb0).2.1 (hcc w0 hb0).2.2.1
    have HKI : Hid (KIn w w.heap.size o n.kids) := hKI
    have hcap : n.kids.length ≤ cap ∧ cap ≤ 9223372036854775807 := ⟨hcp, hcm⟩
    have HFF : Hid (ffM fs (d + 1) n = if wrM fs n.kind (bs n.name) n.kids.length ≠ 0 then (wrM fs n.kind (bs n.name) n.kids.length, n.pos) else ffK (ffM fs d) n.kids) := rfl
    generalize ffM fs (d + 1) n = R at HFF ⊢
    generalize wrM fs n.kind (bs n.name) n.kids.length = wv at HFF HW
    unfold fnV
    clear hd hd' hwf h0 h1 h2 h3 h4 hKI hw0 hb0 hk0 hcc hnl hm hmb hC hg hN hcp hcm
    go_enter Tryz.func34, Tryz.ntmps34
    go_wp2_with (go_at_call 49; fail)
    rw [HV.out]
    refine HW.out.mono ?_
    rintro e w1 ⟨rfl, hb1⟩
    have HS1 : Hid (FfS w fs mb b c w1) := HS0.out.on hb1
    obtain ⟨c0, c1, c3, c4, cl⟩ := HCC.out w1 HS1.out.bel
    have hrl := HS1.out.res.lt
    clear hb1 HW HS0 HV
    by_cases hw : wv = 0
    · have HR : Hid (R = ffK (ffM fs d) n.kids) := by have := HFF.out; rw [if_neg (by simpa using hw)] at this; exact this
      subst hw
      clear HFF c0 c1 c4
      go_wp2
      go_loopg [24] n.kids.length (fun gh v24 wr => ∃ k : Nat, v24 = .int .i64 k ∧ k ≤ n.kids.length ∧ n.kids.length - k ≤ gh ∧ Hid (FfS w fs mb b c wr) ∧ Hid (∀ j (hj : j < n.kids.length), j < k → (ffM fs d n.kids[j]).1 = 0))
      case atStart => exact ⟨0, rfl, Nat.zero_le _, Nat.le_refl _, HS1, fun j hj h => absurd h (Nat.not_lt_zero j)⟩
      case round =>
        clear HS1 c3 cl hrl
        obtain ⟨k, rfl, hk, hgh, HI, HJ⟩ := hrel
        obtain ⟨d0, d1, d3, d4, dl⟩ := HCC.out wr HI.out.bel
        have hrl := HI.out.res.lt
        by_cases hkl : k < n.kids.length
        · have hkz : (k : Int) < (n.kids.length : Int) := by omega
          obtain ⟨g1, off1, ho, hg1, hKA⟩ := HKI.out.at k hkl
          have hnk := KidsAt.get n.kids g1 off1 k hkl hKA
          have hnk2 := NdAt.below HI.out.bel _ _ _ hg1 hnk
          have HC : Hid (Calls Tryz.prog 34 #[.func (.func 48) #[] #[.pointer (some ⟨mb, 0, none⟩)], .pointer (some ⟨g1, off1 + k * 5, none⟩)] wr fun e w' => e = .returned (.agg #[.int .i64 (ffM fs d n.kids[k]).1, .int .i64 (ffM fs d n.kids[k]).2]) ∧ Below wr.heap.size wr w') := HIH.out k hkl g1 (off1 + k * 5) wr HI.out.bel hg1 (NdAt.mono HI.out.bel.size _ _ _ hnk2)
          have HJ1 : Hid ((ffM fs d n.kids[k]).1 = 0 → ∀ j (hj : j < n.kids.length), j < k + 1 → (ffM fs d n.kids[j]).1 = 0) := fun e j hj hjk => by
            rcases Nat.lt_or_ge j k with h | h
            · exact HJ.out j hj h
            · obtain rfl : j = k := by omega
              exact e
          have HJ2 : Hid ((ffM fs d n.kids[k]).1 ≠ 0 → R = ffM fs d n.kids[k]) := fun e => by rw [HR.out]; exact ffK_yes _ _ k hkl HJ.out e
          generalize ffM fs d n.kids[k] = F at HC HJ1 HJ2
          obtain ⟨er, ps⟩ := F
          simp only at HC HJ1 HJ2
          subst ho
          clear hnk hnk2 hKA d0 d1 d4
          go_wp2_with (go_at_call 34; fail)
          refine HC.out.mono ?_
          rintro e w2 ⟨rfl, hb2⟩
          have HI2 : Hid (FfS w fs mb b c w2) := HI.out.on hb2
          have HI3 : Hid (FfS w fs mb b c (w2.alloc (.cells #[.int .i64 er, .int .i64 ps] 31))) := HI2.out.on ((Below.refl _ _).alloc (Nat.le_refl _) _)
          have hr2 := HI2.out.res.lt
          by_cases he : er = 0
          · have HJ3 := HJ1.out he
            subst he
            have HJ4 : Hid (∀ j (hj : j < n.kids.length), j < k + 1 → (ffM fs d n.kids[j]).1 = 0) := HJ3
            clear hb2 HC d3 dl HJ3 HJ1 HJ2 HI2
            go_wp2
            go_roundg (n.kids.length - (k + 1))
            case measure => omega
            case rel => exact ⟨k + 1, by go_num, by omega, Nat.le_refl _, HI3, HJ4⟩
          · have hez : (er != 0) = true := by simpa using he
            have hez2 : (er == 0) = false := by simpa using he
            have HR2 : Hid (R = (er, ps)) := HJ2.out he
            have hkb := HI2.out.res
            have z0 := hkb.cell 0 _ rfl
            have z1 := hkb.cell 1 _ rfl
            have y0 := hkb.frozen 0
            have y1 := hkb.frozen 1
            have zl := hkb.lt
            clear hb2 HC d3 dl HJ1 HJ2 hkb
            go_wp2
            have hK := (HI2.out.res.sets2 (.int .i64 er) (.int .i64 ps)).alloc (.cells #[.int .i64 er, .int .i64 ps] 31)
            have hBW := (below_sets2 HI2.out.bel (.int .i64 er) (.int .i64 ps)).alloc (below_sets2 HI2.out.bel (.int .i64 er) (.int .i64 ps)).size (.cells #[.int .i64 er, .int .i64 ps] 31)
            rw [HR2.out]
            generalize (((w2.setCell ⟨w.heap.size, 0, none⟩ (.int .i64 er)).setCell ⟨w.heap.size, 1, none⟩ (.int .i64 ps)).alloc (.cells #[.int .i64 er, .int .i64 ps] 31)) = WF at hK hBW ⊢
            have g0 := hK.cell 0 _ rfl
            have g1 := hK.cell 1 _ rfl
            exact bodyPost_ret (v := .agg #[.int .i64 er, .int .i64 ps]) (by simp [results, Tryz.results34, go_sem, g0, g1]) rfl ⟨rfl, hBW⟩
        · have hkz : ¬ (k : Int) < (n.kids.length : Int) := by omega
          have HR2 : Hid (R = (0, 0)) := by have := HR.out; rw [ffK_no _ _ k HJ.out (by omega)] at this; exact this
          have hkb := HI.out.res
          have z0 := hkb.cell 0 _ rfl
          have z1 := hkb.cell 1 _ rfl
          have y0 := hkb.frozen 0
          have y1 := hkb.frozen 1
          have zl := hkb.lt
          clear d0 d1 d3 d4 dl hkb
          go_wp2
          have hK := HI.out.res.sets2 (.int .i64 0) (.int .i64 0)
          have hBW := below_sets2 HI.out.bel (.int .i64 0) (.int .i64 0)
          rw [HR2.out]
          generalize ((wr.setCell ⟨w.heap.size, 0, none⟩ (.int .i64 0)).setCell ⟨w.heap.size, 1, none⟩ (.int .i64 0)) = WF at hK hBW ⊢
          have g0 := hK.cell 0 _ rfl
          have g1 := hK.cell 1 _ rfl
          exact bodyPost_ret (v := .agg #[.int .i64 0, .int .i64 0]) (by simp [results, Tryz.results34, go_sem, g0, g1]) rfl ⟨rfl, hBW⟩
    · have HR : Hid (R = (wv, n.pos)) := by have := HFF.out; rw [if_pos hw] at this; exact this
      have hez : (wv != 0) = true := by simpa using hw
      have hez2 : (wv == 0) = false := by simpa using hw
      have hkb := HS1.out.res
      have z0 := hkb.cell 0 _ rfl
      have z1 := hkb.cell 1 _ rfl
      have y0 := hkb.frozen 0
      have y1 := hkb.frozen 1
      clear HFF c0 c1 c3 hkb
      go_wp2
      have hK := HS1.out.res.sets2 (.int .i64 wv) (.int .i64 n.pos)
      have hBW := below_sets2 HS1.out.bel (.int .i64 wv) (.int .i64 n.pos)
      rw [HR.out]
      generalize ((w1.setCell ⟨w.heap.size, 0, none⟩ (.int .i64 wv)).setCell ⟨w.heap.size, 1, none⟩ (.int .i64 n.pos)) = WF at hK hBW ⊢
      have g0 := hK.cell 0 _ rfl
      have g1 := hK.cell 1 _ rfl
      exact bodyPost_ret (v := .agg #[.int .i64 wv, .int .i64 n.pos]) (by simp [results, Tryz.results34, go_sem, g0, g1]) rfl ⟨rfl, hBW⟩
end Go.Proofs.YtdbpggncpkocaaaGreatDoor

namespace Go.Proofs.YtdbpggncpkocaaaGreatDoor
open Go.RowKit Go.Shelf Go.Maps
set_option linter.unusedVariables false

theorem csErr_ne2 {n : Nd} {er p : Int} (h : CsErr n er p) : er ≠ 0 := by
  rcases h with ⟨h1, h2, _⟩ | ⟨_, _, h2, _⟩ | ⟨_, _, h2, _⟩
  · rw [h2]; exact h1
  · rw [h2]; decide
  · rw [h2]; decide
/-- What is known of a program's constructors. -/
theorem csOk_facts {n : Nd} {l : List CT} (h : CsOk n l) : (∃ T N, Gth T N l) ∧ (∀ c ∈ biL, c ∈ l) ∧ l ≠ [] ∧ l.length ≤ 2000000 := by
  have hmb := (chk_small h.1).2
  obtain ⟨hck, hkd, hsrt, l0, l2, hp0, hwd, hp2⟩ := h
  have hgw := wd_gth (by have := (chk_small hck).1; omega) hmb hp0 hwd
  have hgt : ∃ T N, Gth T N l := by
    obtain ⟨T, N, hG⟩ := hgw.1
    exact ⟨T, N, hG.perm hp2 (fun _ h => h) (fun _ h => h)⟩
  have hbi : ∀ c ∈ biL, c ∈ l := fun c hc => hp2.mem_iff.2 (hgw.2 c hc)
  have hne : l ≠ [] := fun e => by have := hbi tup2 (by simp [biL]); rw [e] at this; cases this
  have hlen : l.length ≤ 2000000 := by
    have h1 := decM_len _ _ _ _ _ hwd
    have h2 : l0.length = 8 := hp0.length_eq
    have h3 := (chk_small hck).1
    have h4 := hp2.length_eq
    omega
  exact ⟨hgt, hbi, hne, hlen⟩
theorem below_sets2b {w W : World} (h : Below w.heap.size w W) (a0 a1 : Value) : Below w.heap.size w ((W.setCell ⟨w.heap.size + 1, 0, none⟩ a0).setCell ⟨w.heap.size + 1, 1, none⟩ a1) :=
  (h.setCell (p := ⟨w.heap.size + 1, 0, none⟩) (by show w.heap.size ≤ w.heap.size + 1; omega) _).setCell (p := ⟨w.heap.size + 1, 1, none⟩) (by show w.heap.size ≤ w.heap.size + 1; omega) _
set_option maxRecDepth 100000 in
set_option maxHeartbeats 4000000 in
theorem checkSh_c (n : Nd) (o : Option Addr) (cap : Nat) (w : World) (hn : NdIn w w.heap.size n o cap) (hG : GOK w) (d : Nat) (hd : depB d n = true) :
    Calls Tryz.prog 12 #[.agg #[.int .i64 n.kind, .string (bs n.name), .int .i64 n.num, .slice o n.kids.length cap, .int .i64 n.pos]] w fun e W' => Below w.heap.size w W' ∧ ∃ er p, e = .returned (.agg #[.int .i64 er, .int .i64 p]) ∧ (CsErr n er p ∨ ∃ l', CsOk n l' ∧ er = (ffM l' d n).1 ∧ p = (ffM l' d n).2) := by
  obtain ⟨V, hV⟩ : ∃ V, (w.alloc (.cells #[.int .i64 n.kind, .string (bs n.name), .int .i64 n.num, .slice o n.kids.length cap, .int .i64 n.pos] 27)).alloc (.cells #[.int .i64 0, .int .i64 0] 31) = V := ⟨_, rfl⟩
  have HV : Hid ((w.alloc (.cells #[.int .i64 n.kind, .string (bs n.name), .int .i64 n.num, .slice o n.kids.length cap, .int .i64 n.pos] 27)).alloc (.cells #[.int .i64 0, .int .i64 0] 31) = V) := hV
  have hb0 : Below w.heap.size w V := by rw [← hV]; exact ((Below.refl _ _).alloc (Nat.le_refl _) _).alloc (by simp) _
  have hk0 : Blk V w.heap.size #[.int .i64 n.kind, .string (bs n.name), .int .i64 n.num, .slice o n.kids.length cap, .int .i64 n.pos] 27 := by rw [← hV]; exact (Blk.new w _ _).alloc _
  have hk1 : Blk V (w.heap.size + 1) #[.int .i64 0, .int .i64 0] 31 := by rw [← hV]; exact Blk.new2 w _ _ _
  have H0 : Hid (Below w.heap.size w V ∧ Blk V w.heap.size #[.int .i64 n.kind, .string (bs n.name), .int .i64 n.num, .slice o n.kids.length cap, .int .i64 n.pos] 27 ∧ Blk V (w.heap.size + 1) #[.int .i64 0, .int .i64 0] 31) := ⟨hb0, hk0, hk1⟩
  have HN : Hid (∀ X, Below w.heap.size w X → NdIn X X.heap.size n o cap) := fun X hX => (hn.below hX).mono hX.size
  have HCo : Hid (Calls Tryz.prog 9 #[.agg #[.int .i64 n.kind, .string (bs n.name), .int .i64 n.num, .slice o n.kids.length cap, .int .i64 n.pos]] V fun e W' => CsPost V n e W') := cons_c n o cap V (HN.out V hb0) (hG.below hb0)
  have HD : Hid (depB d n = true) := hd
  have c0 : V.cell? ⟨w.heap.size, 0, none⟩ = some (.int .i64 n.kind) := hk0.cell 0 _ rfl
  have c1 : V.cell? ⟨w.heap.size, 1, none⟩ = some (.string (bs n.name)) := hk0.cell 1 _ rfl
  have c2 : V.cell? ⟨w.heap.size, 2, none⟩ = some (.int .i64 n.num) := hk0.cell 2 _ rfl
  have c3 : V.cell? ⟨w.heap.size, 3, none⟩ = some (.slice o n.kids.length cap) := hk0.cell 3 _ rfl
  have c4 : V.cell? ⟨w.heap.size, 4, none⟩ = some (.int .i64 n.pos) := hk0.cell 4 _ rfl
  have cl := hk0.lt
  clear hV hb0 hk0 hk1 hn hG hd
  go_enter Tryz.func12, Tryz.ntmps12
  go_wp2_with (go_at_call 9; fail)
  first | rw [HV.out] | skip
  refine HCo.out.mono ?_
  rintro e w3 ⟨hb3, h | ⟨v, l, hok, rfl, hr⟩⟩
  · obtain ⟨er, p, he, rfl⟩ := h
    have hez : (er != 0) = true := by simpa using csErr_ne2 he
    have hez2 : (er == 0) = false := by simpa using csErr_ne2 he
    have hb : Below w.heap.size w w3 := H0.out.1.trans (hb3.mono H0.out.1.size)
    have hk := H0.out.2.2.below hb3
    have H3 : Hid (Below w.heap.size w w3 ∧ Blk w3 (w.heap.size + 1) #[.int .i64 0, .int .i64 0] 31) := ⟨hb, hk⟩
    have HE : Hid (CsErr n er p) := he
    have z0 := hk.cell 0 _ rfl
    have z1 := hk.cell 1 _ rfl
    have y0 := hk.frozen 0
    have y1 := hk.frozen 1
    have zl := hk.lt
    clear hb3 he HCo HN hb hk c0 c1 c2 c3 c4 cl HV H0
    go_wp2
    have hK := (H3.out.2.sets2 (.int .i64 er) (.int .i64 p)).alloc (.cells #[.int .i64 er, .int .i64 p] 31)
    have hBW := (below_sets2b H3.out.1 (.int .i64 er) (.int .i64 p)).alloc (below_sets2b H3.out.1 (.int .i64 er) (.int .i64 p)).size (.cells #[.int .i64 er, .int .i64 p] 31)
    generalize (((w3.setCell ⟨w.heap.size + 1, 0, none⟩ (.int .i64 er)).setCell ⟨w.heap.size + 1, 1, none⟩ (.int .i64 p)).alloc (.cells #[.int .i64 er, .int .i64 p] 31)) = WF at hK hBW ⊢
    have g0 := hK.cell 0 _ rfl
    have g1 := hK.cell 1 _ rfl
    exact bodyPost_ret (v := .agg #[.int .i64 er, .int .i64 p]) (by simp [results, Tryz.results12, go_sem, g0, g1]) rfl ⟨hBW, _, _, rfl, .inl HE.out⟩
  · obtain ⟨hgt, hbi, hne, hlen⟩ := csOk_facts hok
    obtain ⟨g, cap2, rfl, hbg, hgl, hAt⟩ := hr.at hne
    obtain ⟨V3, hV3⟩ : ∃ V3, w3.alloc (.cells #[.int .i64 0, .int .i64 0] 31) = V3 := ⟨_, rfl⟩
    have HV3 : Hid (w3.alloc (.cells #[.int .i64 0, .int .i64 0] 31) = V3) := hV3
    have ha3 : Below w3.heap.size w3 V3 := by rw [← hV3]; exact (Below.refl _ _).alloc (Nat.le_refl _) _
    have hb : Below w.heap.size w V3 := (H0.out.1.trans (hb3.mono H0.out.1.size)).trans (ha3.mono (H0.out.1.trans (hb3.mono H0.out.1.size)).size)
    have H3 : Hid (Below w.heap.size w V3 ∧ Blk V3 w.heap.size #[.int .i64 n.kind, .string (bs n.name), .int .i64 n.num, .slice o n.kids.length cap, .int .i64 n.pos] 27 ∧ Blk V3 (w.heap.size + 1) #[.int .i64 0, .int .i64 0] 31) := ⟨hb, (H0.out.2.1.below hb3).below ha3, (H0.out.2.2.below hb3).below ha3⟩
    have HF : Hid (Calls Tryz.prog 33 #[.slice (some ⟨g, 0, none⟩) l.length cap2] V3 fun e W' => e = .returned (.func (.func 48) #[] #[.pointer (some ⟨V3.heap.size + 1, 0, none⟩)]) ∧ Below V3.heap.size V3 W' ∧ Blk W' (V3.heap.size + 1) #[.map (some V3.heap.size)] 73 ∧ CtSt W' V3.heap.size l.length l) := finderC_c l (by omega) (gth_sz hgt) g cap2 V3 (Nat.lt_of_lt_of_le hgl ha3.size) (hAt.below hgl ha3)
    have HOK : Hid (CsOk n l) := hok
    clear hgt hbi hne hlen hr hbg hgl hAt hV3 ha3 hb hb3 hok HCo c0 c1 c2 c3 c4 cl HV H0
    go_wp2_with (go_at_call 33; fail)
    rw [HV3.out]
    refine HF.out.mono ?_
    rintro e w4 ⟨rfl, hb4, hk4, hc4⟩
    have hb : Below w.heap.size w w4 := H3.out.1.trans (hb4.mono H3.out.1.size)
    have hkn := H3.out.2.1.below hb4
    have hkf := H3.out.2.2.below hb4
    have hNd : NdAt w4 w4.heap.size n w.heap.size 0 := ndAt_cells (HN.out w4 hb) (fun j u hj => by
      have := hkn.cell j u (by simpa [ndL] using hj)
      simpa using this)
    have H4 : Hid (Below w.heap.size w w4 ∧ Blk w4 (w.heap.size + 1) #[.int .i64 0, .int .i64 0] 31) := ⟨hb, hkf⟩
    have HC : Hid (Calls Tryz.prog 34 #[.func (.func 48) #[] #[.pointer (some ⟨V3.heap.size + 1, 0, none⟩)], .pointer (some ⟨w.heap.size, 0, none⟩)] w4 fun e w' => e = .returned (.agg #[.int .i64 (ffM l d n).1, .int .i64 (ffM l d n).2]) ∧ Below w4.heap.size w4 w') := firstFault_c l d n HD.out (V3.heap.size + 1) V3.heap.size l.length w.heap.size 0 w4 (hk4.cell 0 _ rfl) hk4.lt hc4 hkn.lt hNd
    have HR : Hid (∃ l', CsOk n l' ∧ (ffM l d n).1 = (ffM l' d n).1 ∧ (ffM l d n).2 = (ffM l' d n).2) := ⟨l, HOK.out, rfl, rfl⟩
    generalize (ffM l d n).1 = er at HC HR
    generalize (ffM l d n).2 = p at HC HR
    clear hb4 hk4 hc4 hb hkn hkf hNd HN H3 HF HV3
    go_wp2_with (go_at_call 34; fail)
    refine HC.out.mono ?_
    rintro e w5 ⟨rfl, hb5⟩
    have hk := H4.out.2.below hb5
    have H5 : Hid (Below w.heap.size w w5 ∧ Blk w5 (w.heap.size + 1) #[.int .i64 0, .int .i64 0] 31) := ⟨H4.out.1.trans (hb5.mono H4.out.1.size), hk⟩
    have z0 := hk.cell 0 _ rfl
    have z1 := hk.cell 1 _ rfl
    have y0 := hk.frozen 0
    have y1 := hk.frozen 1
    have zl := hk.lt
    clear hb5 hk HC H4
    go_wp2
    have hK := H5.out.2.sets2 (.int .i64 er) (.int .i64 p)
    have hBW := below_sets2b H5.out.1 (.int .i64 er) (.int .i64 p)
    generalize ((w5.setCell ⟨w.heap.size + 1, 0, none⟩ (.int .i64 er)).setCell ⟨w.heap.size + 1, 1, none⟩ (.int .i64 p)) = WF at hK hBW ⊢
    have g0 := hK.cell 0 _ rfl
    have g1 := hK.cell 1 _ rfl
    exact bodyPost_ret (v := .agg #[.int .i64 er, .int .i64 p]) (by simp [results, Tryz.results12, go_sem, g0, g1]) rfl ⟨hBW, _, _, rfl, .inr HR.out⟩
end Go.Proofs.YtdbpggncpkocaaaGreatDoor

namespace Go.Proofs.YtdbpggncpkocaaaGreatDoor
open Go.RowKit Go.Shelf Go.Maps
set_option linter.unusedVariables false

/-- Those of a list that are of the type of the one that is found. -/
def tyM (fs : List CT) (nm : ByteArray) : List CT := match fstC fs (askC nm).data.toList with | none => [] | some f => fs.filter (fun c => c.2.2.1.toList == f.2.2.1.toList)
theorem nilRow (W : World) (base : Nat) : ConsRow W base (.slice none 0 0) [] := ⟨by simp [flatC], .inl ⟨rfl, rfl⟩⟩
/-- Where the loop of Type stands. -/
structure TyS (V : World) (fs : List CT) (p : CT → Bool) (k : Nat) (v : Value) (W : World) : Prop where
  bel : Below V.heap.size V W
  row : ConsRow W V.heap.size v ((fs.take k).filter p)
theorem TyS.skip {V W : World} {fs : List CT} {p : CT → Bool} {k : Nat} {v : Value} (h : TyS V fs p k v W) (o : Obj) (hk : k < fs.length) (hp : p fs[k] = false) : TyS V fs p (k + 1) v (W.alloc o) := by
  refine ⟨h.bel.alloc h.bel.size _, ?_⟩
  rw [List.take_add_one, List.getElem?_eq_getElem hk, Option.toList_some, List.filter_append]
  simp only [List.filter_cons, hp, List.filter_nil, List.append_nil, Bool.false_eq_true, if_false]
  exact h.row.below ((Below.refl _ _).alloc (Nat.le_refl _) _)
theorem TyS.put {V W W' : World} {fs : List CT} {p : CT → Bool} {k : Nat} {v v' : Value} (h : TyS V fs p k v W) (o o2 : Obj) (hk : k < fs.length) (hp : p fs[k] = true) (hg : ((W.alloc o).alloc o2).grownBy W' v.ownBlock) (hr : ConsRow W' V.heap.size v' ((fs.take k).filter p ++ [fs[k]])) : TyS V fs p (k + 1) v' W' := by
  refine ⟨((h.bel.alloc h.bel.size o).alloc (by have := h.bel.size; simp; omega) o2).grown hg (by have := h.bel.size; simp; omega) (fun j hj => (h.row.lt hj).2), ?_⟩
  rw [List.take_add_one, List.getElem?_eq_getElem hk, Option.toList_some, List.filter_append]
  simp only [List.filter_cons, hp, List.filter_nil, if_true]
  exact hr
set_option maxRecDepth 100000 in
set_option maxHeartbeats 4000000 in
theorem type_c (fs : List CT) (hl : fs.length ≤ 2000000) (hf : ∀ f ∈ fs, f.1.size ≤ 9223372036854775807) (nm : ByteArray) (hs : nm.size ≤ 9223372036854775807) (g cap : Nat) (w : World) (hg : g < w.heap.size) (hcap : fs.length ≤ cap ∧ cap ≤ 9223372036854775807) (hA : ConsAt w g fs) :
    Calls Tryz.prog 23 #[.slice (some ⟨g, 0, none⟩) fs.length cap, .string nm] w fun e w' => Below w.heap.size w w' ∧ ∃ o c2 l', e = .returned (.slice o l'.length c2) ∧ ConsRow w' w.heap.size (.slice o l'.length c2) l' ∧ l'.Perm (tyM fs nm) := by
  have HF : Hid (Calls Tryz.prog 13 #[.slice (some ⟨g, 0, none⟩) fs.length cap, .string nm] w fun e w' => e = .returned (findV fs nm) ∧ Below w.heap.size w w') := find_c fs (by omega) hf nm hs g cap w hg hA
  have HA : Hid (ConsAt w g fs ∧ g < w.heap.size) := ⟨hA, hg⟩
  have hll : (fs.length : Int) ≤ 2000000 := by omega
  unfold findV at HF
  unfold tyM
  cases hq : fstC fs (askC nm).data.toList with
  | none =>
    rw [hq] at HF
    simp only [cnZ] at HF
    have HN : Hid (∀ W base, ConsRow W base (.slice none 0 0) []) := nilRow
    clear hq hs hf hA hg hl
    go_enter Tryz.func23, Tryz.ntmps23
    go_wp2_with (go_at_call 13; fail)
    refine HF.out.mono ?_
    rintro e w1 ⟨rfl, hb1⟩
    have HB : Hid (∀ o, Below w.heap.size w (w1.alloc o)) := fun o => hb1.alloc hb1.size o
    clear hb1 HF
    go_wp2
    go_ret
    first | exact ⟨HB.out _, none, 0, [], rfl, HN.out _ _, List.Perm.refl _⟩ | exact ⟨HB.out _, ⟨none, 0, [], rfl, HN.out _ _, List.Perm.refl _⟩⟩
  | some f =>
    rw [hq] at HF
    have HM : Hid (f ∈ fs) := List.mem_of_find?_eq_some hq
    obtain ⟨f1, f2, f3, f4⟩ := f
    simp only [cnV] at HF
    simp only
    generalize hp : (fun c : CT => c.2.2.1.toList == f3.toList) = p
    have HP : Hid (∀ c : CT, p c = (c.2.2.1.toList == f3.toList)) := fun c => by rw [← hp]
    have HLL : Hid (fs.length ≤ 2000000) := hl
    clear hq hs hf hA hg hp
    go_enter Tryz.func23, Tryz.ntmps23
    go_wp2_with (go_at_call 13; fail)
    refine HF.out.mono ?_
    rintro e w1 ⟨rfl, hb1⟩
    obtain ⟨V, hV⟩ : ∃ V, w1.alloc (.cells #[.string f1, .int .i64 f2, .string f3, .int .i64 f4] 38) = V := ⟨_, rfl⟩
    have HV : Hid (w1.alloc (.cells #[.string f1, .int .i64 f2, .string f3, .int .i64 f4] 38) = V) := hV
    have hbV : Below w.heap.size w V := by rw [← hV]; exact hb1.alloc hb1.size _
    have hkV : Blk V w1.heap.size #[.string f1, .int .i64 f2, .string f3, .int .i64 f4] 38 := by rw [← hV]; exact Blk.new w1 _ _
    have H0 : Hid (Below w.heap.size w V ∧ Blk V w1.heap.size #[.string f1, .int .i64 f2, .string f3, .int .i64 f4] 38 ∧ ConsAt V g fs ∧ g < V.heap.size) := ⟨hbV, hkV, HA.out.1.below HA.out.2 hbV, Nat.lt_of_lt_of_le HA.out.2 hbV.size⟩
    have HS0 : Hid (TyS V fs p 0 (.slice none 0 0) V) := ⟨Below.refl _ _, nilRow _ _⟩
    clear hV hbV hkV hb1 HF HA
    go_wp2_with fail
    rw [HV.out]
    go_loopg [7, 20] fs.length (fun gh v7 v20 wr => ∃ (o : Option Addr) (n c2 k : Nat), v7 = .slice o n c2 ∧ v20 = .int .i64 k ∧ k ≤ fs.length ∧ fs.length - k ≤ gh ∧ Hid (TyS V fs p k (.slice o n c2) wr))
    case atStart => exact ⟨_, _, _, 0, rfl, rfl, Nat.zero_le _, Nat.le_refl _, HS0⟩
    case round =>
      clear HS0
      obtain ⟨o, n, c2, k, rfl, rfl, hk, hgh, HI⟩ := hrel
      by_cases hkl : k < fs.length
      · have hkz : (k : Int) < (fs.length : Int) := by omega
        have hAt := (H0.out.2.2.1.below H0.out.2.2.2 HI.out.bel) k hkl
        have hfb := H0.out.2.1.below HI.out.bel
        have d2 := hfb.cell 2 _ rfl
        have dl := hfb.lt
        have gl : g < wr.heap.size := Nat.lt_of_lt_of_le H0.out.2.2.2 HI.out.bel.size
        have HW : Hid (V.heap.size ≤ wr.heap.size) := HI.out.bel.size
        have HTL : Hid (((fs.take k).filter p).length ≤ 2000000) := by
          have h1 := List.length_filter_le p (fs.take k)
          have h2 : (fs.take k).length ≤ fs.length := by simp; omega
          have := HLL.out
          show _ ≤ _
          omega
        have HSk : Hid (p fs[k] = false → ∀ o', TyS V fs p (k + 1) (.slice o n c2) (wr.alloc o')) := fun h o' => HI.out.skip o' hkl h
        have HPu : Hid (p fs[k] = true → ∀ o1 o2 v' W', ((wr.alloc o1).alloc o2).grownBy W' (Value.slice o n c2).ownBlock → ConsRow W' V.heap.size v' ((fs.take k).filter p ++ [fs[k]]) → TyS V fs p (k + 1) v' W') := fun h o1 o2 v' W' h1 h2 => HI.out.put o1 o2 hkl h h1 h2
        have hpk := HP.out fs[k]
        generalize fs[k] = c at hAt HSk HPu hpk
        obtain ⟨e1, e2, e3, e4⟩ := c
        obtain ⟨x0, x1, x2, x3⟩ := hAt
        simp only at x0 x1 x2 x3 hpk
        clear hfb
        cases hb : (e3.toList == f3.toList) with
        | false =>
          have HS2 := HSk.out (by rw [hpk, hb])
          have HS3 : Hid (∀ o', TyS V fs p (k + 1) (.slice o n c2) (wr.alloc o')) := HS2
          clear HS2 HSk HPu hpk
          go_wp2
          go_roundg (fs.length - (k + 1))
          case measure => omega
          case rel => exact ⟨o, n, c2, k + 1, rfl, by go_num, by omega, Nat.le_refl _, HS3.out _⟩
        | true =>
          have HS2 := HPu.out (by rw [hpk, hb])
          have HS3 : Hid (∀ o1 o2 v' W', ((wr.alloc o1).alloc o2).grownBy W' (Value.slice o n c2).ownBlock → ConsRow W' V.heap.size v' ((fs.take k).filter p ++ [(e1, e2, e3, e4)]) → TyS V fs p (k + 1) v' W') := HS2
          clear HS2 HSk HPu hpk
          go_wp2_with (at_builtin; refine appendC rfl _ _ rfl V.heap.size (.slice o n c2) ((fs.take k).filter p) (e1, e2, e3, e4) (wr.heap.size + 1) rfl ((HI.out.row.below ((Below.refl _ _).alloc (Nat.le_refl _) _)).below ((Below.refl _ _).alloc (Nat.le_refl _) _)) rfl (Blk.new2 wr _ _ _) HTL.out (by have := HW.out; simp; omega) ?_; intro v' w6 hr6 hg6 ha6; obtain ⟨o6, c6, hv6⟩ := hr6.form; subst hv6; have HS6 : Hid (TyS V fs p (k + 1) (.slice o6 ((fs.take k).filter p ++ [(e1, e2, e3, e4)]).length c6) w6) := HS3.out _ _ _ _ hg6 hr6; clear hr6 hg6 ha6)
          go_roundg (fs.length - (k + 1))
          case measure => omega
          case rel => exact ⟨o6, _, c6, k + 1, rfl, by go_num, by omega, Nat.le_refl _, by have h := HS6; rw [List.length_append] at h; exact h⟩
      · have hkz : ¬ (k : Int) < (fs.length : Int) := by omega
        have hR := HI.out.row
        rw [List.take_of_length_le (by omega)] at hR
        have hne : fs.filter p ≠ [] := fun e => by
          have := List.mem_filter.2 ⟨HM.out, (HP.out (f1, f2, f3, f4)).trans (by simp)⟩
          rw [e] at this
          cases this
        have hln : (fs.filter p).length < 1152921504606846976 := by
          have := List.length_filter_le p fs
          have := HLL.out
          omega
        have HSo : Hid (Calls Tryz.prog 29 #[.slice o n c2, .func (.func 30) #[] #[]] wr fun e w' => e = .returned (.tuple #[]) ∧ ∃ l', l'.Perm (fs.filter p) ∧ Srt l' ∧ ConsRow w' V.heap.size (.slice o n c2) l' ∧ wr.grownBy w' (Value.slice o n c2).ownBlock) := sortRow_c wr V.heap.size _ _ hR hne hln
        have HB : Hid (∀ w', wr.grownBy w' (Value.slice o n c2).ownBlock → Below w.heap.size w w') := fun w' hgr => H0.out.1.trans ((HI.out.bel.grown hgr HI.out.bel.size (fun j hj => (HI.out.row.lt hj).2)).mono H0.out.1.size)
        have HMo : Hid (w.heap.size ≤ V.heap.size) := H0.out.1.size
        clear hR hne hln
        go_wp2_with (go_at_call 29; fail)
        refine HSo.out.mono ?_
        rintro e w2 ⟨rfl, l', hp', hsr, hr', hgr⟩
        obtain ⟨o3, c3, hv3⟩ := hr'.form
        cases hv3
        have HE : Hid (Below w.heap.size w w2 ∧ ConsRow w2 w.heap.size (.slice o l'.length c2) l' ∧ l'.Perm (fs.filter p)) := ⟨HB.out _ hgr, hr'.mono HMo.out, hp'⟩
        clear hp' hsr hr' hgr HSo HB HI
        go_wp2
        go_ret
        exact ⟨HE.out.1, o, c2, l', rfl, HE.out.2.1, HE.out.2.2⟩
set_option maxRecDepth 100000 in
set_option maxHeartbeats 4000000 in
theorem onlySh_c (fs : List CT) (hl : fs.length ≤ 2000000) (hf : ∀ f ∈ fs, f.1.size ≤ 9223372036854775807) (nm : ByteArray) (hs : nm.size ≤ 9223372036854775807) (g cap : Nat) (w : World) (hg : g < w.heap.size) (hcap : fs.length ≤ cap ∧ cap ≤ 9223372036854775807) (hA : ConsAt w g fs) (b : Bool) (hb : ((tyM fs nm).length == 1) = b) :
    Calls Tryz.prog 14 #[.slice (some ⟨g, 0, none⟩) fs.length cap, .string nm] w fun e w' => e = .returned (.bool b) ∧ Below w.heap.size w w' := by
  have HF : Hid (Calls Tryz.prog 23 #[.slice (some ⟨g, 0, none⟩) fs.length cap, .string nm] w fun e w' => Below w.heap.size w w' ∧ ∃ o c2 l', e = .returned (.slice o l'.length c2) ∧ ConsRow w' w.heap.size (.slice o l'.length c2) l' ∧ l'.Perm (tyM fs nm)) := type_c fs hl hf nm hs g cap w hg hcap hA
  have HB : Hid (((tyM fs nm).length == 1) = b) := hb
  clear hA hs hf hl hb hcap
  go_enter Tryz.func14, Tryz.ntmps14
  go_wp2_with (go_at_call 23; fail)
  refine HF.out.mono ?_
  rintro e w1 ⟨hb1, o, c2, l', rfl, hr, hp⟩
  have hlen : l'.length = (tyM fs nm).length := hp.length_eq
  have H1 : Hid (Below w.heap.size w w1) := hb1
  rw [hlen]
  have HB2 := HB.out
  generalize (tyM fs nm).length = m at HB2 ⊢
  clear hb1 hr hp hlen HF
  cases b with
  | false =>
    have hm : ¬ m = 1 := by simpa using HB2
    have hm2 : ¬ (m : Int) = 1 := by omega
    have hm3 : ((m : Int) == 1) = false := by simpa using hm2
    go_wp2
    go_ret
    first | exact ⟨rfl, H1.out⟩ | exact ⟨by simp [hm2], H1.out⟩ | exact ⟨by simp; omega, H1.out⟩
  | true =>
    have hm : m = 1 := by simpa using HB2
    subst hm
    go_wp2
    go_ret
    exact ⟨rfl, H1.out⟩
end Go.Proofs.YtdbpggncpkocaaaGreatDoor

namespace Go.Proofs.YtdbpggncpkocaaaGreatDoor
open Go.RowKit Go.Shelf Go.Maps
set_option linter.unusedVariables false

def kF1 : Nd := .mk 2 [84] 0 [.mk 3 [65] 0 [] 0] 0
def kF2 : Nd := .mk 2 [85] 0 [.mk 3 [65] 0 [] 9] 5
def nF : Nd := .mk 1 [] 0 [kF1, kF2] 0
def kG : Nd := .mk 2 [66, 111, 111, 108] 0 [.mk 3 [88] 0 [] 0] 3
def nG : Nd := .mk 1 [] 0 [kG] 0
def kX : Nd := .mk 34 [120] 0 [] 0
def kOne : Nd := .mk 8 [] 0 [.mk 13 [] 1 [] 0] 0
def kBad : Nd := .mk 39 [65] 0 [kX] 7
def kNone : Nd := .mk 39 [67] 0 [] 8
def kH1 : Nd := .mk 2 [84] 0 [kA] 0
def kH2 : Nd := .mk 6 [102] 0 [kBad, kOne] 0
def nH : Nd := .mk 1 [] 0 [kH1, kH2] 0
def kI : Nd := .mk 6 [102] 0 [kNone, kOne] 0
def nI : Nd := .mk 1 [] 0 [kI] 0
set_option maxRecDepth 100000 in
theorem chk_nF : chkM nF = 0 := by decide
set_option maxRecDepth 100000 in
theorem chk_nG : chkM nG = 0 := by decide
set_option maxRecDepth 100000 in
theorem chk_nH : chkM nH = 0 := by decide
set_option maxRecDepth 100000 in
theorem chk_nI : chkM nI = 0 := by decide
theorem wd_nF {l : List CT} (hp : l.Perm biL) : wdM l nF.kids = .error 9 := by
  have h1 : [84] ∉ tyL l := fun h => absurd ((mem_perm hp [84]).1.1 h) (by decide)
  have h2 : [65] ∉ nmL l := fun h => absurd ((mem_perm hp [65]).2.1 h) (by decide)
  have h3 : [85] ∉ ([84] :: tyL l) := fun h => by
    rw [List.mem_cons] at h
    rcases h with h | h
    · cases h
    · exact absurd ((mem_perm hp [85]).1.1 h) (by decide)
  show decM [kF1, kF2] (tyL l) (nmL l) l = _
  have hc : conM (bs kF1.name) kF1.kids 0 (nmL l) l = .ok ([65] :: nmL l, l ++ [(bs [65], 0, bs [84], 0)]) := by
    show conM (bs [84]) [.mk 3 [65] 0 [] 0] 0 (nmL l) l = _
    rw [conM_go _ _ _ _ _ _ (show (Nd.mk 3 [65] 0 [] 0).name ∉ nmL l from h2)]
    rfl
  rw [decM_ok _ _ _ _ _ _ _ (show kF1.kind = 2 from rfl) (show kF1.name ∉ tyL l from h1) hc]
  exact decM_err _ _ _ _ _ _ (show kF2.kind = 2 from rfl) (show kF2.name ∉ kF1.name :: tyL l from h3) (conM_two _ _ _ _ _ _ (show (Nd.mk 3 [65] 0 [] 9).name ∈ [65] :: nmL l from List.mem_cons_self))
theorem wd_nG {l : List CT} (hp : l.Perm biL) : wdM l nG.kids = .error 3 :=
  decM_two _ _ _ _ _ (show kG.kind = 2 from rfl) (show kG.name ∈ tyL l from (mem_perm hp [66, 111, 111, 108]).1.2 (by decide))
theorem wd_nH {l : List CT} (hp : l.Perm biL) : wdM l nH.kids = .ok (l ++ [cA]) := by
  have h1 : [84] ∉ tyL l := fun h => absurd ((mem_perm hp [84]).1.1 h) (by decide)
  have h2 : [65] ∉ nmL l := fun h => absurd ((mem_perm hp [65]).2.1 h) (by decide)
  show decM [kH1, kH2] (tyL l) (nmL l) l = _
  have hc : conM (bs kH1.name) kH1.kids 0 (nmL l) l = .ok ([65] :: nmL l, l ++ [cA]) := by
    show conM (bs [84]) [kA] 0 (nmL l) l = _
    rw [conM_go _ _ _ _ _ _ (show kA.name ∉ nmL l from h2)]
    rfl
  rw [decM_ok _ _ _ _ _ _ _ (show kH1.kind = 2 from rfl) (show kH1.name ∉ tyL l from h1) hc, decM_skip _ _ _ _ _ (show ¬ kH2.kind = 2 by decide)]
  rfl
theorem wd_nI {l : List CT} (hp : l.Perm biL) : wdM l nI.kids = .ok l := by
  show decM [kI] (tyL l) (nmL l) l = _
  rw [decM_skip _ _ _ _ _ (show ¬ kI.kind = 2 by decide)]
  rfl
/-- What Cons tells where it tells a fault. -/
theorem err_nF {er p : Int} (h : CsErr nF er p) : er = 8 ∧ p = 9 := by
  rcases h with ⟨h, _⟩ | ⟨_, h, _⟩ | ⟨_, _, h3, l, h1, h2⟩
  · exact absurd chk_nF h
  · exact absurd rfl h
  · rw [wd_nF h1] at h2; cases h2; exact ⟨h3, rfl⟩
theorem ok_nF {l : List CT} (h : CsOk nF l) : False := by
  obtain ⟨_, _, _, l0, l2, h4, h5, _⟩ := h
  rw [wd_nF h4] at h5
  cases h5
theorem err_nG {er p : Int} (h : CsErr nG er p) : er = 8 ∧ p = 3 := by
  rcases h with ⟨h, _⟩ | ⟨_, h, _⟩ | ⟨_, _, h3, l, h1, h2⟩
  · exact absurd chk_nG h
  · exact absurd rfl h
  · rw [wd_nG h1] at h2; cases h2; exact ⟨h3, rfl⟩
theorem ok_nG {l : List CT} (h : CsOk nG l) : False := by
  obtain ⟨_, _, _, l0, l2, h4, h5, _⟩ := h
  rw [wd_nG h4] at h5
  cases h5
theorem err_nH {er p : Int} (h : CsErr nH er p) : False := by
  rcases h with ⟨h, _⟩ | ⟨_, h, _⟩ | ⟨_, _, _, l, h1, h2⟩
  · exact absurd chk_nH h
  · exact absurd rfl h
  · rw [wd_nH h1] at h2; cases h2
theorem err_nI {er p : Int} (h : CsErr nI er p) : False := by
  rcases h with ⟨h, _⟩ | ⟨_, h, _⟩ | ⟨_, _, _, l, h1, h2⟩
  · exact absurd chk_nI h
  · exact absurd rfl h
  · rw [wd_nI h1] at h2; cases h2
theorem ff_nH {l : List CT} (h : CsOk nH l) : ffM l 5 nH = (9, 7) := by
  obtain ⟨⟨T, N, hG⟩, _, _, _⟩ := csOk_facts h
  obtain ⟨_, _, _, l0, l2, h4, h5, h6⟩ := h
  rw [wd_nH h4] at h5
  cases h5
  have hm : cA ∈ l := h6.mem_iff.2 (by simp)
  have hf : fstC l (askC (bs [65])).data.toList = some cA := find_own hG hm
  simp [ffM, ffK, wrM, nH, kH1, kH2, kA, kBad, kX, kOne, Nd.kind, Nd.name, Nd.kids, Nd.pos, hf, cA]
theorem fst_none {l : List CT} {x : List UInt8} (h : x ∉ l.map nmC) : fstC l x = none := by
  unfold fstC
  rw [List.find?_eq_none]
  intro c hc e
  exact h (List.mem_map.2 ⟨c, hc, by simpa [nmC] using e⟩)
theorem ff_nI {l : List CT} (h : CsOk nI l) : ffM l 5 nI = (8, 8) := by
  obtain ⟨_, _, _, l0, l2, h4, h5, h6⟩ := h
  rw [wd_nI h4] at h5
  cases h5
  have hp : l.Perm biL := h6.trans h4
  have hn : [67] ∉ l.map nmC := fun hx => absurd ((hp.map nmC).mem_iff.1 hx) (by decide)
  have ha : askC (bs [67]) = bs [67] := by unfold askC; rw [if_neg]; rw [ByteArray.toList_eq]; decide
  have hf : fstC l (askC (bs [67])).data.toList = none := by rw [ha]; exact fst_none hn
  simp [ffM, ffK, wrM, nI, kI, kNone, Nd.kind, Nd.name, Nd.kids, Nd.pos, hf]
/-- Of the built-in ones. -/
theorem bi_find {l : List CT} (hp : l.Perm biL) : findV l ⟨#[58]⟩ = .tuple #[.agg #[.string ⟨#[67, 111, 110, 115]⟩, .int .i64 2, .string ⟨#[76, 105, 115, 116]⟩, .int .i64 1], .bool true] := by
  have hG : Gth (tyL biL) (nmL biL) l := bi_gth.perm hp (fun _ h => h) (fun _ h => h)
  have hm : ((⟨#[67, 111, 110, 115]⟩, 2, ⟨#[76, 105, 115, 116]⟩, 1) : CT) ∈ l := hp.mem_iff.2 (by simp [biL, b5L])
  have hf := find_own hG hm
  have ha : askC ⟨#[58]⟩ = ⟨#[67, 111, 110, 115]⟩ := by unfold askC; rw [if_pos]; rw [ByteArray.toList_eq]
  have ha2 : askC ⟨#[67, 111, 110, 115]⟩ = ⟨#[67, 111, 110, 115]⟩ := by unfold askC; rw [if_neg]; rw [ByteArray.toList_eq]; decide
  rw [ha2] at hf
  unfold findV
  rw [ha, hf]
  rfl
theorem bi_type {l : List CT} (hp : l.Perm biL) {c : CT} (hc : c ∈ biL) : (tyM l c.1).length = (biL.filter (fun x => x.2.2.1.toList == c.2.2.1.toList)).length := by
  have hG : Gth (tyL biL) (nmL biL) l := bi_gth.perm hp (fun _ h => h) (fun _ h => h)
  have hf := find_own hG (hp.mem_iff.2 hc)
  unfold tyM
  rw [hf]
  exact (hp.filter _).length_eq
theorem bi_tup2 {l : List CT} (hp : l.Perm biL) : ((tyM l ⟨#[84, 117, 112, 50]⟩).length == 1) = true := by
  have := bi_type hp (c := tup2) (by simp [biL])
  rw [show (⟨#[84, 117, 112, 50]⟩ : ByteArray) = tup2.1 from rfl, this]
  simp only [ByteArray.toList_eq]
  decide
theorem bi_nil {l : List CT} (hp : l.Perm biL) : ((tyM l ⟨#[78, 105, 108]⟩).length == 1) = false := by
  have := bi_type hp (c := (⟨#[78, 105, 108]⟩, 0, ⟨#[76, 105, 115, 116]⟩, 0)) (by simp [biL, b5L])
  rw [show (⟨#[78, 105, 108]⟩ : ByteArray) = ((⟨#[78, 105, 108]⟩, 0, ⟨#[76, 105, 115, 116]⟩, 0) : CT).1 from rfl, this]
  simp only [ByteArray.toList_eq]
  decide
end Go.Proofs.YtdbpggncpkocaaaGreatDoor

namespace Go.Proofs.YtdbpggncpkocaaaGreatDoor
open Go.RowKit Go.Shelf Go.Maps
set_option linter.unusedVariables false

theorem ndL_get (n : Nd) (o : Option Addr) (cap : Nat) : (ndL n o cap).length = 5 := rfl
theorem at_one {W : World} {g : Nat} {n : Nd} {o : Option Addr} {cap : Nat} {r : List Value} {T : TypeId} (h : Blk W g (ndL n o cap ++ r).toArray T) (hn : NdIn W W.heap.size n o cap) : NdAt W W.heap.size n g 0 :=
  ndAt_cells hn (fun j u hu => by
    have := h.cell j u (by
      rw [List.getElem?_toArray]
      rw [List.getElem?_append_left (List.getElem?_eq_some_iff.1 hu).1]
      exact hu)
    simpa using this)
theorem at_two {W : World} {g : Nat} {m n : Nd} {p o : Option Addr} {cp cap : Nat} {T : TypeId} (h : Blk W g (ndL m p cp ++ ndL n o cap).toArray T) (hn : NdIn W W.heap.size n o cap) : NdAt W W.heap.size n g (0 + 5) :=
  ndAt_cells hn (fun j u hu => by
    have := h.cell (0 + 5 + j) u (by
      rw [List.getElem?_toArray, List.getElem?_append_right (by rw [ndL_get]; omega), ndL_get]
      rw [show 0 + 5 + j - 5 = j by omega]
      exact hu)
    simpa using this)
/-- A node whose one kid lies in a block of its own. -/
theorem in_one {W : World} {g : Nat} {n : Nd} {o : Option Addr} {cap : Nat} {T : TypeId} (k : Int) (nm : List UInt8) (num pos : Int) (hw : (-9223372036854775808 ≤ k ∧ k ≤ 9223372036854775807) ∧ nm.length ≤ 9223372036854775807 ∧ (-9223372036854775808 ≤ num ∧ num ≤ 9223372036854775807)) (h : Blk W g (ndL n o cap).toArray T) (hn : NdIn W W.heap.size n o cap) : NdIn W W.heap.size (.mk k nm num [n] pos) (some ⟨g, 0, none⟩) 1 := by
  refine ⟨.inr ⟨g, 0, rfl, h.lt, ?_⟩, by simp [Nd.kids], by decide, hw⟩
  show KidsAt W W.heap.size [n] g 0
  simp only [KidsAt, and_true]
  exact at_one (r := []) (by simpa using h) hn
/-- A node whose two kids lie in a block of their own. -/
theorem in_two {W : World} {g : Nat} {m n : Nd} {p o : Option Addr} {cp cap : Nat} {T : TypeId} (k : Int) (nm : List UInt8) (num pos : Int) (hw : (-9223372036854775808 ≤ k ∧ k ≤ 9223372036854775807) ∧ nm.length ≤ 9223372036854775807 ∧ (-9223372036854775808 ≤ num ∧ num ≤ 9223372036854775807)) (h : Blk W g (ndL m p cp ++ ndL n o cap).toArray T) (hm : NdIn W W.heap.size m p cp) (hn : NdIn W W.heap.size n o cap) : NdIn W W.heap.size (.mk k nm num [m, n] pos) (some ⟨g, 0, none⟩) 2 := by
  refine ⟨.inr ⟨g, 0, rfl, h.lt, ?_⟩, by simp [Nd.kids], by decide, hw⟩
  show KidsAt W W.heap.size [m, n] g 0
  simp only [KidsAt, and_true]
  exact ⟨at_one h hm, at_two h hn⟩
/-- A leaf. -/
theorem in_leaf (W : World) (k : Int) (nm : List UInt8) (num pos : Int) (hw : (-9223372036854775808 ≤ k ∧ k ≤ 9223372036854775807) ∧ nm.length ≤ 9223372036854775807 ∧ (-9223372036854775808 ≤ num ∧ num ≤ 9223372036854775807)) : NdIn W W.heap.size (.mk k nm num [] pos) none 0 :=
  ⟨.inl rfl, by simp [Nd.kids], by decide, hw⟩
theorem in_nF {W : World} {g1 g2 g3 : Nat} {T : TypeId} (h1 : Blk W g1 #[.int .i64 3, .string ⟨#[65]⟩, .int .i64 0, .slice none 0 0, .int .i64 0] T) (h2 : Blk W g2 #[.int .i64 3, .string ⟨#[65]⟩, .int .i64 0, .slice none 0 0, .int .i64 9] T) (h3 : Blk W g3 #[.int .i64 2, .string ⟨#[84]⟩, .int .i64 0, .slice (some ⟨g1, 0, none⟩) 1 1, .int .i64 0, .int .i64 2, .string ⟨#[85]⟩, .int .i64 0, .slice (some ⟨g2, 0, none⟩) 1 1, .int .i64 5] T) : NdIn W W.heap.size nF (some ⟨g3, 0, none⟩) 2 :=
  in_two 1 [] 0 0 (by decide) (m := kF1) (n := kF2) h3 (in_one 2 [84] 0 0 (by decide) h1 (in_leaf W 3 [65] 0 0 (by decide))) (in_one 2 [85] 0 5 (by decide) h2 (in_leaf W 3 [65] 0 9 (by decide)))
theorem in_nG {W : World} {g1 g2 : Nat} {T : TypeId} (h1 : Blk W g1 #[.int .i64 3, .string ⟨#[88]⟩, .int .i64 0, .slice none 0 0, .int .i64 0] T) (h2 : Blk W g2 #[.int .i64 2, .string ⟨#[66, 111, 111, 108]⟩, .int .i64 0, .slice (some ⟨g1, 0, none⟩) 1 1, .int .i64 3] T) : NdIn W W.heap.size nG (some ⟨g2, 0, none⟩) 1 :=
  in_one 1 [] 0 0 (by decide) (n := kG) h2 (in_one 2 [66, 111, 111, 108] 0 3 (by decide) h1 (in_leaf W 3 [88] 0 0 (by decide)))
theorem in_one1 {W : World} {g : Nat} {T : TypeId} (h : Blk W g #[.int .i64 13, .string ⟨#[]⟩, .int .i64 1, .slice none 0 0, .int .i64 0] T) : NdIn W W.heap.size kOne (some ⟨g, 0, none⟩) 1 :=
  in_one 8 [] 0 0 (by decide) h (in_leaf W 13 [] 1 0 (by decide))
theorem in_bad {W : World} {g : Nat} {T : TypeId} (h : Blk W g #[.int .i64 34, .string ⟨#[120]⟩, .int .i64 0, .slice none 0 0, .int .i64 0] T) : NdIn W W.heap.size kBad (some ⟨g, 0, none⟩) 1 :=
  in_one 39 [65] 0 7 (by decide) h (in_leaf W 34 [120] 0 0 (by decide))
theorem in_nH {W : World} {gx g1 gA gE gK : Nat} {T : TypeId} (hx : Blk W gx #[.int .i64 34, .string ⟨#[120]⟩, .int .i64 0, .slice none 0 0, .int .i64 0] T) (h1 : Blk W g1 #[.int .i64 13, .string ⟨#[]⟩, .int .i64 1, .slice none 0 0, .int .i64 0] T)
    (hA : Blk W gA #[.int .i64 3, .string ⟨#[65]⟩, .int .i64 2, .slice none 0 0, .int .i64 0] T) (hE : Blk W gE #[.int .i64 39, .string ⟨#[65]⟩, .int .i64 0, .slice (some ⟨gx, 0, none⟩) 1 1, .int .i64 7, .int .i64 8, .string ⟨#[]⟩, .int .i64 0, .slice (some ⟨g1, 0, none⟩) 1 1, .int .i64 0] T)
    (hK : Blk W gK #[.int .i64 2, .string ⟨#[84]⟩, .int .i64 0, .slice (some ⟨gA, 0, none⟩) 1 1, .int .i64 0, .int .i64 6, .string ⟨#[102]⟩, .int .i64 0, .slice (some ⟨gE, 0, none⟩) 2 2, .int .i64 0] T) : NdIn W W.heap.size nH (some ⟨gK, 0, none⟩) 2 :=
  in_two 1 [] 0 0 (by decide) (m := kH1) (n := kH2) hK (in_one 2 [84] 0 0 (by decide) (n := kA) hA (in_leaf W 3 [65] 2 0 (by decide))) (in_two 6 [102] 0 0 (by decide) (m := kBad) (n := kOne) hE (in_bad hx) (in_one1 h1))
theorem in_nI {W : World} {g1 gE gK : Nat} {T : TypeId} (h1 : Blk W g1 #[.int .i64 13, .string ⟨#[]⟩, .int .i64 1, .slice none 0 0, .int .i64 0] T)
    (hE : Blk W gE #[.int .i64 39, .string ⟨#[67]⟩, .int .i64 0, .slice none 0 0, .int .i64 8, .int .i64 8, .string ⟨#[]⟩, .int .i64 0, .slice (some ⟨g1, 0, none⟩) 1 1, .int .i64 0] T)
    (hK : Blk W gK #[.int .i64 6, .string ⟨#[102]⟩, .int .i64 0, .slice (some ⟨gE, 0, none⟩) 2 2, .int .i64 0] T) : NdIn W W.heap.size nI (some ⟨gK, 0, none⟩) 1 :=
  in_one 1 [] 0 0 (by decide) (n := kI) hK (in_two 6 [102] 0 0 (by decide) (m := kNone) (n := kOne) hE (in_leaf W 39 [67] 0 8 (by decide)) (in_one1 h1))
end Go.Proofs.YtdbpggncpkocaaaGreatDoor

namespace Go.Proofs.YtdbpggncpkocaaaGreatDoor
open Go.RowKit Go.Shelf Go.Maps
set_option linter.unusedVariables false

theorem con_r (s : ByteArray) (k : Int) (w : World) : Calls Tryz.prog 8 #[.string s, .int .i64 k] w fun e w' => e = .returned (.agg #[.int .i64 3, .string s, .int .i64 k, .slice none 0 0, .int .i64 0]) ∧ Below w.heap.size w w' :=
  (con_c s k w).mono (fun e w' ⟨he, hw⟩ => ⟨he, by rw [hw]; exact (Below.refl _ _).alloc (Nat.le_refl _) _⟩)
theorem data_r (s : ByteArray) (k : Int) (o : Option Addr) (n cap : Nat) (w : World) : Calls Tryz.prog 11 #[.string s, .int .i64 k, .slice o n cap] w fun e w' => e = .returned (.agg #[.int .i64 2, .string s, .int .i64 0, .slice o n cap, .int .i64 k]) ∧ Below w.heap.size w w' :=
  (data_c s k o n cap w).mono (fun e w' ⟨he, hw⟩ => ⟨he, by rw [hw]; exact (Below.refl _ _).alloc (Nat.le_refl _) _⟩)
theorem program_r (o : Option Addr) (n cap : Nat) (w : World) : Calls Tryz.prog 10 #[.slice o n cap] w fun e w' => e = .returned (.agg #[.int .i64 1, .string ⟨#[]⟩, .int .i64 0, .slice o n cap, .int .i64 0]) ∧ Below w.heap.size w w' :=
  (program_c o n cap w).mono (fun e w' ⟨he, hw⟩ => ⟨he, by rw [hw]; exact (Below.refl _ _).alloc (Nat.le_refl _) _⟩)
theorem consF_c (g : Nat) (w : World) (hn : NdIn w w.heap.size nF (some ⟨g, 0, none⟩) 2) (hG : GOK w) : Calls Tryz.prog 9 #[.agg #[.int .i64 1, .string ⟨#[]⟩, .int .i64 0, .slice (some ⟨g, 0, none⟩) 2 2, .int .i64 0]] w fun e w' => e = .returned (.tuple #[.slice none 0 0, .agg #[.int .i64 8, .int .i64 9]]) ∧ Below w.heap.size w w' :=
  (cons_c nF (some ⟨g, 0, none⟩) 2 w hn hG).mono (fun e w' ⟨hb, h⟩ => by
    rcases h with ⟨er, p, he, rfl⟩ | ⟨v, l, hok, _⟩
    · obtain ⟨rfl, rfl⟩ := err_nF he
      exact ⟨rfl, hb⟩
    · exact (ok_nF hok).elim)
theorem consG_c (g : Nat) (w : World) (hn : NdIn w w.heap.size nG (some ⟨g, 0, none⟩) 1) (hG : GOK w) : Calls Tryz.prog 9 #[.agg #[.int .i64 1, .string ⟨#[]⟩, .int .i64 0, .slice (some ⟨g, 0, none⟩) 1 1, .int .i64 0]] w fun e w' => e = .returned (.tuple #[.slice none 0 0, .agg #[.int .i64 8, .int .i64 3]]) ∧ Below w.heap.size w w' :=
  (cons_c nG (some ⟨g, 0, none⟩) 1 w hn hG).mono (fun e w' ⟨hb, h⟩ => by
    rcases h with ⟨er, p, he, rfl⟩ | ⟨v, l, hok, _⟩
    · obtain ⟨rfl, rfl⟩ := err_nG he
      exact ⟨rfl, hb⟩
    · exact (ok_nG hok).elim)
theorem checkH_c (g : Nat) (w : World) (hn : NdIn w w.heap.size nH (some ⟨g, 0, none⟩) 2) (hG : GOK w) : Calls Tryz.prog 12 #[.agg #[.int .i64 1, .string ⟨#[]⟩, .int .i64 0, .slice (some ⟨g, 0, none⟩) 2 2, .int .i64 0]] w fun e w' => e = .returned (.agg #[.int .i64 9, .int .i64 7]) ∧ Below w.heap.size w w' :=
  (checkSh_c nH (some ⟨g, 0, none⟩) 2 w hn hG 5 (by decide)).mono (fun e w' ⟨hb, er, p, he, h⟩ => by
    rcases h with h | ⟨l, hok, h1, h2⟩
    · exact (err_nH h).elim
    · rw [ff_nH hok] at h1 h2
      rw [he, h1, h2]
      exact ⟨rfl, hb⟩)
theorem checkI_c (g : Nat) (w : World) (hn : NdIn w w.heap.size nI (some ⟨g, 0, none⟩) 1) (hG : GOK w) : Calls Tryz.prog 12 #[.agg #[.int .i64 1, .string ⟨#[]⟩, .int .i64 0, .slice (some ⟨g, 0, none⟩) 1 1, .int .i64 0]] w fun e w' => e = .returned (.agg #[.int .i64 8, .int .i64 8]) ∧ Below w.heap.size w w' :=
  (checkSh_c nI (some ⟨g, 0, none⟩) 1 w hn hG 5 (by decide)).mono (fun e w' ⟨hb, er, p, he, h⟩ => by
    rcases h with h | ⟨l, hok, h1, h2⟩
    · exact (err_nI h).elim
    · rw [ff_nI hok] at h1 h2
      rw [he, h1, h2]
      exact ⟨rfl, hb⟩)
/-- The built-in ones in memory. -/
def BiAt (W : World) (g cap : Nat) : Prop := ∃ l : List CT, l.Perm biL ∧ g < W.heap.size ∧ ConsAt W g l ∧ (8 ≤ cap ∧ cap ≤ 9223372036854775807)
theorem builtin3_c (w : World) : Calls Tryz.prog 7 #[] w fun e w' => ∃ g cap, e = .returned (.slice (some ⟨g, 0, none⟩) 8 cap) ∧ BiAt w' g cap ∧ Below w.heap.size w w' :=
  (builtin2_c w).mono (fun e w' ⟨g, cap, l, he, hp, _, hr, hb⟩ => by
    have h8 : l.length = 8 := hp.length_eq
    have hne : l ≠ [] := fun e => by rw [e] at h8; cases h8
    obtain ⟨g', cap', cur, e1, _, hgl, _, hc1, hc2, _, _⟩ := hr.shape hne
    obtain ⟨g2, cap2, e2, _, _, hAt⟩ := hr.at hne
    injection e1 with e3 e4 e5
    injection e2 with e6 e7 e8
    injection e6 with e6
    injection e6 with e6
    subst e5
    subst e6
    rw [h8] at hc1
    have hl2 := (hr.lt rfl).1
    have hcm : maxLen ≤ 9223372036854775807 := by decide
    exact ⟨_, _, he, ⟨l, hp, hl2, hAt, hc1, Nat.le_trans hc2 hcm⟩, hb⟩)
theorem findB_c (g cap : Nat) (w : World) (h : BiAt w g cap) : Calls Tryz.prog 13 #[.slice (some ⟨g, 0, none⟩) 8 cap, .string ⟨#[58]⟩] w fun e w' => e = .returned (.tuple #[.agg #[.string ⟨#[67, 111, 110, 115]⟩, .int .i64 2, .string ⟨#[76, 105, 115, 116]⟩, .int .i64 1], .bool true]) ∧ Below w.heap.size w w' := by
  obtain ⟨l, hp, hg, hA, hc⟩ := h
  have h8 : l.length = 8 := hp.length_eq
  have hf := find_c l (by omega) (fun f hf => (bi_names f (hp.mem_iff.1 hf)).1) ⟨#[58]⟩ (by decide) g cap w hg hA
  rw [h8, bi_find hp] at hf
  exact hf
theorem only2_c (g cap : Nat) (w : World) (h : BiAt w g cap) : Calls Tryz.prog 14 #[.slice (some ⟨g, 0, none⟩) 8 cap, .string ⟨#[84, 117, 112, 50]⟩] w fun e w' => e = .returned (.bool true) ∧ Below w.heap.size w w' := by
  obtain ⟨l, hp, hg, hA, hc⟩ := h
  have h8 : l.length = 8 := hp.length_eq
  have hf := onlySh_c l (by omega) (fun f hf => (bi_names f (hp.mem_iff.1 hf)).1) ⟨#[84, 117, 112, 50]⟩ (by decide) g cap w hg (by omega) hA true (bi_tup2 hp)
  rw [h8] at hf
  exact hf
theorem onlyNil_c (g cap : Nat) (w : World) (h : BiAt w g cap) : Calls Tryz.prog 14 #[.slice (some ⟨g, 0, none⟩) 8 cap, .string ⟨#[78, 105, 108]⟩] w fun e w' => e = .returned (.bool false) ∧ Below w.heap.size w w' := by
  obtain ⟨l, hp, hg, hA, hc⟩ := h
  have h8 : l.length = 8 := hp.length_eq
  have hf := onlySh_c l (by omega) (fun f hf => (bi_names f (hp.mem_iff.1 hf)).1) ⟨#[78, 105, 108]⟩ (by decide) g cap w hg (by omega) hA false (bi_nil hp)
  rw [h8] at hf
  exact hf
end Go.Proofs.YtdbpggncpkocaaaGreatDoor
