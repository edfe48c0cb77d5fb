/-
  ShapeTags: the law's walk.
-/
import Derived.Test.YtdbpggncpkocaaaGreatDoorGLi
import Derived.Sort.Walk0
import Derived.BigQuiet
namespace Go.Proofs.YtdbpggncpkocaaaGreatDoor
open Go.RowKit Go.Shelf Go.Maps
set_option linter.unusedVariables false

theorem csErr_ne {n : Nd} {er p : Int} (h : CsErr n er p) : er ≠ 0 := by
  rcases h with ⟨h1, h2, _⟩ | ⟨_, _, h, _⟩ | ⟨_, _, h, _⟩
  · rw [h2]; exact h1
  · omega
  · omega
set_option maxRecDepth 100000 in
theorem neCon (n n' t t' : ByteArray) (a a' g g' : Int) (W : World) : (binOp .neq 38 (.agg #[.string n, .int .i64 a, .string t, .int .i64 g]) (.agg #[.string n', .int .i64 a', .string t', .int .i64 g'])).run Tryz.prog W = .ok (.bool !((n.toList == n'.toList) && ((a == a') && ((t.toList == t'.toList) && (g == g'))))) W := by
  rw [run_neq_struct, run_equalIn_struct W 9999 38 _ _ fieldsC stoodC]
  simp [Program.fieldsOf, Tryz.underlying38, Op.eqFields, go_sem]
  by_cases h1 : n.toList = n'.toList <;> by_cases h2 : a = a' <;> by_cases h3 : t.toList = t'.toList <;> by_cases h4 : g = g' <;> simp [h1, h2, h3, h4]
set_option maxRecDepth 100000 in
theorem neFault (a a' b b' : Int) (W : World) : (binOp .neq 31 (.agg #[.int .i64 a, .int .i64 b]) (.agg #[.int .i64 a', .int .i64 b'])).run Tryz.prog W = .ok (.bool !((a == a') && (b == b'))) W := by
  rw [run_neq_struct, run_equalIn_struct W 9999 31 _ _ fieldsF stoodF]
  simp [Program.fieldsOf, Tryz.underlying31, Op.eqFields, go_sem]
  by_cases h1 : a = a' <;> by_cases h2 : b = b' <;> simp [h1, h2]
theorem blw_drew (W : World) (n : Nat) : Below W.heap.size W (W.drewN n) := ⟨rfl, rfl, rfl, Nat.le_refl _, fun _ _ => rfl⟩
/-- What the law has of a program's constructors. -/
structure TgS (w : World) (g : Nat) (l : List CT) (W : World) : Prop where
  at' : ConsAt W g l
  lt : g < W.heap.size
  bel : Below w.heap.size w W
theorem TgS.on {w W W' : World} {g : Nat} {l : List CT} (h : TgS w g l W) (hb : Below W.heap.size W W') : TgS w g l W' := ⟨h.at'.below h.lt hb, Nat.lt_of_lt_of_le h.lt hb.size, h.bel.trans (hb.mono h.bel.size)⟩
set_option maxRecDepth 100000 in
set_option maxHeartbeats 8000000 in
theorem tags_c (n : Nd) (o : Option Addr) (cap : Nat) (w : World) (hn : NdIn w w.heap.size n o cap) (hG : GOK w) : Calls Tryz.prog 5 #[.agg #[.int .i64 n.kind, .string (bs n.name), .int .i64 n.num, .slice o n.kids.length cap, .int .i64 n.pos]] w fun e w' => e = .returned (.bool true) ∧ Below w.heap.size w w' := by
  have hq1 := neCon
  have hq2 := neFault
  obtain ⟨V, hV⟩ : ∃ V, w.alloc (.cells #[.int .i64 n.kind, .string (bs n.name), .int .i64 n.num, .slice o n.kids.length cap, .int .i64 n.pos] 27) = V := ⟨_, rfl⟩
  have HV : Hid (w.alloc (.cells #[.int .i64 n.kind, .string (bs n.name), .int .i64 n.num, .slice o n.kids.length cap, .int .i64 n.pos] 27) = V) := hV
  have hb0 : Below w.heap.size w V := by rw [← hV]; exact (Below.refl _ _).alloc (Nat.le_refl _) _
  have hk0 : Blk V w.heap.size #[.int .i64 n.kind, .string (bs n.name), .int .i64 n.num, .slice o n.kids.length cap, .int .i64 n.pos] 27 := by rw [← hV]; exact Blk.new w _ _
  have HL : Hid (Calls Tryz.prog 6 #[] V fun e w' => e = .returned (.bool true) ∧ Below V.heap.size V w') := lives9_c V (hG.below hb0)
  have H0 : Hid (Below w.heap.size w V ∧ Blk V w.heap.size #[.int .i64 n.kind, .string (bs n.name), .int .i64 n.num, .slice o n.kids.length cap, .int .i64 n.pos] 27) := ⟨hb0, hk0⟩
  have HN : Hid (∀ X, Below w.heap.size w X → NdIn X X.heap.size n o cap ∧ GOK X) := fun X hX => ⟨(hn.below hX).mono hX.size, hG.below hX⟩
  have HSm : Hid (∀ X, Below w.heap.size w X → Calls Tryz.prog 15 #[.agg #[.int .i64 n.kind, .string (bs n.name), .int .i64 n.num, .slice o n.kids.length cap, .int .i64 n.pos], .int .i64 400, .int .i64 300] X fun e W' => ∃ b : Bool, e = .returned (.bool b) ∧ Below X.heap.size X W') := fun X hX => smallNode_c 400 (by decide) 300 (by decide) n o cap X (HN.out X hX).1
  have HCo : Hid (∀ X, Below w.heap.size w X → Calls Tryz.prog 9 #[.agg #[.int .i64 n.kind, .string (bs n.name), .int .i64 n.num, .slice o n.kids.length cap, .int .i64 n.pos]] X fun e W' => CsPost X n e W') := fun X hX => cons_c n o cap X (HN.out X hX).1 (HN.out X hX).2
  clear hV hb0 hk0 hn hG
  go_enter Tryz.func5, Tryz.ntmps5
  go_wp2_with (go_at_call 6; fail)
  rw [HV.out]
  refine HL.out.mono ?_
  rintro e w1 ⟨rfl, hb1⟩
  have hk1 := H0.out.2.below hb1
  have H1 : Hid (Below w.heap.size w w1 ∧ Blk w1 w.heap.size #[.int .i64 n.kind, .string (bs n.name), .int .i64 n.num, .slice o n.kids.length cap, .int .i64 n.pos] 27) := ⟨H0.out.1.trans (hb1.mono H0.out.1.size), hk1⟩
  have c0 : w1.cell? ⟨w.heap.size, 0, none⟩ = some (.int .i64 n.kind) := hk1.cell 0 _ rfl
  have c1 : w1.cell? ⟨w.heap.size, 1, none⟩ = some (.string (bs n.name)) := hk1.cell 1 _ rfl
  have c2 : w1.cell? ⟨w.heap.size, 2, none⟩ = some (.int .i64 n.num) := hk1.cell 2 _ rfl
  have c3 : w1.cell? ⟨w.heap.size, 3, none⟩ = some (.slice o n.kids.length cap) := hk1.cell 3 _ rfl
  have c4 : w1.cell? ⟨w.heap.size, 4, none⟩ = some (.int .i64 n.pos) := hk1.cell 4 _ rfl
  have cl := hk1.lt
  clear hb1 hk1 HL HV H0
  go_wp2_with (go_at_call 15; fail)
  refine (HSm.out w1 H1.out.1).mono ?_
  rintro e w2 ⟨b, rfl, hb2⟩
  have hk2 := H1.out.2.below hb2
  have H2 : Hid (Below w.heap.size w w2) := H1.out.1.trans (hb2.mono H1.out.1.size)
  have d0 : w2.cell? ⟨w.heap.size, 0, none⟩ = some (.int .i64 n.kind) := hk2.cell 0 _ rfl
  have d1 : w2.cell? ⟨w.heap.size, 1, none⟩ = some (.string (bs n.name)) := hk2.cell 1 _ rfl
  have d2 : w2.cell? ⟨w.heap.size, 2, none⟩ = some (.int .i64 n.num) := hk2.cell 2 _ rfl
  have d3 : w2.cell? ⟨w.heap.size, 3, none⟩ = some (.slice o n.kids.length cap) := hk2.cell 3 _ rfl
  have d4 : w2.cell? ⟨w.heap.size, 4, none⟩ = some (.int .i64 n.pos) := hk2.cell 4 _ rfl
  have dl := hk2.lt
  clear hb2 hk2 HSm H1 c0 c1 c2 c3 c4 cl
  cases b with
  | false =>
    go_wp2
    go_ret
    exact ⟨rfl, H2.out⟩
  | true =>
    go_wp2_with (go_at_call 9; fail)
    refine (HCo.out w2 H2.out).mono ?_
    rintro e w3 ⟨hb3, h | ⟨v, l, hok, rfl, hr⟩⟩
    · obtain ⟨er, p, he, rfl⟩ := h
      have hez : (er == 0) = false := by simpa using csErr_ne he
      have H3 : Hid (∀ a, Below w.heap.size w (w3.alloc a)) := fun a => (H2.out.trans (hb3.mono H2.out.size)).alloc (Nat.le_trans H2.out.size hb3.size) a
      clear hb3 he HCo HN
      go_wp2
      go_ret
      exact ⟨rfl, H3.out _⟩
    · have hmb := (chk_small hok.1).2
      obtain ⟨hck, hkd, hsrt, l0, l2, hp0, hwd, hp2⟩ := hok
      have hgw := wd_gth (by have := (chk_small hck).1; omega) hmb hp0 hwd
      have hgt : ∃ T N, Gth T N l := by
        obtain ⟨T, N, hG⟩ := hgw.1
        exact ⟨T, N, hG.perm hp2 (fun _ h => h) (fun _ h => h)⟩
      have hbi : ∀ c ∈ biL, c ∈ l := fun c hc => hp2.mem_iff.2 (hgw.2 c hc)
      have hne : l ≠ [] := fun e => by have := hbi tup2 (by simp [biL]); rw [e] at this; cases this
      have hlen : l.length ≤ 2000000 := by
        have h1 := decM_len _ _ _ _ _ hwd
        have h2 : l0.length = 8 := hp0.length_eq
        have h3 := (chk_small hck).1
        have h4 := hp2.length_eq
        omega
      obtain ⟨g, cap2, rfl, hbg, hgl, hAt⟩ := hr.at hne
      have HT0 : Hid (TgS w g l (w3.alloc (.cells #[.int .i64 0, .int .i64 0] 31))) := (⟨hAt, hgl, H2.out.trans (hb3.mono H2.out.size)⟩ : TgS w g l w3).on ((Below.refl _ _).alloc (Nat.le_refl _) _)
      have HG : Hid ((∃ T N, Gth T N l) ∧ Srt l ∧ (∀ c ∈ biL, c ∈ l)) := ⟨hgt, hsrt, hbi⟩
      have HFI : Hid (∀ (W : World) (c : CT), TgS w g l W → c ∈ l → Calls Tryz.prog 13 #[.slice (some ⟨g, 0, none⟩) l.length cap2, .string c.1] W fun e w' => e = .returned (.tuple #[.agg #[.string c.1, .int .i64 c.2.1, .string c.2.2.1, .int .i64 c.2.2.2], .bool true]) ∧ Below W.heap.size W w') := fun W c h hc => by
        obtain ⟨T, N, hG⟩ := hgt
        have hf := find_c l (by omega) (gth_sz ⟨T, N, hG⟩) c.1 (gth_sz ⟨T, N, hG⟩ c hc) g cap2 W h.lt h.at'
        rw [find_known hG hc] at hf
        exact hf
      have hll : (l.length : Int) ≤ 2000000 := by omega
      have HTAG : Hid (∀ c ∈ l, 0 ≤ c.2.2.2 ∧ c.2.2.2 ≤ 4611686018427387904) := fun c hc => by
        obtain ⟨T, N, hG⟩ := hgt
        exact ⟨(hG.tg c hc).1, by have := hG.tb c hc; omega⟩
      have hm : Tryz.prog.follows Departure.mixedOrders = true := by kernel_rfl
      clear hmb hck hkd hsrt hp0 hwd hp2 hgw hgt hbi hne hbg hgl hAt hr hb3 HCo HN d0 d1 d2 d3 d4 dl H2
      go_wp2
      go_loopg [5] l.length (fun gh v5 wr => ∃ k : Nat, v5 = .int .i64 k ∧ k ≤ l.length ∧ l.length - k ≤ gh ∧ Hid (TgS w g l wr))
      case atStart => exact ⟨0, rfl, Nat.zero_le _, Nat.le_refl _, HT0⟩
      case round =>
        clear HT0
        obtain ⟨k, rfl, hkl, hgh, HI⟩ := hrel
        by_cases hlt : k < l.length
        · have hltz : (k : Int) < (l.length : Int) := by omega
          obtain ⟨c, hc⟩ : ∃ c, l[k] = c := ⟨_, rfl⟩
          have hAk := HI.out.at' k hlt
          rw [hc] at hAk
          obtain ⟨c0, c1, c2, c3⟩ := hAk
          have hgl := HI.out.lt
          have HM : Hid (c ∈ l) := by show c ∈ l; rw [← hc]; exact List.getElem_mem hlt
          have HA : Hid (0 ≤ c.2.1 ∧ c.2.1 ≤ 32) := by
            obtain ⟨T, N, hG⟩ := HG.out.1
            have := hG.ar c HM.out
            exact ⟨this.2.1, this.2.2.1⟩
          have HK0 : Hid (k = 0 → c.2.2.2 = 0) := fun e => by
            obtain ⟨T, N, hG⟩ := HG.out.1
            rw [← hc]
            exact srt_first hG HG.out.2.1 k hlt (.inl e)
          have HK1 : Hid (∀ kp (e : k = kp + 1) (hkp : kp < l.length), (tyC l[kp] = tyC c → c.2.2.2 = l[kp].2.2.2 + 1) ∧ (tyC l[kp] ≠ tyC c → c.2.2.2 = 0) ∧ ¬ (tyC c < tyC l[kp])) := fun kp e hkp => by
            subst e
            obtain ⟨T, N, hG⟩ := HG.out.1
            rw [← hc]
            exact ⟨srt_next hG HG.out.2.1 (kp + 1) hlt (by omega), fun h => srt_first hG HG.out.2.1 (kp + 1) hlt (.inr h), srt_types HG.out.2.1 (kp + 1) hlt (by omega)⟩
          have HCC : Hid (∃ hk : k < l.length, l[k] = c) := ⟨hlt, hc⟩
          have HFc : Hid (Calls Tryz.prog 13 #[.slice (some ⟨g, 0, none⟩) l.length cap2, .string c.1] wr fun e w' => e = .returned (.tuple #[.agg #[.string c.1, .int .i64 c.2.1, .string c.2.2.1, .int .i64 c.2.2.2], .bool true]) ∧ Below wr.heap.size wr w') := HFI.out wr c HI.out HM.out
          clear hc
          go_wp2_with (go_at_call 13; fail)
          refine HFc.out.mono ?_
          rintro e w5 ⟨rfl, hb5⟩
          obtain ⟨V5, hV5⟩ : ∃ V5, w5.alloc (.cells #[.string c.1, .int .i64 c.2.1, .string c.2.2.1, .int .i64 c.2.2.2] 38) = V5 := ⟨_, rfl⟩
          have hT5 : TgS w g l V5 := by rw [← hV5]; exact (HI.out.on hb5).on ((Below.refl _ _).alloc (Nat.le_refl _) _)
          have hK5 : Blk V5 w5.heap.size #[.string c.1, .int .i64 c.2.1, .string c.2.2.1, .int .i64 c.2.2.2] 38 := by rw [← hV5]; exact Blk.new w5 _ _
          have HV5 : Hid (w5.alloc (.cells #[.string c.1, .int .i64 c.2.1, .string c.2.2.1, .int .i64 c.2.2.2] 38) = V5) := hV5
          have HT5 : Hid (TgS w g l V5 ∧ Blk V5 w5.heap.size #[.string c.1, .int .i64 c.2.1, .string c.2.2.1, .int .i64 c.2.2.2] 38) := ⟨hT5, hK5⟩
          have hAk5 := hT5.at' k hlt
          rw [HCC.out.2] at hAk5
          obtain ⟨x0, x1, x2, x3⟩ := hAk5
          have y0 : V5.cell? ⟨w5.heap.size, 0, none⟩ = some (.string c.1) := hK5.cell 0 _ rfl
          have y1 : V5.cell? ⟨w5.heap.size, 1, none⟩ = some (.int .i64 c.2.1) := hK5.cell 1 _ rfl
          have y2 : V5.cell? ⟨w5.heap.size, 2, none⟩ = some (.string c.2.2.1) := hK5.cell 2 _ rfl
          have y3 : V5.cell? ⟨w5.heap.size, 3, none⟩ = some (.int .i64 c.2.2.2) := hK5.cell 3 _ rfl
          have yl := hK5.lt
          have xl := hT5.lt
          have q1 : decide (c.2.1 < 0) = false := decide_eq_false (by have := HA.out; omega)
          have q2 : decide (32 < c.2.1) = false := decide_eq_false (by have := HA.out; omega)
          have q3 : ¬ c.2.1 < 0 := by have := HA.out; omega
          have q4 : ¬ 32 < c.2.1 := by have := HA.out; omega
          clear hV5 hT5 hK5 hb5 c0 c1 c2 c3 HFc hgl
          go_wp2_with fail
          rw [HV5.out]
          go_big_quiet (fail)
          have HT6 : Hid (TgS w g l (V5.drewN nq) ∧ Blk (V5.drewN nq) w5.heap.size #[.string c.1, .int .i64 c.2.1, .string c.2.2.1, .int .i64 c.2.2.2] 38) := ⟨HT5.out.1.on (blw_drew _ nq), HT5.out.2⟩
          generalize V5.drewN nq = V6 at HT6 ⊢
          generalize hB5 : w5.heap.size = B5 at HT6 ⊢
          have z2 : V6.cell? ⟨B5, 2, none⟩ = some (.string c.2.2.1) := HT6.out.2.cell 2 _ rfl
          have z3 : V6.cell? ⟨B5, 3, none⟩ = some (.int .i64 c.2.2.2) := HT6.out.2.cell 3 _ rfl
          have zl := HT6.out.2.lt
          have xg := HT6.out.1.lt
          clear x0 x1 x2 x3 y0 y1 y2 y3 yl xl q1 q2 q3 q4 HV5 HT5 hB5
          rcases Nat.eq_zero_or_pos k with hk0 | hk0
          · have t0 : c.2.2.2 = 0 := HK0.out hk0
            have t1 : (c.2.2.2 != 0) = false := by rw [t0]; rfl
            have HT0 : Hid (c.2.2.2 = 0) := t0
            clear t0 HK0 HK1 HCC
            subst hk0
            go_wp2_with fail
            go_big_quiet (fail)
            have z3' : (V6.drewN nq).cell? ⟨B5, 3, none⟩ = some (.int .i64 c.2.2.2) := z3
            have zl' : B5 < (V6.drewN nq).heap.size := zl
            have HT7 : Hid (TgS w g l (V6.drewN nq)) := HT6.out.1.on (blw_drew _ nq)
            generalize V6.drewN nq = V7 at HT7 z3' zl' ⊢
            clear z2 z3 zl xg HT6
            go_wp2_with fail
            go_big_quiet (fail)
            have HT8 : Hid (TgS w g l (V7.drewN nq)) := HT7.out.on (blw_drew _ nq)
            go_wp2
            go_roundg (l.length - 1)
            case measure => omega
            case rel => exact ⟨1, by first | rfl | go_num, by omega, Nat.le_refl _, HT8⟩
          · obtain ⟨kp, hkp⟩ : ∃ kp, k = kp + 1 := ⟨k - 1, by omega⟩
            have hkpl : kp < l.length := by omega
            have hKK := HK1.out kp hkp hkpl
            have hAp := HT6.out.1.at' kp hkpl
            have HTB : Hid (0 ≤ l[kp].2.2.2 ∧ l[kp].2.2.2 ≤ 4611686018427387904) := HTAG.out _ (List.getElem_mem hkpl)
            generalize l[kp] = p at hKK hAp HTB
            obtain ⟨p0, p1, p2, p3⟩ := hAp
            have hkz : (0 : Int) < (k : Int) := by omega
            have hkz2 : decide ((0 : Int) < (k : Int)) = true := decide_eq_true hkz
            have HKP : Hid ((k : Int) = (kp : Int) + 1) := by show _ = _; omega
            have HKN : Hid (k = kp + 1) := hkp
            have hwp : IntKind.i64.wrap (kp : Int) = (kp : Int) := by rw [IntKind.wrap_i64]; omega
            have jz : (kp : Int) < (l.length : Int) := by omega
            have j1 : (0 : Int) < (kp : Int) + 1 := by omega
            have j2 : decide ((0 : Int) < (kp : Int) + 1) = true := decide_eq_true j1
            obtain ⟨e, hte⟩ : ∃ e, (p.2.2.1.toList == c.2.2.1.toList) = e := ⟨_, rfl⟩
            cases e with
            | true =>
              have hty : tyC p = tyC c := by have := eq_of_beq hte; rw [ByteArray.toList_eq, ByteArray.toList_eq] at this; exact this
              have HTG : Hid (c.2.2.2 = p.2.2.2 + 1) := hKK.1 hty
              have HTR : Hid (0 ≤ p.2.2.2 ∧ p.2.2.2 ≤ 4611686018427387904) := HTB.out
              clear hKK hty hkp
              go_wp2_with fail
              rw [HKP.out]
              go_big_quiet (fail)
              have z3' : (V6.drewN nq).cell? ⟨B5, 3, none⟩ = some (.int .i64 c.2.2.2) := z3
              have p3' : (V6.drewN nq).cell? ⟨g, kp * 4 + 3, none⟩ = some (.int .i64 p.2.2.2) := p3
              have zl' : B5 < (V6.drewN nq).heap.size := zl
              have gl' : g < (V6.drewN nq).heap.size := xg
              have HT7 : Hid (TgS w g l (V6.drewN nq)) := HT6.out.1.on (blw_drew _ nq)
              generalize V6.drewN nq = V7 at HT7 z3' p3' zl' gl' ⊢
              clear z2 z3 zl xg HT6 p0 p1 p2 p3 hte
              have hw2 : IntKind.i64.wrap (p.2.2.2 + 1) = p.2.2.2 + 1 := by rw [IntKind.wrap_i64]; have := HTR.out; omega
              have t1 : (c.2.2.2 != p.2.2.2 + 1) = false := by rw [HTG.out]; simp
              go_wp2_with fail
              go_big_quiet (fail)
              have HT8 : Hid (TgS w g l (V7.drewN nq)) := HT7.out.on (blw_drew _ nq)
              go_wp2
              go_roundg (l.length - (kp + 2))
              case measure => have := HKN.out; omega
              case rel => exact ⟨kp + 2, by first | rfl | go_num | (congr 1; omega), by have := HKN.out; omega, Nat.le_refl _, HT8⟩
            | false =>
              have hty : tyC p ≠ tyC c := fun e => by
                have : (p.2.2.1.toList == c.2.2.1.toList) = true := by rw [ByteArray.toList_eq, ByteArray.toList_eq]; exact beq_iff_eq.2 e
                rw [this] at hte; cases hte
              have t0 : c.2.2.2 = 0 := hKK.2.1 hty
              have t1 : (c.2.2.2 != 0) = false := by rw [t0]; rfl
              have hlt2 : Op.bytesLess c.2.2.1.toList p.2.2.1.toList = false := by rw [bytesLess_eq, ByteArray.toList_eq, ByteArray.toList_eq]; exact decide_eq_false hKK.2.2
              have hlt3 : Op.bytesLess p.2.2.1.toList c.2.2.1.toList = true := by
                rw [bytesLess_eq, ByteArray.toList_eq, ByteArray.toList_eq]
                refine decide_eq_true ?_
                by_cases h : tyC p < tyC c
                · exact h
                · exact absurd (List.le_antisymm (List.not_lt.1 hKK.2.2) (List.not_lt.1 h)) hty
              clear hKK hty hkp t0
              go_wp2_with fail
              rw [HKP.out]
              go_big_quiet (fail)
              have z2' : (V6.drewN nq).cell? ⟨B5, 2, none⟩ = some (.string c.2.2.1) := z2
              have z3' : (V6.drewN nq).cell? ⟨B5, 3, none⟩ = some (.int .i64 c.2.2.2) := z3
              have p2' : (V6.drewN nq).cell? ⟨g, kp * 4 + 2, none⟩ = some (.string p.2.2.1) := p2
              have zl' : B5 < (V6.drewN nq).heap.size := zl
              have gl' : g < (V6.drewN nq).heap.size := xg
              have HT7 : Hid (TgS w g l (V6.drewN nq)) := HT6.out.1.on (blw_drew _ nq)
              generalize V6.drewN nq = V7 at HT7 z2' z3' p2' zl' gl' ⊢
              clear z2 z3 zl xg HT6 p0 p1 p2 p3
              go_wp2_with fail
              go_big_quiet (fail)
              have HT8 : Hid (TgS w g l (V7.drewN nq)) := HT7.out.on (blw_drew _ nq)
              go_wp2
              go_roundg (l.length - (kp + 2))
              case measure => have := HKN.out; omega
              case rel => exact ⟨kp + 2, by first | rfl | go_num | (congr 1; omega), by have := HKN.out; omega, Nat.le_refl _, HT8⟩
        · have hltz : ¬ (k : Int) < (l.length : Int) := by omega
          go_wp2_with (go_at_call 7; fail)
          refine (builtin2_c wr).mono ?_
          rintro e w6 ⟨g6, cap6, l6, rfl, hp6, hs6, hr6, hb6⟩
          have hl6 : l6.length = 8 := hp6.length_eq
          have hne6 : l6 ≠ [] := fun e => by rw [e] at hl6; cases hl6
          obtain ⟨gx, capx, hvx, hbx, hgx, hAx⟩ := hr6.at hne6
          obtain ⟨rfl, rfl⟩ : g6 = gx ∧ cap6 = capx := by
            simp only [Value.slice.injEq, Option.some.injEq, Addr.mk.injEq] at hvx
            exact ⟨hvx.1.1, hvx.2.2⟩
          have HJ0 : Hid (TgS w g l w6 ∧ ConsAt w6 g6 l6 ∧ g6 < w6.heap.size) := ⟨HI.out.on hb6, hAx, hgx⟩
          have HMb : Hid ((∀ c ∈ l6, c ∈ l) ∧ l6.length = 8) := ⟨fun c hc => HG.out.2.2 c (hp6.mem_iff.1 hc), hl6⟩
          clear hp6 hs6 hr6 hb6 hne6 hbx hgx hAx hl6 hvx HI
          go_wp2
          go_loopg [9] 8 (fun gh v9 wr => ∃ k : Nat, v9 = .int .i64 k ∧ k ≤ 8 ∧ 8 - k ≤ gh ∧ Hid (TgS w g l wr ∧ ConsAt wr g6 l6 ∧ g6 < wr.heap.size))
          case atStart => exact ⟨0, rfl, Nat.zero_le _, Nat.le_refl _, HJ0⟩
          case round =>
            clear HJ0
            obtain ⟨j, rfl, hj8, hgj, HJ⟩ := hrel
            by_cases hlj : j < 8
            · have hljz : (j : Int) < 8 := by omega
              have hjl : j < l6.length := by rw [HMb.out.2]; exact hlj
              obtain ⟨c, hc⟩ : ∃ c, l6[j] = c := ⟨_, rfl⟩
              have hAj := HJ.out.2.1 j hjl
              rw [hc] at hAj
              obtain ⟨c0, c1, c2, c3⟩ := hAj
              have HM : Hid (c ∈ l) := by show c ∈ l; rw [← hc]; exact HMb.out.1 _ (List.getElem_mem hjl)
              have HCC : Hid (∃ hk : j < l6.length, l6[j] = c) := ⟨hjl, hc⟩
              have hg6l := HJ.out.2.2
              have HFc : Hid (Calls Tryz.prog 13 #[.slice (some ⟨g, 0, none⟩) l.length cap2, .string c.1] wr fun e w' => e = .returned (.tuple #[.agg #[.string c.1, .int .i64 c.2.1, .string c.2.2.1, .int .i64 c.2.2.2], .bool true]) ∧ Below wr.heap.size wr w') := HFI.out wr c HJ.out.1 HM.out
              clear hc hjl
              go_wp2_with (go_at_call 13; fail)
              refine HFc.out.mono ?_
              rintro e w7 ⟨rfl, hb7⟩
              obtain ⟨V7, hV7⟩ : ∃ V7, w7.alloc (.cells #[.string c.1, .int .i64 c.2.1, .string c.2.2.1, .int .i64 c.2.2.2] 38) = V7 := ⟨_, rfl⟩
              have hb77 : Below wr.heap.size wr V7 := by rw [← hV7]; exact hb7.alloc hb7.size _
              have hK7 : Blk V7 w7.heap.size #[.string c.1, .int .i64 c.2.1, .string c.2.2.1, .int .i64 c.2.2.2] 38 := by rw [← hV7]; exact Blk.new w7 _ _
              have HV7 : Hid (w7.alloc (.cells #[.string c.1, .int .i64 c.2.1, .string c.2.2.1, .int .i64 c.2.2.2] 38) = V7) := hV7
              have HJ7 : Hid (TgS w g l V7 ∧ ConsAt V7 g6 l6 ∧ g6 < V7.heap.size) := ⟨HJ.out.1.on hb77, HJ.out.2.1.below HJ.out.2.2 hb77, Nat.lt_of_lt_of_le HJ.out.2.2 hb77.size⟩
              obtain ⟨hjk, hjc⟩ := HCC.out
              have hAk := HJ7.out.2.1 j hjk
              rw [hjc] at hAk
              obtain ⟨x0, x1, x2, x3⟩ := hAk
              have y0 : V7.cell? ⟨w7.heap.size, 0, none⟩ = some (.string c.1) := hK7.cell 0 _ rfl
              have y1 : V7.cell? ⟨w7.heap.size, 1, none⟩ = some (.int .i64 c.2.1) := hK7.cell 1 _ rfl
              have y2 : V7.cell? ⟨w7.heap.size, 2, none⟩ = some (.string c.2.2.1) := hK7.cell 2 _ rfl
              have y3 : V7.cell? ⟨w7.heap.size, 3, none⟩ = some (.int .i64 c.2.2.2) := hK7.cell 3 _ rfl
              have yl := hK7.lt
              have xl := HJ7.out.2.2
              clear hV7 hb77 hb7 hK7 hjk hjc c0 c1 c2 c3 HFc hg6l
              go_wp2_with fail
              rw [HV7.out]
              go_big_quiet (fail)
              have HJ8 : Hid (TgS w g l (V7.drewN nq) ∧ ConsAt (V7.drewN nq) g6 l6 ∧ g6 < (V7.drewN nq).heap.size) := ⟨HJ7.out.1.on (blw_drew _ nq), HJ7.out.2.1, HJ7.out.2.2⟩
              go_wp2
              go_roundg (8 - (j + 1))
              case measure => omega
              case rel => exact ⟨j + 1, by go_num, by omega, Nat.le_refl _, HJ8⟩
            · have hljz : ¬ (j : Int) < 8 := by omega
              go_wp2
              go_ret
              exact ⟨rfl, HJ.out.1.bel⟩
end Go.Proofs.YtdbpggncpkocaaaGreatDoor
