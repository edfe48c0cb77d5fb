/-
  The document's lexeme, by contracts.
-/
import Derived.Deep.RegionWith
import Derived.Test.YtpidccdgkkcljaaGreatDoorRef9
namespace Go.Proofs.YtpidccdgkkcljaaGreatDoor
open Go.RowKit Go.Shelf Go.Maps
set_option linter.unusedVariables false

set_option maxRecDepth 100000 in
set_option maxHeartbeats 8000000 in
theorem rLex0_c (s : ByteArray) (a : Nat) (hs : s.size ≤ 70000) (ha : a < s.size) (hc : M.cls s[a] = 0) (w : World) :
    Calls Tryz.prog 39 #[.string s, .int .i64 (a : Int)] w fun e w' => e = .returned (lexV (M.lexR (s.data.toList.drop a))) ∧ Below w.heap.size w w' := by
  have hdep : Tryz.prog.follows Departure.mixedOrders = true := by kernel_rfl
  have hlti : (a : Int) < s.size := by omega
  have hai : (a : Int) ≤ 69999 := by omega
  have hsi : (s.size : Int) ≤ 70000 := by omega
  have HX : Hid (∀ v1 v2 : Array Value, Below w.heap.size w ((w.alloc (.cells v1 30)).alloc (.cells v2 30))) := fun v1 v2 => ((Below.refl _ w).alloc (Nat.le_refl _) _).alloc (by simp) _
  have HX1 : Hid (∀ v1 : Array Value, Below w.heap.size w (w.alloc (.cells v1 30))) := fun v1 => (Below.refl _ w).alloc (Nat.le_refl _) _
  have hcf := M.cls_facts s[a]
  have hpf := M.pcls_facts s[a]
  have hcv : s[a].toNat < 256 := s[a].toNat_lt
  have H0 : Hid (M.begName s[a] = true) := by show _ = _; rw [hcf.1, hc]; rfl
  have HL := M.lexR_name s[a] (s.data.toList.drop (a + 1)) hc
  rw [← drop_one s a ha] at HL
  have hcl := M.cnt_le M.inName (s.data.toList.drop a)
  rw [List.length_drop, ← Lib.size_eq] at hcl
  have HR : Hid (∀ w : World, Calls Tryz.prog 69 #[.string s, .int .i64 (a : Int)] w fun e w' => e = .returned (.int .i64 (M.cnt M.inName (s.data.toList.drop a) : Nat)) ∧ w' = w) := fun w => rRun_c s a hs (by omega) w
  obtain ⟨n, hn⟩ : ∃ n, M.cnt M.inName (s.data.toList.drop a) = n := ⟨_, rfl⟩
  rw [hn] at HL HR hcl
  have hni : (a : Int) + n ≤ s.size := by omega
  have hni2 : (n : Int) ≤ 70000 := by omega
  obtain ⟨X, hX⟩ : ∃ X : ByteArray, X = s.extract a (a + n) := ⟨_, rfl⟩
  have hsl : ∀ w : World, (Instr.slice 9 (.string s) (some (.int .i64 (a : Int))) (some (.int .i64 ((a : Int) + (n : Int)))) none).run Tryz.prog w = .ok (.string X) w := fun w => by
    rw [run_slice_string w 9 s .i64 .i64 (a : Int) ((a : Int) + (n : Int)) Tryz.underlying9 (by omega) (by omega) (by omega), hX]
    rfl
  have hXl : X.data.toList = (s.data.toList.drop a).take n := by rw [hX, Lib.extract_eq]; show List.take (a + n - a) _ = _; rw [Nat.add_sub_cancel_left]
  have hXs : X.size = n := by rw [Lib.size_eq, hXl, List.length_take, List.length_drop, ← Lib.size_eq]; omega
  rw [← hXl] at HL
  clear hcf hpf hcv hc hn hs hX hXl
  cases hw : has1 M.wordL X.data.toList with
  | true =>
    have HL' : Hid (M.lexR (s.data.toList.drop a) = (⟨9, X.data.toList, 0⟩, n)) := by
      show _ = _
      rw [HL]
      unfold has1 at hw
      rw [if_pos hw]
    have HW : Hid (has1 M.wordL X.data.toList = true) := hw
    clear HL hw
    go_enter Tryz.func39, Tryz.ntmps39
    go_wp2_with (first
      | (go_at_call 68; refine (rSmall_c s[a] _).mono ?_; rintro e w1 ⟨rfl, rfl⟩; rw [H0.out])
      | (go_at_call 69; refine (HR.out _).mono ?_; rintro e w2 ⟨rfl, rfl⟩)
      | (go_at_call 22; fail))
    refine (rWord_c X _).mono ?_
    rintro e w3 ⟨rfl, hb3⟩
    rw [HW.out]
    obtain ⟨ac0, ac1, ac2, ac3, ac4, ac5, ac6, af0, af1, af2, af3, af4, af5, af6⟩ := (((Blk.new w _ _).alloc _).below hb3).all7
    have q2 := ((Blk.new (w.alloc _) _ _).below hb3).all7
    simp only [World.size_alloc] at q2
    obtain ⟨bc0, bc1, bc2, bc3, bc4, bc5, bc6, bf0, bf1, bf2, bf3, bf4, bf5, bf6⟩ := q2
    have HB3 : Hid (Below w.heap.size w w3) := (HX.out _ _).trans (hb3.mono (HX.out _ _).size)
    clear hb3
    go_wp2
    go_region
    all_goals go_wp2
    all_goals exact bodyPost_ret (v := lexV (⟨9, X.data.toList, 0⟩, n)) (by simp [results, Tryz.results39, go_sem, lexV, tokV, bs, ac0, ac1, ac2, ac3, ac4, ac5, ac6]) rfl ⟨by rw [HL'.out], by apply Below.drew; repeat (first | (refine Below.setCell ?_ (by simp) _) | exact HB3.out)⟩
  | false =>
    have HL' : Hid (M.lexR (s.data.toList.drop a) = (⟨1, X.data.toList, 0⟩, n)) := by
      show _ = _
      rw [HL]
      unfold has1 at hw
      rw [if_neg (by rw [hw]; simp)]
    have HW : Hid (has1 M.wordL X.data.toList = false) := hw
    clear HL hw
    go_enter Tryz.func39, Tryz.ntmps39
    go_wp2_with (first
      | (go_at_call 68; refine (rSmall_c s[a] _).mono ?_; rintro e w1 ⟨rfl, rfl⟩; rw [H0.out])
      | (go_at_call 69; refine (HR.out _).mono ?_; rintro e w2 ⟨rfl, rfl⟩)
      | (go_at_call 22; fail))
    refine (rWord_c X _).mono ?_
    rintro e w3 ⟨rfl, hb3⟩
    rw [HW.out]
    obtain ⟨ac0, ac1, ac2, ac3, ac4, ac5, ac6, af0, af1, af2, af3, af4, af5, af6⟩ := (((Blk.new w _ _).alloc _).below hb3).all7
    have q2 := ((Blk.new (w.alloc _) _ _).below hb3).all7
    simp only [World.size_alloc] at q2
    obtain ⟨bc0, bc1, bc2, bc3, bc4, bc5, bc6, bf0, bf1, bf2, bf3, bf4, bf5, bf6⟩ := q2
    have HB3 : Hid (Below w.heap.size w w3) := (HX.out _ _).trans (hb3.mono (HX.out _ _).size)
    clear hb3
    go_wp2
    go_region
    all_goals go_wp2
    all_goals exact bodyPost_ret (v := lexV (⟨1, X.data.toList, 0⟩, n)) (by simp [results, Tryz.results39, go_sem, lexV, tokV, bs, ac0, ac1, ac2, ac3, ac4, ac5, ac6]) rfl ⟨by rw [HL'.out], by apply Below.drew; repeat (first | (refine Below.setCell ?_ (by simp) _) | exact HB3.out)⟩

set_option maxRecDepth 100000 in
set_option maxHeartbeats 8000000 in
theorem rLex2_c (s : ByteArray) (a : Nat) (hs : s.size ≤ 70000) (ha : a < s.size) (hc : M.cls s[a] = 2) (w : World) :
    Calls Tryz.prog 39 #[.string s, .int .i64 (a : Int)] w fun e w' => e = .returned (lexV (M.lexR (s.data.toList.drop a))) ∧ Below w.heap.size w w' := by
  have hdep : Tryz.prog.follows Departure.mixedOrders = true := by kernel_rfl
  have hlti : (a : Int) < s.size := by omega
  have hai : (a : Int) ≤ 69999 := by omega
  have hsi : (s.size : Int) ≤ 70000 := by omega
  have HX : Hid (∀ v1 v2 : Array Value, Below w.heap.size w ((w.alloc (.cells v1 30)).alloc (.cells v2 30))) := fun v1 v2 => ((Below.refl _ w).alloc (Nat.le_refl _) _).alloc (by simp) _
  have HX1 : Hid (∀ v1 : Array Value, Below w.heap.size w (w.alloc (.cells v1 30))) := fun v1 => (Below.refl _ w).alloc (Nat.le_refl _) _
  have hcf := M.cls_facts s[a]
  have hpf := M.pcls_facts s[a]
  have hcv : s[a].toNat < 256 := s[a].toNat_lt
  have H0 : Hid (M.begName s[a] = false) := by show _ = _; rw [hcf.1, hc]; rfl
  have H1 : Hid (M.capB s[a] = false) := by show _ = _; rw [hcf.2.1, hc]; rfl
  have H4 : Hid (M.digB s[a] = false) := by show _ = _; rw [hcf.2.2.2.2.1, hc]; rfl
  have h39 : decide (s[a].toNat = 39) = false := by rw [hcf.2.2.2.2.2.1, hc]; rfl
  have h34 : decide (s[a].toNat = 34) = false := by rw [hcf.2.2.2.2.2.2.1, hc]; rfl
  have e39 : ((s[a].toNat : Int) == 39) = false := beq_eq_false_iff_ne.2 (by have := of_decide_eq_false h39; omega)
  have e34 : ((s[a].toNat : Int) == 34) = false := beq_eq_false_iff_ne.2 (by have := of_decide_eq_false h34; omega)
  have HY : Hid (M.sym s[a] = true) := by show _ = _; rw [hpf.2.2.2.1, hc]; rfl
  clear h39 h34
  have HL := M.lexR_op s[a] (s.data.toList.drop (a + 1)) hc
  rw [← drop_one s a ha] at HL
  have e58 : ((s[a].toNat : Int) == 58) = false := beq_eq_false_iff_ne.2 (by have h := hcf.2.2.2.1; rw [hc] at h; simp [M.colonB] at h; omega)
  have hcl := M.cnt_le M.sym (s.data.toList.drop a)
  rw [List.length_drop, ← Lib.size_eq] at hcl
  have HR : Hid (∀ w : World, Calls Tryz.prog 67 #[.string s, .int .i64 (a : Int)] w fun e w' => e = .returned (.int .i64 (M.cnt M.sym (s.data.toList.drop a) : Nat)) ∧ w' = w) := fun w => rSymbols_c s a hs (by omega) w
  obtain ⟨n, hn⟩ : ∃ n, M.cnt M.sym (s.data.toList.drop a) = n := ⟨_, rfl⟩
  rw [hn] at HL HR hcl
  have hni : (a : Int) + n ≤ s.size := by omega
  have hni2 : (n : Int) ≤ 70000 := by omega
  obtain ⟨X, hX⟩ : ∃ X : ByteArray, X = s.extract a (a + n) := ⟨_, rfl⟩
  have hsl : ∀ w : World, (Instr.slice 9 (.string s) (some (.int .i64 (a : Int))) (some (.int .i64 ((a : Int) + (n : Int)))) none).run Tryz.prog w = .ok (.string X) w := fun w => by
    rw [run_slice_string w 9 s .i64 .i64 (a : Int) ((a : Int) + (n : Int)) Tryz.underlying9 (by omega) (by omega) (by omega), hX]
    rfl
  have hXl : X.data.toList = (s.data.toList.drop a).take n := by rw [hX, Lib.extract_eq]; show List.take (a + n - a) _ = _; rw [Nat.add_sub_cancel_left]
  have hXs : X.size = n := by rw [Lib.size_eq, hXl, List.length_take, List.length_drop, ← Lib.size_eq]; omega
  rw [← hXl] at HL
  clear hcf hpf hcv hc hn hs hX hXl
  cases hw : has1 M.signL X.data.toList with
  | true =>
    have HL' : Hid (M.lexR (s.data.toList.drop a) = (⟨10, X.data.toList, 0⟩, n)) := by
      show _ = _
      rw [HL]
      unfold has1 at hw
      rw [if_pos hw]
    have HW : Hid (has1 M.signL X.data.toList = true) := hw
    clear HL hw
    go_enter Tryz.func39, Tryz.ntmps39
    go_wp2_with (first
      | (go_at_call 68; refine (rSmall_c s[a] _).mono ?_; rintro e w1 ⟨rfl, rfl⟩; rw [H0.out])
      | (go_at_call 70; refine (rCapital_c s[a] _).mono ?_; rintro e w1 ⟨rfl, rfl⟩; rw [H1.out])
      | (go_at_call 71; refine (rDigit_c s[a] _).mono ?_; rintro e w1 ⟨rfl, rfl⟩; rw [H4.out])
      | (go_at_call 26; refine (rSymbol_c s[a] _).mono ?_; rintro e w1 ⟨rfl, rfl⟩; rw [HY.out])
      | (go_at_call 67; refine (HR.out _).mono ?_; rintro e w2 ⟨rfl, rfl⟩)
      | (go_at_call 24; fail))
    refine (rSign_c X _).mono ?_
    rintro e w3 ⟨rfl, hb3⟩
    rw [HW.out]
    obtain ⟨ac0, ac1, ac2, ac3, ac4, ac5, ac6, af0, af1, af2, af3, af4, af5, af6⟩ := (((Blk.new w _ _).alloc _).below hb3).all7
    have q2 := ((Blk.new (w.alloc _) _ _).below hb3).all7
    simp only [World.size_alloc] at q2
    obtain ⟨bc0, bc1, bc2, bc3, bc4, bc5, bc6, bf0, bf1, bf2, bf3, bf4, bf5, bf6⟩ := q2
    have HB3 : Hid (Below w.heap.size w w3) := (HX.out _ _).trans (hb3.mono (HX.out _ _).size)
    clear hb3
    go_wp2
    go_region
    all_goals go_wp2
    all_goals exact bodyPost_ret (v := lexV (⟨10, X.data.toList, 0⟩, n)) (by simp [results, Tryz.results39, go_sem, lexV, tokV, bs, ac0, ac1, ac2, ac3, ac4, ac5, ac6]) rfl ⟨by rw [HL'.out], by apply Below.drew; repeat (first | (refine Below.setCell ?_ (by simp) _) | exact HB3.out)⟩
  | false =>
    have HL' : Hid (M.lexR (s.data.toList.drop a) = (⟨3, X.data.toList, 0⟩, n)) := by
      show _ = _
      rw [HL]
      unfold has1 at hw
      rw [if_neg (by rw [hw]; simp)]
    have HW : Hid (has1 M.signL X.data.toList = false) := hw
    clear HL hw
    go_enter Tryz.func39, Tryz.ntmps39
    go_wp2_with (first
      | (go_at_call 68; refine (rSmall_c s[a] _).mono ?_; rintro e w1 ⟨rfl, rfl⟩; rw [H0.out])
      | (go_at_call 70; refine (rCapital_c s[a] _).mono ?_; rintro e w1 ⟨rfl, rfl⟩; rw [H1.out])
      | (go_at_call 71; refine (rDigit_c s[a] _).mono ?_; rintro e w1 ⟨rfl, rfl⟩; rw [H4.out])
      | (go_at_call 26; refine (rSymbol_c s[a] _).mono ?_; rintro e w1 ⟨rfl, rfl⟩; rw [HY.out])
      | (go_at_call 67; refine (HR.out _).mono ?_; rintro e w2 ⟨rfl, rfl⟩)
      | (go_at_call 24; fail))
    refine (rSign_c X _).mono ?_
    rintro e w3 ⟨rfl, hb3⟩
    rw [HW.out]
    obtain ⟨ac0, ac1, ac2, ac3, ac4, ac5, ac6, af0, af1, af2, af3, af4, af5, af6⟩ := (((Blk.new w _ _).alloc _).below hb3).all7
    have q2 := ((Blk.new (w.alloc _) _ _).below hb3).all7
    simp only [World.size_alloc] at q2
    obtain ⟨bc0, bc1, bc2, bc3, bc4, bc5, bc6, bf0, bf1, bf2, bf3, bf4, bf5, bf6⟩ := q2
    have HB3 : Hid (Below w.heap.size w w3) := (HX.out _ _).trans (hb3.mono (HX.out _ _).size)
    clear hb3
    go_wp2
    go_region
    all_goals go_wp2
    all_goals exact bodyPost_ret (v := lexV (⟨3, X.data.toList, 0⟩, n)) (by simp [results, Tryz.results39, go_sem, lexV, tokV, bs, ac0, ac1, ac2, ac3, ac4, ac5, ac6]) rfl ⟨by rw [HL'.out], by apply Below.drew; repeat (first | (refine Below.setCell ?_ (by simp) _) | exact HB3.out)⟩

set_option maxRecDepth 100000 in
set_option maxHeartbeats 8000000 in
theorem rLex3_c (s : ByteArray) (a : Nat) (hs : s.size ≤ 70000) (ha : a < s.size) (hc : M.cls s[a] = 3) (w : World) :
    Calls Tryz.prog 39 #[.string s, .int .i64 (a : Int)] w fun e w' => e = .returned (lexV (M.lexR (s.data.toList.drop a))) ∧ Below w.heap.size w w' := by
  have hdep : Tryz.prog.follows Departure.mixedOrders = true := by kernel_rfl
  have hlti : (a : Int) < s.size := by omega
  have hai : (a : Int) ≤ 69999 := by omega
  have hsi : (s.size : Int) ≤ 70000 := by omega
  have HX : Hid (∀ v1 v2 : Array Value, Below w.heap.size w ((w.alloc (.cells v1 30)).alloc (.cells v2 30))) := fun v1 v2 => ((Below.refl _ w).alloc (Nat.le_refl _) _).alloc (by simp) _
  have HX1 : Hid (∀ v1 : Array Value, Below w.heap.size w (w.alloc (.cells v1 30))) := fun v1 => (Below.refl _ w).alloc (Nat.le_refl _) _
  have hcf := M.cls_facts s[a]
  have hpf := M.pcls_facts s[a]
  have hcv : s[a].toNat < 256 := s[a].toNat_lt
  have H0 : Hid (M.begName s[a] = false) := by show _ = _; rw [hcf.1, hc]; rfl
  have H1 : Hid (M.capB s[a] = false) := by show _ = _; rw [hcf.2.1, hc]; rfl
  have H4 : Hid (M.digB s[a] = false) := by show _ = _; rw [hcf.2.2.2.2.1, hc]; rfl
  have h39 : decide (s[a].toNat = 39) = false := by rw [hcf.2.2.2.2.2.1, hc]; rfl
  have h34 : decide (s[a].toNat = 34) = false := by rw [hcf.2.2.2.2.2.2.1, hc]; rfl
  have e39 : ((s[a].toNat : Int) == 39) = false := beq_eq_false_iff_ne.2 (by have := of_decide_eq_false h39; omega)
  have e34 : ((s[a].toNat : Int) == 34) = false := beq_eq_false_iff_ne.2 (by have := of_decide_eq_false h34; omega)
  have HY : Hid (M.sym s[a] = true) := by show _ = _; rw [hpf.2.2.2.1, hc]; rfl
  clear h39 h34
  have HL2 := M.lexR_conop s[a] (s.data.toList.drop (a + 1)) hc
  rw [← drop_one s a ha] at HL2
  have HL := HL2.2
  have hNS := HL2.1
  have e58 : ((s[a].toNat : Int) == 58) = true := beq_iff_eq.2 (by have h := hcf.2.2.2.1; rw [hc] at h; simp [M.colonB] at h; omega)
  have hcl := M.cnt_le M.sym (s.data.toList.drop a)
  rw [List.length_drop, ← Lib.size_eq] at hcl
  have HR : Hid (∀ w : World, Calls Tryz.prog 67 #[.string s, .int .i64 (a : Int)] w fun e w' => e = .returned (.int .i64 (M.cnt M.sym (s.data.toList.drop a) : Nat)) ∧ w' = w) := fun w => rSymbols_c s a hs (by omega) w
  obtain ⟨n, hn⟩ : ∃ n, M.cnt M.sym (s.data.toList.drop a) = n := ⟨_, rfl⟩
  rw [hn] at HL HR hcl hNS
  have hni : (a : Int) + n ≤ s.size := by omega
  have hni2 : (n : Int) ≤ 70000 := by omega
  obtain ⟨X, hX⟩ : ∃ X : ByteArray, X = s.extract a (a + n) := ⟨_, rfl⟩
  have hsl : ∀ w : World, (Instr.slice 9 (.string s) (some (.int .i64 (a : Int))) (some (.int .i64 ((a : Int) + (n : Int)))) none).run Tryz.prog w = .ok (.string X) w := fun w => by
    rw [run_slice_string w 9 s .i64 .i64 (a : Int) ((a : Int) + (n : Int)) Tryz.underlying9 (by omega) (by omega) (by omega), hX]
    rfl
  have hXl : X.data.toList = (s.data.toList.drop a).take n := by rw [hX, Lib.extract_eq]; show List.take (a + n - a) _ = _; rw [Nat.add_sub_cancel_left]
  have hXs : X.size = n := by rw [Lib.size_eq, hXl, List.length_take, List.length_drop, ← Lib.size_eq]; omega
  rw [← hXl] at HL hNS
  clear hcf hpf hcv hc hn hs hX hXl HL2
  cases hw : has1 M.signL X.data.toList with
  | true =>
    exfalso; unfold has1 at hw; rw [hNS] at hw; simp at hw
  | false =>
    have HL' : Hid (M.lexR (s.data.toList.drop a) = (⟨4, X.data.toList, 0⟩, n)) := by
      show _ = _
      rw [HL]
    have HW : Hid (has1 M.signL X.data.toList = false) := hw
    clear HL hw
    go_enter Tryz.func39, Tryz.ntmps39
    go_wp2_with (first
      | (go_at_call 68; refine (rSmall_c s[a] _).mono ?_; rintro e w1 ⟨rfl, rfl⟩; rw [H0.out])
      | (go_at_call 70; refine (rCapital_c s[a] _).mono ?_; rintro e w1 ⟨rfl, rfl⟩; rw [H1.out])
      | (go_at_call 71; refine (rDigit_c s[a] _).mono ?_; rintro e w1 ⟨rfl, rfl⟩; rw [H4.out])
      | (go_at_call 26; refine (rSymbol_c s[a] _).mono ?_; rintro e w1 ⟨rfl, rfl⟩; rw [HY.out])
      | (go_at_call 67; refine (HR.out _).mono ?_; rintro e w2 ⟨rfl, rfl⟩)
      | (go_at_call 24; fail))
    refine (rSign_c X _).mono ?_
    rintro e w3 ⟨rfl, hb3⟩
    rw [HW.out]
    obtain ⟨ac0, ac1, ac2, ac3, ac4, ac5, ac6, af0, af1, af2, af3, af4, af5, af6⟩ := (((Blk.new w _ _).alloc _).below hb3).all7
    have q2 := ((Blk.new (w.alloc _) _ _).below hb3).all7
    simp only [World.size_alloc] at q2
    obtain ⟨bc0, bc1, bc2, bc3, bc4, bc5, bc6, bf0, bf1, bf2, bf3, bf4, bf5, bf6⟩ := q2
    have HB3 : Hid (Below w.heap.size w w3) := (HX.out _ _).trans (hb3.mono (HX.out _ _).size)
    clear hb3
    go_wp2
    go_region
    all_goals go_wp2
    all_goals exact bodyPost_ret (v := lexV (⟨4, X.data.toList, 0⟩, n)) (by simp [results, Tryz.results39, go_sem, lexV, tokV, bs, ac0, ac1, ac2, ac3, ac4, ac5, ac6]) rfl ⟨by rw [HL'.out], by apply Below.drew; repeat (first | (refine Below.setCell ?_ (by simp) _) | exact HB3.out)⟩

set_option maxRecDepth 100000 in
set_option maxHeartbeats 8000000 in
theorem rLex1_c (s : ByteArray) (a : Nat) (hs : s.size ≤ 70000) (ha : a < s.size) (hc : M.cls s[a] = 1) (w : World) :
    Calls Tryz.prog 39 #[.string s, .int .i64 (a : Int)] w fun e w' => e = .returned (lexV (M.lexR (s.data.toList.drop a))) ∧ Below w.heap.size w w' := by
  have hdep : Tryz.prog.follows Departure.mixedOrders = true := by kernel_rfl
  have hlti : (a : Int) < s.size := by omega
  have hai : (a : Int) ≤ 69999 := by omega
  have hsi : (s.size : Int) ≤ 70000 := by omega
  have HX : Hid (∀ v1 v2 : Array Value, Below w.heap.size w ((w.alloc (.cells v1 30)).alloc (.cells v2 30))) := fun v1 v2 => ((Below.refl _ w).alloc (Nat.le_refl _) _).alloc (by simp) _
  have HX1 : Hid (∀ v1 : Array Value, Below w.heap.size w (w.alloc (.cells v1 30))) := fun v1 => (Below.refl _ w).alloc (Nat.le_refl _) _
  have hcf := M.cls_facts s[a]
  have hpf := M.pcls_facts s[a]
  have hcv : s[a].toNat < 256 := s[a].toNat_lt
  have H0 : Hid (M.begName s[a] = false) := by show _ = _; rw [hcf.1, hc]; rfl
  have H1 : Hid (M.capB s[a] = true) := by show _ = _; rw [hcf.2.1, hc]; rfl
  have HL := M.lexR_con s[a] (s.data.toList.drop (a + 1)) hc
  rw [← drop_one s a ha] at HL
  have hcl := M.cnt_le M.inName (s.data.toList.drop a)
  rw [List.length_drop, ← Lib.size_eq] at hcl
  have HR : Hid (∀ w : World, Calls Tryz.prog 69 #[.string s, .int .i64 (a : Int)] w fun e w' => e = .returned (.int .i64 (M.cnt M.inName (s.data.toList.drop a) : Nat)) ∧ w' = w) := fun w => rRun_c s a hs (by omega) w
  obtain ⟨n, hn⟩ : ∃ n, M.cnt M.inName (s.data.toList.drop a) = n := ⟨_, rfl⟩
  rw [hn] at HL HR hcl
  have hni : (a : Int) + n ≤ s.size := by omega
  have hni2 : (n : Int) ≤ 70000 := by omega
  obtain ⟨X, hX⟩ : ∃ X : ByteArray, X = s.extract a (a + n) := ⟨_, rfl⟩
  have hsl : ∀ w : World, (Instr.slice 9 (.string s) (some (.int .i64 (a : Int))) (some (.int .i64 ((a : Int) + (n : Int)))) none).run Tryz.prog w = .ok (.string X) w := fun w => by
    rw [run_slice_string w 9 s .i64 .i64 (a : Int) ((a : Int) + (n : Int)) Tryz.underlying9 (by omega) (by omega) (by omega), hX]
    rfl
  have hXl : X.data.toList = (s.data.toList.drop a).take n := by rw [hX, Lib.extract_eq]; show List.take (a + n - a) _ = _; rw [Nat.add_sub_cancel_left]
  have hXs : X.size = n := by rw [Lib.size_eq, hXl, List.length_take, List.length_drop, ← Lib.size_eq]; omega
  rw [← hXl] at HL
  have HL' : Hid (M.lexR (s.data.toList.drop a) = (⟨2, X.data.toList, 0⟩, n)) := HL
  have hwr : IntKind.i64.wrap ((a : Int) + n) = (a : Int) + n := by rw [IntKind.wrap_i64]; omega
  clear hcf hpf hcv hc hn hs hX hXl HL
  go_enter Tryz.func39, Tryz.ntmps39
  go_wp2_with (first
    | (go_at_call 68; refine (rSmall_c s[a] _).mono ?_; rintro e w1 ⟨rfl, rfl⟩; rw [H0.out])
    | (go_at_call 70; refine (rCapital_c s[a] _).mono ?_; rintro e w1 ⟨rfl, rfl⟩; rw [H1.out]))
  go_region_with (go_at_call 69; refine (HR.out _).mono ?_; rintro e w2 ⟨rfl, rfl⟩)
  all_goals go_wp2
  all_goals exact bodyPost_ret (v := lexV (⟨2, X.data.toList, 0⟩, n)) (by simp [results, Tryz.results39, go_sem, lexV, tokV, bs]) rfl ⟨by rw [HL'.out], (HX1.out _).drew⟩

set_option maxRecDepth 100000 in
set_option maxHeartbeats 8000000 in
theorem rLex5_c (s : ByteArray) (a : Nat) (hs : s.size ≤ 70000) (ha : a < s.size) (hc : M.cls s[a] = 5) (w : World) :
    Calls Tryz.prog 39 #[.string s, .int .i64 (a : Int)] w fun e w' => e = .returned (lexV (M.lexR (s.data.toList.drop a))) ∧ Below w.heap.size w w' := by
  have hdep : Tryz.prog.follows Departure.mixedOrders = true := by kernel_rfl
  have hlti : (a : Int) < s.size := by omega
  have hai : (a : Int) ≤ 69999 := by omega
  have hsi : (s.size : Int) ≤ 70000 := by omega
  have HX : Hid (∀ v1 v2 : Array Value, Below w.heap.size w ((w.alloc (.cells v1 30)).alloc (.cells v2 30))) := fun v1 v2 => ((Below.refl _ w).alloc (Nat.le_refl _) _).alloc (by simp) _
  have HX1 : Hid (∀ v1 : Array Value, Below w.heap.size w (w.alloc (.cells v1 30))) := fun v1 => (Below.refl _ w).alloc (Nat.le_refl _) _
  have hcf := M.cls_facts s[a]
  have hpf := M.pcls_facts s[a]
  have hcv : s[a].toNat < 256 := s[a].toNat_lt
  have H0 : Hid (M.begName s[a] = false) := by show _ = _; rw [hcf.1, hc]; rfl
  have H1 : Hid (M.capB s[a] = false) := by show _ = _; rw [hcf.2.1, hc]; rfl
  have H4 : Hid (M.digB s[a] = false) := by show _ = _; rw [hcf.2.2.2.2.1, hc]; rfl
  have h39 : decide (s[a].toNat = 39) = true := by rw [hcf.2.2.2.2.2.1, hc]; rfl
  have h34 : decide (s[a].toNat = 34) = false := by rw [hcf.2.2.2.2.2.2.1, hc]; rfl
  have e39 : ((s[a].toNat : Int) == 39) = true := beq_iff_eq.2 (by have := of_decide_eq_true h39; omega)
  have e34 : ((s[a].toNat : Int) == 34) = false := beq_eq_false_iff_ne.2 (by have := of_decide_eq_false h34; omega)
  have HQ : Hid (∀ w : World, Calls Tryz.prog 74 #[.string s, .int .i64 (a : Int)] w fun e w' => e = .returned (lexV (M.lexR (s.data.toList.drop a))) ∧ Below w.heap.size w w') := fun w => rQuoted39_c s a hs ha (of_decide_eq_true h39) w
  obtain ⟨⟨⟨tk, tt, tn⟩, n⟩, hr⟩ : ∃ r, M.lexR (s.data.toList.drop a) = r := ⟨_, rfl⟩
  rw [hr] at HQ ⊢
  have HQ' : Hid (∀ w : World, Calls Tryz.prog 74 #[.string s, .int .i64 (a : Int)] w fun e w' => e = .returned (.tuple #[.agg #[.int .i64 (tk : Int), .string (bs tt), .int .i64 (tn : Int), .int .i64 0, .int .i64 0, .int .i64 0, .bool false], .int .i64 (n : Int)]) ∧ Below w.heap.size w w') := HQ.out
  clear hcf hpf hcv hc hs hr HQ h39 h34
  go_enter Tryz.func39, Tryz.ntmps39
  go_wp2_with (first
    | (go_at_call 68; refine (rSmall_c s[a] _).mono ?_; rintro e w1 ⟨rfl, rfl⟩; rw [H0.out])
    | (go_at_call 70; refine (rCapital_c s[a] _).mono ?_; rintro e w1 ⟨rfl, rfl⟩; rw [H1.out])
    | (go_at_call 71; refine (rDigit_c s[a] _).mono ?_; rintro e w1 ⟨rfl, rfl⟩; rw [H4.out])
    | (go_at_call 74; fail))
  refine (HQ'.out _).mono ?_
  rintro e w3 ⟨rfl, hb3⟩
  obtain ⟨ac0, ac1, ac2, ac3, ac4, ac5, ac6, af0, af1, af2, af3, af4, af5, af6⟩ := ((Blk.new w _ _).below hb3).all7
  have HB3 : Hid (Below w.heap.size w w3) := (HX1.out _).trans (hb3.mono (HX1.out _).size)
  clear hb3
  go_wp2
  exact bodyPost_ret (v := lexV (⟨tk, tt, tn⟩, n)) (by simp [results, Tryz.results39, go_sem, lexV, tokV, bs, ac0, ac1, ac2, ac3, ac4, ac5, ac6]) rfl ⟨rfl, by repeat (first | (refine Below.setCell ?_ (by simp) _) | exact HB3.out)⟩

set_option maxRecDepth 100000 in
set_option maxHeartbeats 8000000 in
theorem rLex6_c (s : ByteArray) (a : Nat) (hs : s.size ≤ 70000) (ha : a < s.size) (hc : M.cls s[a] = 6) (w : World) :
    Calls Tryz.prog 39 #[.string s, .int .i64 (a : Int)] w fun e w' => e = .returned (lexV (M.lexR (s.data.toList.drop a))) ∧ Below w.heap.size w w' := by
  have hdep : Tryz.prog.follows Departure.mixedOrders = true := by kernel_rfl
  have hlti : (a : Int) < s.size := by omega
  have hai : (a : Int) ≤ 69999 := by omega
  have hsi : (s.size : Int) ≤ 70000 := by omega
  have HX : Hid (∀ v1 v2 : Array Value, Below w.heap.size w ((w.alloc (.cells v1 30)).alloc (.cells v2 30))) := fun v1 v2 => ((Below.refl _ w).alloc (Nat.le_refl _) _).alloc (by simp) _
  have HX1 : Hid (∀ v1 : Array Value, Below w.heap.size w (w.alloc (.cells v1 30))) := fun v1 => (Below.refl _ w).alloc (Nat.le_refl _) _
  have hcf := M.cls_facts s[a]
  have hpf := M.pcls_facts s[a]
  have hcv : s[a].toNat < 256 := s[a].toNat_lt
  have H0 : Hid (M.begName s[a] = false) := by show _ = _; rw [hcf.1, hc]; rfl
  have H1 : Hid (M.capB s[a] = false) := by show _ = _; rw [hcf.2.1, hc]; rfl
  have H4 : Hid (M.digB s[a] = false) := by show _ = _; rw [hcf.2.2.2.2.1, hc]; rfl
  have h39 : decide (s[a].toNat = 39) = false := by rw [hcf.2.2.2.2.2.1, hc]; rfl
  have h34 : decide (s[a].toNat = 34) = true := by rw [hcf.2.2.2.2.2.2.1, hc]; rfl
  have e39 : ((s[a].toNat : Int) == 39) = false := beq_eq_false_iff_ne.2 (by have := of_decide_eq_false h39; omega)
  have e34 : ((s[a].toNat : Int) == 34) = true := beq_iff_eq.2 (by have := of_decide_eq_true h34; omega)
  have HQ : Hid (∀ w : World, Calls Tryz.prog 74 #[.string s, .int .i64 (a : Int)] w fun e w' => e = .returned (lexV (M.lexR (s.data.toList.drop a))) ∧ Below w.heap.size w w') := fun w => rQuoted34_c s a hs ha (of_decide_eq_true h34) w
  obtain ⟨⟨⟨tk, tt, tn⟩, n⟩, hr⟩ : ∃ r, M.lexR (s.data.toList.drop a) = r := ⟨_, rfl⟩
  rw [hr] at HQ ⊢
  have HQ' : Hid (∀ w : World, Calls Tryz.prog 74 #[.string s, .int .i64 (a : Int)] w fun e w' => e = .returned (.tuple #[.agg #[.int .i64 (tk : Int), .string (bs tt), .int .i64 (tn : Int), .int .i64 0, .int .i64 0, .int .i64 0, .bool false], .int .i64 (n : Int)]) ∧ Below w.heap.size w w') := HQ.out
  clear hcf hpf hcv hc hs hr HQ h39 h34
  go_enter Tryz.func39, Tryz.ntmps39
  go_wp2_with (first
    | (go_at_call 68; refine (rSmall_c s[a] _).mono ?_; rintro e w1 ⟨rfl, rfl⟩; rw [H0.out])
    | (go_at_call 70; refine (rCapital_c s[a] _).mono ?_; rintro e w1 ⟨rfl, rfl⟩; rw [H1.out])
    | (go_at_call 71; refine (rDigit_c s[a] _).mono ?_; rintro e w1 ⟨rfl, rfl⟩; rw [H4.out])
    | (go_at_call 74; fail))
  refine (HQ'.out _).mono ?_
  rintro e w3 ⟨rfl, hb3⟩
  obtain ⟨ac0, ac1, ac2, ac3, ac4, ac5, ac6, af0, af1, af2, af3, af4, af5, af6⟩ := ((Blk.new w _ _).below hb3).all7
  have HB3 : Hid (Below w.heap.size w w3) := (HX1.out _).trans (hb3.mono (HX1.out _).size)
  clear hb3
  go_wp2
  exact bodyPost_ret (v := lexV (⟨tk, tt, tn⟩, n)) (by simp [results, Tryz.results39, go_sem, lexV, tokV, bs, ac0, ac1, ac2, ac3, ac4, ac5, ac6]) rfl ⟨rfl, by repeat (first | (refine Below.setCell ?_ (by simp) _) | exact HB3.out)⟩

set_option maxRecDepth 100000 in
set_option maxHeartbeats 8000000 in
theorem rLex7_c (s : ByteArray) (a : Nat) (hs : s.size ≤ 70000) (ha : a < s.size) (hc : M.cls s[a] = 7) (hp : [123, 45].isPrefixOf (s.data.toList.drop a) = false) (w : World) :
    Calls Tryz.prog 39 #[.string s, .int .i64 (a : Int)] w fun e w' => e = .returned (lexV (M.lexR (s.data.toList.drop a))) ∧ Below w.heap.size w w' := by
  have hdep : Tryz.prog.follows Departure.mixedOrders = true := by kernel_rfl
  have hlti : (a : Int) < s.size := by omega
  have hai : (a : Int) ≤ 69999 := by omega
  have hsi : (s.size : Int) ≤ 70000 := by omega
  have HX : Hid (∀ v1 v2 : Array Value, Below w.heap.size w ((w.alloc (.cells v1 30)).alloc (.cells v2 30))) := fun v1 v2 => ((Below.refl _ w).alloc (Nat.le_refl _) _).alloc (by simp) _
  have HX1 : Hid (∀ v1 : Array Value, Below w.heap.size w (w.alloc (.cells v1 30))) := fun v1 => (Below.refl _ w).alloc (Nat.le_refl _) _
  have hcf := M.cls_facts s[a]
  have hpf := M.pcls_facts s[a]
  have hcv : s[a].toNat < 256 := s[a].toNat_lt
  have H0 : Hid (M.begName s[a] = false) := by show _ = _; rw [hcf.1, hc]; rfl
  have H1 : Hid (M.capB s[a] = false) := by show _ = _; rw [hcf.2.1, hc]; rfl
  have H4 : Hid (M.digB s[a] = false) := by show _ = _; rw [hcf.2.2.2.2.1, hc]; rfl
  have h39 : decide (s[a].toNat = 39) = false := by rw [hcf.2.2.2.2.2.1, hc]; rfl
  have h34 : decide (s[a].toNat = 34) = false := by rw [hcf.2.2.2.2.2.2.1, hc]; rfl
  have e39 : ((s[a].toNat : Int) == 39) = false := beq_eq_false_iff_ne.2 (by have := of_decide_eq_false h39; omega)
  have e34 : ((s[a].toNat : Int) == 34) = false := beq_eq_false_iff_ne.2 (by have := of_decide_eq_false h34; omega)
  have HY : Hid (M.sym s[a] = false) := by show _ = _; rw [hpf.2.2.2.1, hc]; rfl
  clear h39 h34
  have HM : Hid (M.markL.contains s[a] = true) := by show _ = _; rw [hcf.2.2.2.2.2.2.2.1, hc]; rfl
  have HL' : Hid (M.lexR (s.data.toList.drop a) = (⟨8, [s[a]], 0⟩, 1)) := by
    show _ = _
    rw [drop_one s a ha] at hp ⊢
    exact M.lexR_mark _ _ hc hp
  have hsl : ∀ w : World, (Instr.slice 9 (.string s) (some (.int .i64 (a : Int))) (some (.int .i64 ((a : Int) + 1))) none).run Tryz.prog w = .ok (.string (bs [s[a]])) w := fun w => by
    rw [run_slice_string w 9 s .i64 .i64 (a : Int) ((a : Int) + 1) Tryz.underlying9 (by omega) (by omega) (by omega)]
    have e1 : (s.extract a (a + 1)).data.toList = [s[a]] := by
      rw [Lib.extract_eq]
      show List.take (a + 1 - a) (s.data.toList.drop a) = _
      rw [Nat.add_sub_cancel_left, drop_one s a ha]; rfl
    have e2 : s.extract a (a + 1) = bs [s[a]] := by rw [← e1]; rfl
    rw [show ((a : Int) + 1).toNat = a + 1 by omega, Int.toNat_natCast, e2]
  clear hcf hpf hcv hc hs hp
  go_enter Tryz.func39, Tryz.ntmps39
  go_wp2_with (first
    | (go_at_call 68; refine (rSmall_c s[a] _).mono ?_; rintro e w1 ⟨rfl, rfl⟩; rw [H0.out])
    | (go_at_call 70; refine (rCapital_c s[a] _).mono ?_; rintro e w1 ⟨rfl, rfl⟩; rw [H1.out])
    | (go_at_call 71; refine (rDigit_c s[a] _).mono ?_; rintro e w1 ⟨rfl, rfl⟩; rw [H4.out])
    | (go_at_call 26; refine (rSymbol_c s[a] _).mono ?_; rintro e w1 ⟨rfl, rfl⟩; rw [HY.out]))
  obtain ⟨ac0, ac1, ac2, ac3, ac4, ac5, ac6, af0, af1, af2, af3, af4, af5, af6⟩ := (Blk.new w #[.int .i64 0, .string ⟨#[]⟩, .int .i64 0, .int .i64 0, .int .i64 0, .int .i64 0, .bool false] 30).all7
  obtain ⟨W, hW⟩ : ∃ W, w.alloc (.cells #[.int .i64 0, .string ⟨#[]⟩, .int .i64 0, .int .i64 0, .int .i64 0, .int .i64 0, .bool false] 30) = W := ⟨_, rfl⟩
  have HB3 : Hid (Below w.heap.size w W) := by rw [← hW]; exact HX1.out _
  rw [hW] at ac0 ac1 ac2 ac3 ac4 ac5 ac6 af0 af1 af2 af3 af4 af5 af6 ⊢
  clear hW
  clear e39 e34
  go_loop [15] (fun i => ∃ k : Nat, k ≤ 9 ∧ i = .int .i64 k ∧ Hid (M.markL.contains s[a] = (M.markL.drop k).contains s[a])) (fun i => 9 - (intOf i).toNat)
  case atStart => exact ⟨0, Nat.zero_le _, rfl, rfl⟩
  case round =>
    obtain ⟨k, hk, rfl, hf⟩ := hrel
    by_cases hlt : k < 9
    · have hsz : (⟨#[40, 41, 91, 93, 44, 59, 96, 123, 125]⟩ : ByteArray).size = 9 := rfl
      obtain ⟨S, hS⟩ : ∃ S : ByteArray, S = ⟨#[40, 41, 91, 93, 44, 59, 96, 123, 125]⟩ := ⟨_, rfl⟩
      rw [← hS] at hsz ⊢
      have hd : Hid (M.markL.drop k = S[k] :: M.markL.drop (k + 1)) := by
        show _ = _
        subst hS
        rw [List.drop_eq_getElem_cons (show k < M.markL.length from hlt)]; rfl
      have hki : (k : Int) < 9 := by omega
      have hkS : k < S.size := by omega
      clear hS
      by_cases he : (S[k]'hkS) = s[a]
      · have hei : (((S[k]'hkS).toNat : Int) == (s[a].toNat : Int)) = true := by rw [he]; simp
        clear he
        go_wp2
        exact bodyPost_ret (v := lexV (⟨8, [s[a]], 0⟩, 1)) (by simp [results, Tryz.results39, go_sem, lexV, tokV, bs, ac0, ac1, ac2, ac3, ac4, ac5, ac6]) rfl ⟨by rw [HL'.out], by repeat (first | (refine Below.setCell ?_ (by simp) _) | exact HB3.out)⟩
      · have hei : (((S[k]'hkS).toNat : Int) == (s[a].toNat : Int)) = false := beq_eq_false_iff_ne.2 (fun h => he (UInt8.toNat_inj.1 (by omega)))
        have HE : Hid ((S[k]'hkS) ≠ s[a]) := he
        clear he
        go_wp2
        go_round
        case rel => exact ⟨k + 1, by omega, by go_num, (by rw [hf.out, hd.out, List.contains_cons, show (s[a] == S[k]) = false from beq_eq_false_iff_ne.2 (Ne.symm HE.out)]; rfl : M.markL.contains s[a] = (M.markL.drop (k + 1)).contains s[a])⟩
        case measure => simp [intOf]; omega
    · obtain rfl : k = 9 := by omega
      exfalso; have h1 := hf.out; rw [HM.out] at h1; simp [M.markL] at h1

set_option maxRecDepth 100000 in
set_option maxHeartbeats 8000000 in
theorem rLex8_c (s : ByteArray) (a : Nat) (hs : s.size ≤ 70000) (ha : a < s.size) (hc : M.cls s[a] = 8) (hp : [123, 45].isPrefixOf (s.data.toList.drop a) = false) (w : World) :
    Calls Tryz.prog 39 #[.string s, .int .i64 (a : Int)] w fun e w' => e = .returned (lexV (M.lexR (s.data.toList.drop a))) ∧ Below w.heap.size w w' := by
  have hdep : Tryz.prog.follows Departure.mixedOrders = true := by kernel_rfl
  have hlti : (a : Int) < s.size := by omega
  have hai : (a : Int) ≤ 69999 := by omega
  have hsi : (s.size : Int) ≤ 70000 := by omega
  have HX : Hid (∀ v1 v2 : Array Value, Below w.heap.size w ((w.alloc (.cells v1 30)).alloc (.cells v2 30))) := fun v1 v2 => ((Below.refl _ w).alloc (Nat.le_refl _) _).alloc (by simp) _
  have HX1 : Hid (∀ v1 : Array Value, Below w.heap.size w (w.alloc (.cells v1 30))) := fun v1 => (Below.refl _ w).alloc (Nat.le_refl _) _
  have hcf := M.cls_facts s[a]
  have hpf := M.pcls_facts s[a]
  have hcv : s[a].toNat < 256 := s[a].toNat_lt
  have H0 : Hid (M.begName s[a] = false) := by show _ = _; rw [hcf.1, hc]; rfl
  have H1 : Hid (M.capB s[a] = false) := by show _ = _; rw [hcf.2.1, hc]; rfl
  have H4 : Hid (M.digB s[a] = false) := by show _ = _; rw [hcf.2.2.2.2.1, hc]; rfl
  have h39 : decide (s[a].toNat = 39) = false := by rw [hcf.2.2.2.2.2.1, hc]; rfl
  have h34 : decide (s[a].toNat = 34) = false := by rw [hcf.2.2.2.2.2.2.1, hc]; rfl
  have e39 : ((s[a].toNat : Int) == 39) = false := beq_eq_false_iff_ne.2 (by have := of_decide_eq_false h39; omega)
  have e34 : ((s[a].toNat : Int) == 34) = false := beq_eq_false_iff_ne.2 (by have := of_decide_eq_false h34; omega)
  have HY : Hid (M.sym s[a] = false) := by show _ = _; rw [hpf.2.2.2.1, hc]; rfl
  clear h39 h34
  have HM : Hid (M.markL.contains s[a] = false) := by show _ = _; rw [hcf.2.2.2.2.2.2.2.1, hc]; rfl
  have HL' : Hid (M.lexR (s.data.toList.drop a) = (⟨0, [], 0⟩, 0)) := by
    show _ = _
    rw [drop_one s a ha]
    exact M.lexR_none _ _ hc
  clear hcf hpf hcv hc hs hp
  go_enter Tryz.func39, Tryz.ntmps39
  go_wp2_with (first
    | (go_at_call 68; refine (rSmall_c s[a] _).mono ?_; rintro e w1 ⟨rfl, rfl⟩; rw [H0.out])
    | (go_at_call 70; refine (rCapital_c s[a] _).mono ?_; rintro e w1 ⟨rfl, rfl⟩; rw [H1.out])
    | (go_at_call 71; refine (rDigit_c s[a] _).mono ?_; rintro e w1 ⟨rfl, rfl⟩; rw [H4.out])
    | (go_at_call 26; refine (rSymbol_c s[a] _).mono ?_; rintro e w1 ⟨rfl, rfl⟩; rw [HY.out]))
  obtain ⟨ac0, ac1, ac2, ac3, ac4, ac5, ac6, af0, af1, af2, af3, af4, af5, af6⟩ := (Blk.new w #[.int .i64 0, .string ⟨#[]⟩, .int .i64 0, .int .i64 0, .int .i64 0, .int .i64 0, .bool false] 30).all7
  obtain ⟨W, hW⟩ : ∃ W, w.alloc (.cells #[.int .i64 0, .string ⟨#[]⟩, .int .i64 0, .int .i64 0, .int .i64 0, .int .i64 0, .bool false] 30) = W := ⟨_, rfl⟩
  have HB3 : Hid (Below w.heap.size w W) := by rw [← hW]; exact HX1.out _
  rw [hW] at ac0 ac1 ac2 ac3 ac4 ac5 ac6 af0 af1 af2 af3 af4 af5 af6 ⊢
  clear hW
  clear e39 e34
  go_loop [15] (fun i => ∃ k : Nat, k ≤ 9 ∧ i = .int .i64 k ∧ Hid (M.markL.contains s[a] = (M.markL.drop k).contains s[a])) (fun i => 9 - (intOf i).toNat)
  case atStart => exact ⟨0, Nat.zero_le _, rfl, rfl⟩
  case round =>
    obtain ⟨k, hk, rfl, hf⟩ := hrel
    by_cases hlt : k < 9
    · have hsz : (⟨#[40, 41, 91, 93, 44, 59, 96, 123, 125]⟩ : ByteArray).size = 9 := rfl
      obtain ⟨S, hS⟩ : ∃ S : ByteArray, S = ⟨#[40, 41, 91, 93, 44, 59, 96, 123, 125]⟩ := ⟨_, rfl⟩
      rw [← hS] at hsz ⊢
      have hd : Hid (M.markL.drop k = S[k] :: M.markL.drop (k + 1)) := by
        show _ = _
        subst hS
        rw [List.drop_eq_getElem_cons (show k < M.markL.length from hlt)]; rfl
      have hki : (k : Int) < 9 := by omega
      have hkS : k < S.size := by omega
      clear hS
      by_cases he : (S[k]'hkS) = s[a]
      · exfalso
        have h1 := hf.out
        rw [HM.out, hd.out, he] at h1
        simp at h1
      · have hei : (((S[k]'hkS).toNat : Int) == (s[a].toNat : Int)) = false := beq_eq_false_iff_ne.2 (fun h => he (UInt8.toNat_inj.1 (by omega)))
        have HE : Hid ((S[k]'hkS) ≠ s[a]) := he
        clear he
        go_wp2
        go_round
        case rel => exact ⟨k + 1, by omega, by go_num, (by rw [hf.out, hd.out, List.contains_cons, show (s[a] == S[k]) = false from beq_eq_false_iff_ne.2 (Ne.symm HE.out)]; rfl : M.markL.contains s[a] = (M.markL.drop (k + 1)).contains s[a])⟩
        case measure => simp [intOf]; omega
    · obtain rfl : k = 9 := by omega
      go_wp2
      exact bodyPost_ret (v := lexV (⟨0, [], 0⟩, 0)) (by simp [results, Tryz.results39, go_sem, lexV, tokV, bs, ac0, ac1, ac2, ac3, ac4, ac5, ac6]) rfl ⟨by rw [HL'.out], by repeat (first | (refine Below.setCell ?_ (by simp) _) | exact HB3.out)⟩

theorem digs_num (B : Nat) (l : List UInt8) (h : M.cnt (M.dig B) l ≠ 0) : M.digs B 63 l = if (M.numR B l).2.2 = false then (0, 0) else ((M.numR B l).2.1, (M.numR B l).1.toNat) := by
  unfold M.digs M.numR
  by_cases h1 : 2 ^ 63 ≤ M.val B 0 (l.take (M.cnt (M.dig B) l))
  · rw [if_pos (Or.inr h1), if_pos h1]; simp
  · rw [if_neg (by rintro (h' | h'); exact h h'; exact h1 h'), if_neg h1]; simp
theorem numR_pos (B : Nat) (l : List UInt8) (h : M.cnt (M.dig B) l ≠ 0) (ho : (M.numR B l).2.2 = true) : (M.numR B l).2.1 ≠ 0 := by
  unfold M.numR at ho ⊢
  split at ho
  · simp at ho
  · rename_i h1; rw [if_neg h1]; exact h

set_option maxRecDepth 100000 in
set_option maxHeartbeats 8000000 in
theorem rLex4_c (s : ByteArray) (a : Nat) (hs : s.size ≤ 70000) (ha : a < s.size) (hc : M.cls s[a] = 4) (w : World) :
    Calls Tryz.prog 39 #[.string s, .int .i64 (a : Int)] w fun e w' => e = .returned (lexV (M.lexR (s.data.toList.drop a))) ∧ Below w.heap.size w w' := by
  have hdep : Tryz.prog.follows Departure.mixedOrders = true := by kernel_rfl
  have hlti : (a : Int) < s.size := by omega
  have hai : (a : Int) ≤ 69999 := by omega
  have hsi : (s.size : Int) ≤ 70000 := by omega
  have HX : Hid (∀ v1 v2 : Array Value, Below w.heap.size w ((w.alloc (.cells v1 30)).alloc (.cells v2 30))) := fun v1 v2 => ((Below.refl _ w).alloc (Nat.le_refl _) _).alloc (by simp) _
  have HX1 : Hid (∀ v1 : Array Value, Below w.heap.size w (w.alloc (.cells v1 30))) := fun v1 => (Below.refl _ w).alloc (Nat.le_refl _) _
  have hcf := M.cls_facts s[a]
  have hpf := M.pcls_facts s[a]
  have hcv : s[a].toNat < 256 := s[a].toNat_lt
  have H0 : Hid (M.begName s[a] = false) := by show _ = _; rw [hcf.1, hc]; rfl
  have H1 : Hid (M.capB s[a] = false) := by show _ = _; rw [hcf.2.1, hc]; rfl
  have H4 : Hid (M.digB s[a] = true) := by show _ = _; rw [hcf.2.2.2.2.1, hc]; rfl
  have HL := M.lexR_num s[a] (s.data.toList.drop (a + 1)) hc
  rw [← drop_one s a ha] at HL
  have hs3 : s.size ≤ 70000 := hs
  clear hcf hpf hcv hc hs
  by_cases hx : ∃ h : a + 2 < s.size, s[a].toNat = 48 ∧ s[a + 1].toNat = 120 ∧ 0 ≤ hexI s[a + 2]
  · obtain ⟨h2, h48, h120, hh⟩ := hx
    have hhex : M.hexB s[a + 2] = true := by
      cases hb : M.hexB s[a + 2]
      · unfold hexI at hh; rw [hb] at hh; simp at hh
      · rfl
    have hdr : s.data.toList.drop a = s[a] :: s[a + 1] :: s[a + 2] :: s.data.toList.drop (a + 3) := by
      rw [drop_two s a (by omega), drop_one s (a + 2) h2]
    have hc0 : M.cnt (M.dig 16) (s.data.toList.drop (a + 2)) ≠ 0 := by
      rw [drop_one s (a + 2) h2, M.dig16]; simp [M.cnt, hhex]
    have hih : M.isHexed (s.data.toList.drop a) = true := by
      unfold M.isHexed
      rw [List.drop_drop, decide_eq_true (by rw [← M.dig16]; exact hc0), hdr]
      simp only [List.isPrefixOf, Bool.and_true, Bool.and_eq_true, beq_iff_eq]
      exact ⟨UInt8.toNat_inj.1 (by rw [h48]; rfl), UInt8.toNat_inj.1 (by rw [h120]; rfl)⟩
    have hnum : M.number (s.data.toList.drop a) = M.up 2 (M.digs 16 63 (s.data.toList.drop (a + 2))) := by
      unfold M.number; rw [if_pos hih, List.drop_drop]
    have hnb := numR_bounds 16 (s.data.toList.drop (a + 2))
    rw [List.length_drop, ← Lib.size_eq] at hnb
    have hnp := numR_pos 16 _ hc0
    rw [hnum, digs_num 16 _ hc0] at HL
    have HN : Hid (∀ w : World, Calls Tryz.prog 73 #[.string s, .int .i64 ((a : Int) + 2), .int .i64 16] w fun e w' => e = .returned (.tuple #[.int .i64 (M.numR 16 (s.data.toList.drop (a + 2))).1, .int .i64 ((M.numR 16 (s.data.toList.drop (a + 2))).2.1 : Nat), .bool (M.numR 16 (s.data.toList.drop (a + 2))).2.2]) ∧ w' = w) := fun w => by
      have := rNumber16_c s (a + 2) hs3 (by omega) w
      rw [show ((a + 2 : Nat) : Int) = (a : Int) + 2 by omega] at this
      exact this
    obtain ⟨⟨x, n, ok⟩, hnr⟩ : ∃ r, M.numR 16 (s.data.toList.drop (a + 2)) = r := ⟨_, rfl⟩
    rw [hnr] at HL hnb HN hnp
    simp only at HL hnb HN hnp
    obtain ⟨x, rfl⟩ := Int.eq_ofNat_of_zero_le hnb.1
    have hni : (n : Int) ≤ 70000 := by omega
    have hxi : (x : Int) ≤ 9223372036854775807 := hnb.2.1
    obtain ⟨hv, hhv⟩ : ∃ hv, hexI s[a + 2] = hv := ⟨_, rfl⟩
    rw [hhv] at hh
    have HH : Hid (hexI s[a + 2] = hv) := hhv
    have e48 : ((s[a].toNat : Int) == 48) = true := beq_iff_eq.2 (by omega)
    have e120 : ((s[a + 1].toNat : Int) == 120) = true := beq_iff_eq.2 (by omega)
    have hl2 : (a : Int) + 2 < s.size := by omega
    have hl1 : a + 1 < s.size := by omega
    have hl1i : (a : Int) + 1 < s.size := by omega
    clear h48 h120 hhex hdr hc0 hih hnum hnb hnr hhv hs3
    cases ok with
    | false =>
      have HL' : Hid (M.lexR (s.data.toList.drop a) = (⟨0, [], 0⟩, 0)) := HL
      clear HL hnp
      go_enter Tryz.func39, Tryz.ntmps39
      go_wp2_with (first
        | (go_at_call 68; refine (rSmall_c s[a] _).mono ?_; rintro e w1 ⟨rfl, rfl⟩; rw [H0.out])
        | (go_at_call 70; refine (rCapital_c s[a] _).mono ?_; rintro e w1 ⟨rfl, rfl⟩; rw [H1.out])
        | (go_at_call 71; refine (rDigit_c s[a] _).mono ?_; rintro e w1 ⟨rfl, rfl⟩; rw [H4.out])
        | (go_at_call 72; refine (rHex_c s[a + 2] _).mono ?_; rintro e w1 ⟨rfl, rfl⟩; rw [HH.out])
        | (go_at_call 73; refine (HN.out _).mono ?_; rintro e w2 ⟨rfl, rfl⟩))
      exact bodyPost_ret (v := lexV (⟨0, [], 0⟩, 0)) (by simp [results, Tryz.results39, go_sem, lexV, tokV, bs]) rfl ⟨by rw [HL'.out], HX1.out _⟩
    | true =>
      have hn0 := hnp rfl
      have HL' : Hid (M.lexR (s.data.toList.drop a) = (⟨5, [], x⟩, n + 2)) := by
        show _ = _
        have hu : M.up 2 (if true = false then (0, 0) else (n, ((x : Nat) : Int).toNat)) = (n + 2, x) := by
          rw [if_neg (by simp), Int.toNat_natCast]
          unfold M.up
          rw [if_neg hn0]
        rw [HL, hu, if_neg (by simp)]
      clear HL hnp hn0
      go_enter Tryz.func39, Tryz.ntmps39
      go_wp2_with (first
        | (go_at_call 68; refine (rSmall_c s[a] _).mono ?_; rintro e w1 ⟨rfl, rfl⟩; rw [H0.out])
        | (go_at_call 70; refine (rCapital_c s[a] _).mono ?_; rintro e w1 ⟨rfl, rfl⟩; rw [H1.out])
        | (go_at_call 71; refine (rDigit_c s[a] _).mono ?_; rintro e w1 ⟨rfl, rfl⟩; rw [H4.out])
        | (go_at_call 72; refine (rHex_c s[a + 2] _).mono ?_; rintro e w1 ⟨rfl, rfl⟩; rw [HH.out])
        | (go_at_call 73; refine (HN.out _).mono ?_; rintro e w2 ⟨rfl, rfl⟩))
      exact bodyPost_ret (v := lexV (⟨5, [], x⟩, n + 2)) (by simp [results, Tryz.results39, go_sem, lexV, tokV, bs]) rfl ⟨by rw [HL'.out], HX1.out _⟩
  · have hdf : M.isHexed (s.data.toList.drop a) = false := by
      cases hh : M.isHexed (s.data.toList.drop a) with
      | false => rfl
      | true =>
        exfalso
        unfold M.isHexed at hh
        rw [Bool.and_eq_true, decide_eq_true_eq, List.drop_drop] at hh
        have h2 : a + 2 < s.size := by
          apply Nat.lt_of_not_le
          intro h
          apply hh.2
          rw [List.drop_eq_nil_of_le (by rw [← Lib.size_eq]; exact h)]; rfl
        have hp := hh.1
        have hq := hh.2
        rw [drop_two s a (by omega)] at hp
        simp only [List.isPrefixOf, Bool.and_true, Bool.and_eq_true, beq_iff_eq] at hp
        rw [drop_one s (a + 2) h2] at hq
        have hhx : M.hexB s[a + 2] = true := by
          cases hb : M.hexB s[a + 2]
          · exact absurd (by simp [M.cnt, hb]) hq
          · rfl
        exact hx ⟨h2, by rw [← hp.1]; rfl, by rw [← hp.2]; rfl, by unfold hexI; rw [if_pos hhx]; omega⟩
    have hc0 : M.cnt (M.dig 10) (s.data.toList.drop a) ≠ 0 := by
      rw [drop_one s a ha, M.dig10]; simp [M.cnt, H4.out]
    have hnum : M.number (s.data.toList.drop a) = M.digs 10 63 (s.data.toList.drop a) := by
      unfold M.number; rw [if_neg (by rw [hdf]; simp)]
    have hnb := numR_bounds 10 (s.data.toList.drop a)
    rw [List.length_drop, ← Lib.size_eq] at hnb
    have hnp := numR_pos 10 _ hc0
    rw [hnum, digs_num 10 _ hc0] at HL
    have HN : Hid (∀ w : World, Calls Tryz.prog 73 #[.string s, .int .i64 (a : Int), .int .i64 10] w fun e w' => e = .returned (.tuple #[.int .i64 (M.numR 10 (s.data.toList.drop a)).1, .int .i64 ((M.numR 10 (s.data.toList.drop a)).2.1 : Nat), .bool (M.numR 10 (s.data.toList.drop a)).2.2]) ∧ w' = w) := fun w => rNumber10_c s a hs3 (by omega) w
    obtain ⟨⟨x, n, ok⟩, hnr⟩ : ∃ r, M.numR 10 (s.data.toList.drop a) = r := ⟨_, rfl⟩
    rw [hnr] at HL hnb HN hnp
    simp only at HL hnb HN hnp
    obtain ⟨x, rfl⟩ := Int.eq_ofNat_of_zero_le hnb.1
    have hni : (n : Int) ≤ 70000 := by omega
    have hxi : (x : Int) ≤ 9223372036854775807 := hnb.2.1
    have hq : s[a].toNat ≠ 48 ∨ (s[a].toNat = 48 ∧ s.size ≤ a + 2) ∨ (∃ h : a + 2 < s.size, s[a].toNat = 48 ∧ s[a + 1].toNat ≠ 120) ∨ (∃ h : a + 2 < s.size, s[a].toNat = 48 ∧ s[a + 1].toNat = 120 ∧ hexI s[a + 2] < 0) := by
      by_cases g1 : s[a].toNat = 48
      · by_cases g2 : a + 2 < s.size
        · by_cases g3 : s[a + 1].toNat = 120
          · by_cases g4 : 0 ≤ hexI s[a + 2]
            · exact absurd ⟨g2, g1, g3, g4⟩ hx
            · exact .inr (.inr (.inr ⟨g2, g1, g3, by omega⟩))
          · exact .inr (.inr (.inl ⟨g2, g1, g3⟩))
        · exact .inr (.inl ⟨g1, by omega⟩)
      · exact .inl g1
    clear hx hdf hc0 hnum hnb hnr hs3
    cases ok with
    | false =>
      have HL' : Hid (M.lexR (s.data.toList.drop a) = (⟨0, [], 0⟩, 0)) := HL
      clear HL hnp
      rcases hq with g1 | ⟨g1, g2⟩ | ⟨g2, g1, g3⟩ | ⟨g2, g1, g3, g4⟩
      · have e48 : ((s[a].toNat : Int) == 48) = false := beq_eq_false_iff_ne.2 (by omega)
        clear g1
        go_enter Tryz.func39, Tryz.ntmps39
        go_wp2_with (first
          | (go_at_call 68; refine (rSmall_c s[a] _).mono ?_; rintro e w1 ⟨rfl, rfl⟩; rw [H0.out])
          | (go_at_call 70; refine (rCapital_c s[a] _).mono ?_; rintro e w1 ⟨rfl, rfl⟩; rw [H1.out])
          | (go_at_call 71; refine (rDigit_c s[a] _).mono ?_; rintro e w1 ⟨rfl, rfl⟩; rw [H4.out])
          | (go_at_call 73; refine (HN.out _).mono ?_; rintro e w2 ⟨rfl, rfl⟩))
        exact bodyPost_ret (v := lexV (⟨0, [], 0⟩, 0)) (by simp [results, Tryz.results39, go_sem, lexV, tokV, bs]) rfl ⟨by rw [HL'.out], HX1.out _⟩
      · have e48 : ((s[a].toNat : Int) == 48) = true := beq_iff_eq.2 (by omega)
        have hge : (s.size : Int) ≤ (a : Int) + 2 := by omega
        clear g1 g2
        go_enter Tryz.func39, Tryz.ntmps39
        go_wp2_with (first
          | (go_at_call 68; refine (rSmall_c s[a] _).mono ?_; rintro e w1 ⟨rfl, rfl⟩; rw [H0.out])
          | (go_at_call 70; refine (rCapital_c s[a] _).mono ?_; rintro e w1 ⟨rfl, rfl⟩; rw [H1.out])
          | (go_at_call 71; refine (rDigit_c s[a] _).mono ?_; rintro e w1 ⟨rfl, rfl⟩; rw [H4.out])
          | (go_at_call 73; refine (HN.out _).mono ?_; rintro e w2 ⟨rfl, rfl⟩))
        exact bodyPost_ret (v := lexV (⟨0, [], 0⟩, 0)) (by simp [results, Tryz.results39, go_sem, lexV, tokV, bs]) rfl ⟨by rw [HL'.out], HX1.out _⟩
      · have e48 : ((s[a].toNat : Int) == 48) = true := beq_iff_eq.2 (by omega)
        have e120 : ((s[a + 1].toNat : Int) == 120) = false := beq_eq_false_iff_ne.2 (by omega)
        have hl2 : (a : Int) + 2 < s.size := by omega
        have hl1 : a + 1 < s.size := by omega
        have hl1i : (a : Int) + 1 < s.size := by omega
        clear g1 g3
        go_enter Tryz.func39, Tryz.ntmps39
        go_wp2_with (first
          | (go_at_call 68; refine (rSmall_c s[a] _).mono ?_; rintro e w1 ⟨rfl, rfl⟩; rw [H0.out])
          | (go_at_call 70; refine (rCapital_c s[a] _).mono ?_; rintro e w1 ⟨rfl, rfl⟩; rw [H1.out])
          | (go_at_call 71; refine (rDigit_c s[a] _).mono ?_; rintro e w1 ⟨rfl, rfl⟩; rw [H4.out])
          | (go_at_call 73; refine (HN.out _).mono ?_; rintro e w2 ⟨rfl, rfl⟩))
        exact bodyPost_ret (v := lexV (⟨0, [], 0⟩, 0)) (by simp [results, Tryz.results39, go_sem, lexV, tokV, bs]) rfl ⟨by rw [HL'.out], HX1.out _⟩
      · have e48 : ((s[a].toNat : Int) == 48) = true := beq_iff_eq.2 (by omega)
        have e120 : ((s[a + 1].toNat : Int) == 120) = true := beq_iff_eq.2 (by omega)
        have hl2 : (a : Int) + 2 < s.size := by omega
        have hl1 : a + 1 < s.size := by omega
        have hl1i : (a : Int) + 1 < s.size := by omega
        obtain ⟨hv, hhv⟩ : ∃ hv, hexI s[a + 2] = hv := ⟨_, rfl⟩
        rw [hhv] at g4
        have HH : Hid (hexI s[a + 2] = hv) := hhv
        clear g1 g3 hhv
        go_enter Tryz.func39, Tryz.ntmps39
        go_wp2_with (first
          | (go_at_call 68; refine (rSmall_c s[a] _).mono ?_; rintro e w1 ⟨rfl, rfl⟩; rw [H0.out])
          | (go_at_call 70; refine (rCapital_c s[a] _).mono ?_; rintro e w1 ⟨rfl, rfl⟩; rw [H1.out])
          | (go_at_call 71; refine (rDigit_c s[a] _).mono ?_; rintro e w1 ⟨rfl, rfl⟩; rw [H4.out])
          | (go_at_call 72; refine (rHex_c s[a + 2] _).mono ?_; rintro e w1 ⟨rfl, rfl⟩; rw [HH.out])
          | (go_at_call 73; refine (HN.out _).mono ?_; rintro e w2 ⟨rfl, rfl⟩))
        exact bodyPost_ret (v := lexV (⟨0, [], 0⟩, 0)) (by simp [results, Tryz.results39, go_sem, lexV, tokV, bs]) rfl ⟨by rw [HL'.out], HX1.out _⟩
    | true =>
      have hn0 := hnp rfl
      have HL' : Hid (M.lexR (s.data.toList.drop a) = (⟨5, [], x⟩, n)) := by
        show _ = _
        have hu : (if true = false then (0, 0) else (n, ((x : Nat) : Int).toNat)) = (n, x) := by
          rw [if_neg (by simp), Int.toNat_natCast]
        rw [HL, hu, if_neg hn0]
      clear HL hnp hn0
      rcases hq with g1 | ⟨g1, g2⟩ | ⟨g2, g1, g3⟩ | ⟨g2, g1, g3, g4⟩
      · have e48 : ((s[a].toNat : Int) == 48) = false := beq_eq_false_iff_ne.2 (by omega)
        clear g1
        go_enter Tryz.func39, Tryz.ntmps39
        go_wp2_with (first
          | (go_at_call 68; refine (rSmall_c s[a] _).mono ?_; rintro e w1 ⟨rfl, rfl⟩; rw [H0.out])
          | (go_at_call 70; refine (rCapital_c s[a] _).mono ?_; rintro e w1 ⟨rfl, rfl⟩; rw [H1.out])
          | (go_at_call 71; refine (rDigit_c s[a] _).mono ?_; rintro e w1 ⟨rfl, rfl⟩; rw [H4.out])
          | (go_at_call 73; refine (HN.out _).mono ?_; rintro e w2 ⟨rfl, rfl⟩))
        exact bodyPost_ret (v := lexV (⟨5, [], x⟩, n)) (by simp [results, Tryz.results39, go_sem, lexV, tokV, bs]) rfl ⟨by rw [HL'.out], HX1.out _⟩
      · have e48 : ((s[a].toNat : Int) == 48) = true := beq_iff_eq.2 (by omega)
        have hge : (s.size : Int) ≤ (a : Int) + 2 := by omega
        clear g1 g2
        go_enter Tryz.func39, Tryz.ntmps39
        go_wp2_with (first
          | (go_at_call 68; refine (rSmall_c s[a] _).mono ?_; rintro e w1 ⟨rfl, rfl⟩; rw [H0.out])
          | (go_at_call 70; refine (rCapital_c s[a] _).mono ?_; rintro e w1 ⟨rfl, rfl⟩; rw [H1.out])
          | (go_at_call 71; refine (rDigit_c s[a] _).mono ?_; rintro e w1 ⟨rfl, rfl⟩; rw [H4.out])
          | (go_at_call 73; refine (HN.out _).mono ?_; rintro e w2 ⟨rfl, rfl⟩))
        exact bodyPost_ret (v := lexV (⟨5, [], x⟩, n)) (by simp [results, Tryz.results39, go_sem, lexV, tokV, bs]) rfl ⟨by rw [HL'.out], HX1.out _⟩
      · have e48 : ((s[a].toNat : Int) == 48) = true := beq_iff_eq.2 (by omega)
        have e120 : ((s[a + 1].toNat : Int) == 120) = false := beq_eq_false_iff_ne.2 (by omega)
        have hl2 : (a : Int) + 2 < s.size := by omega
        have hl1 : a + 1 < s.size := by omega
        have hl1i : (a : Int) + 1 < s.size := by omega
        clear g1 g3
        go_enter Tryz.func39, Tryz.ntmps39
        go_wp2_with (first
          | (go_at_call 68; refine (rSmall_c s[a] _).mono ?_; rintro e w1 ⟨rfl, rfl⟩; rw [H0.out])
          | (go_at_call 70; refine (rCapital_c s[a] _).mono ?_; rintro e w1 ⟨rfl, rfl⟩; rw [H1.out])
          | (go_at_call 71; refine (rDigit_c s[a] _).mono ?_; rintro e w1 ⟨rfl, rfl⟩; rw [H4.out])
          | (go_at_call 73; refine (HN.out _).mono ?_; rintro e w2 ⟨rfl, rfl⟩))
        exact bodyPost_ret (v := lexV (⟨5, [], x⟩, n)) (by simp [results, Tryz.results39, go_sem, lexV, tokV, bs]) rfl ⟨by rw [HL'.out], HX1.out _⟩
      · have e48 : ((s[a].toNat : Int) == 48) = true := beq_iff_eq.2 (by omega)
        have e120 : ((s[a + 1].toNat : Int) == 120) = true := beq_iff_eq.2 (by omega)
        have hl2 : (a : Int) + 2 < s.size := by omega
        have hl1 : a + 1 < s.size := by omega
        have hl1i : (a : Int) + 1 < s.size := by omega
        obtain ⟨hv, hhv⟩ : ∃ hv, hexI s[a + 2] = hv := ⟨_, rfl⟩
        rw [hhv] at g4
        have HH : Hid (hexI s[a + 2] = hv) := hhv
        clear g1 g3 hhv
        go_enter Tryz.func39, Tryz.ntmps39
        go_wp2_with (first
          | (go_at_call 68; refine (rSmall_c s[a] _).mono ?_; rintro e w1 ⟨rfl, rfl⟩; rw [H0.out])
          | (go_at_call 70; refine (rCapital_c s[a] _).mono ?_; rintro e w1 ⟨rfl, rfl⟩; rw [H1.out])
          | (go_at_call 71; refine (rDigit_c s[a] _).mono ?_; rintro e w1 ⟨rfl, rfl⟩; rw [H4.out])
          | (go_at_call 72; refine (rHex_c s[a + 2] _).mono ?_; rintro e w1 ⟨rfl, rfl⟩; rw [HH.out])
          | (go_at_call 73; refine (HN.out _).mono ?_; rintro e w2 ⟨rfl, rfl⟩))
        exact bodyPost_ret (v := lexV (⟨5, [], x⟩, n)) (by simp [results, Tryz.results39, go_sem, lexV, tokV, bs]) rfl ⟨by rw [HL'.out], HX1.out _⟩

theorem rLexeme_c (s : ByteArray) (a : Nat) (hs : s.size ≤ 70000) (ha : a < s.size) (hp : [123, 45].isPrefixOf (s.data.toList.drop a) = false) (w : World) :
    Calls Tryz.prog 39 #[.string s, .int .i64 (a : Int)] w fun e w' => e = .returned (lexV (M.lexR (s.data.toList.drop a))) ∧ Below w.heap.size w w' := by
  have h8 := (M.cls_facts s[a]).2.2.2.2.2.2.2.2
  have hc : M.cls s[a] = 0 ∨ M.cls s[a] = 1 ∨ M.cls s[a] = 2 ∨ M.cls s[a] = 3 ∨ M.cls s[a] = 4 ∨ M.cls s[a] = 5 ∨ M.cls s[a] = 6 ∨ M.cls s[a] = 7 ∨ M.cls s[a] = 8 := by omega
  rcases hc with h | h | h | h | h | h | h | h | h
  · exact rLex0_c s a hs ha h w
  · exact rLex1_c s a hs ha h w
  · exact rLex2_c s a hs ha h w
  · exact rLex3_c s a hs ha h w
  · exact rLex4_c s a hs ha h w
  · exact rLex5_c s a hs ha h w
  · exact rLex6_c s a hs ha h w
  · exact rLex7_c s a hs ha h hp w
  · exact rLex8_c s a hs ha h hp w

end Go.Proofs.YtpidccdgkkcljaaGreatDoor
