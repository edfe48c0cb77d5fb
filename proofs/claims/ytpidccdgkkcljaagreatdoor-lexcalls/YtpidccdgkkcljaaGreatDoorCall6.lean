/-
  The document's telling of a token, by contracts.
-/
import Derived.Test.YtpidccdgkkcljaaGreatDoorCall5
namespace Go.Proofs.YtpidccdgkkcljaaGreatDoor
open Go.RowKit Go.Shelf Go.Maps
set_option linter.unusedVariables false

theorem add_bs (a b : List UInt8) (h : a.length + b.length ≤ 9223372036854775807) (W : World) : (Op.stringOp .add (bs a) (bs b)).run Tryz.prog W = .ok (.string (bs (a ++ b))) W := by
  rw [run_string_add_sum W _ _ (by rw [bs_size, bs_size]; exact h), bs_app]
set_option maxHeartbeats 4000000 in
set_option maxRecDepth 100000 in
theorem rTextInt_c (tx : List UInt8) (num : Int) (hn : num ≤ 9223372036854775807) (a l c : Int) (f : Bool) (w : World) :
    Calls Tryz.prog 17 #[.agg #[.int .i64 5, .string (bs tx), .int .i64 num, .int .i64 a, .int .i64 l, .int .i64 c, .bool f]] w fun e W' => e = .returned (.string (bs (txM 5 tx num))) ∧ Below w.heap.size w W' := by
  have HI : Hid (∀ (n : Nat) (W : World), n ≤ 9223372036854775807 → Calls Tryz.prog 43 #[.int .i64 (n : Int)] W fun e W' => e = .returned (.string (bs (Lib.decDigits n))) ∧ Below W.heap.size W W') := fun n W hn => rDigits_c n hn W
  have hB : Hid (∀ o : Obj, Below w.heap.size w (w.alloc o)) := fun o => (Below.refl _ w).alloc (Nat.le_refl _) _
  obtain ⟨n, hm⟩ : ∃ n : Nat, max 0 num = (n : Int) := ⟨(max 0 num).toNat, by omega⟩
  have HT : Hid (txM 5 tx num = Lib.decDigits n) := by show _ = _; unfold txM; rw [if_pos rfl, show max num 0 = (n : Int) by omega, Lib.itoa_nonneg]
  have hn2 : n ≤ 9223372036854775807 := by omega
  go_enter Tryz.func17, Tryz.ntmps17
  go_wp2_with (go_at_call 43; fail)
  refine (HI.out n _ hn2).mono ?_
  rintro r w1 ⟨rfl, hb1⟩
  have HB1 : Hid (Below w.heap.size w w1) := (hB.out _).trans (hb1.mono (by simp))
  clear hb1 hm hn2
  go_wp2
  go_ret
  exact ⟨HT.out ▸ rfl, HB1.out⟩

set_option maxHeartbeats 4000000 in
set_option maxRecDepth 100000 in
theorem rTextChar_c (tx : List UInt8) (num : Int) (a l c : Int) (f : Bool) (w : World) :
    Calls Tryz.prog 17 #[.agg #[.int .i64 6, .string (bs tx), .int .i64 num, .int .i64 a, .int .i64 l, .int .i64 c, .bool f]] w fun e W' => e = .returned (.string (bs (txM 6 tx num))) ∧ Below w.heap.size w W' := by
  have hB : Hid (∀ o : Obj, Below w.heap.size w (w.alloc o)) := fun o => (Below.refl _ w).alloc (Nat.le_refl _) _
  obtain ⟨n, hm⟩ : ∃ n : Nat, min 255 (max 0 num) = (n : Int) := ⟨(min 255 (max 0 num)).toNat, by omega⟩
  have hn2 : n ≤ 255 := by omega
  have hn3 : (n : Int) ≤ 255 := by omega
  have HT : Hid (txM 6 tx num = quM 39 [] [UInt8.ofNat n]) := by show _ = _; unfold txM; rw [if_neg (by omega), if_pos rfl, show min (max num 0) 255 = (n : Int) by omega]; rfl
  have HS : Hid (∀ (W : World), Calls Tryz.prog 44 #[.int .u8 (n : Int), .int .u8 39] W fun e W' => e = .returned (.string (bs (chB 39 [] (UInt8.ofNat n)))) ∧ Below W.heap.size W W') := by
    intro W
    have := rShown39_c (UInt8.ofNat n) W
    rw [show (UInt8.ofNat n).toNat = n by rw [UInt8.toNat_ofNat']; omega] at this
    exact this
  have HQ : Hid (quM 39 [] [UInt8.ofNat n] = 39 :: (chB 39 [] (UInt8.ofNat n) ++ [39])) := by show _ = _; unfold quM; rw [List.flatMap_singleton]
  have hxl := chB_len 39 [] (UInt8.ofNat n)
  generalize chB 39 [] (UInt8.ofNat n) = x at HS HQ hxl
  simp only [List.length_nil, Nat.add_zero] at hxl
  have ha1 : ∀ W : World, (Op.stringOp .add (ByteArray.mk #[39]) (bs x)).run Tryz.prog W = .ok (.string (bs (39 :: x))) W := add_bs [39] x (by simp; omega)
  have ha2 : ∀ W : World, (Op.stringOp .add (bs (39 :: x)) (ByteArray.mk #[39])).run Tryz.prog W = .ok (.string (bs (39 :: (x ++ [39])))) W := add_bs (39 :: x) [39] (by simp; omega)
  clear hn2 hxl
  go_enter Tryz.func17, Tryz.ntmps17
  go_wp2_with (go_at_call 44; fail)
  refine (HS.out _).mono ?_
  rintro r w1 ⟨rfl, hb1⟩
  have HB1 : Hid (Below w.heap.size w w1) := (hB.out _).trans (hb1.mono (by simp))
  clear hb1 hm hn3
  go_wp2
  go_ret
  refine ⟨?_, HB1.out⟩
  rw [HT.out, HQ.out]
  rfl

set_option maxHeartbeats 4000000 in
set_option maxRecDepth 100000 in
theorem rTextStr_c (s : ByteArray) (hs : s.size ≤ 70000) (num a l c : Int) (f : Bool) (w : World) :
    Calls Tryz.prog 17 #[.agg #[.int .i64 7, .string s, .int .i64 num, .int .i64 a, .int .i64 l, .int .i64 c, .bool f]] w fun e W' => e = .returned (.string (bs (txM 7 s.data.toList num))) ∧ Below w.heap.size w W' := by
  have hB : Hid (∀ o : Obj, Below w.heap.size w (w.alloc o)) := fun o => (Below.refl _ w).alloc (Nat.le_refl _) _
  have HT : Hid (txM 7 s.data.toList num = 34 :: (s.data.toList.flatMap (chB 34 [92, 38]) ++ [34])) := rfl
  have HS : Hid (∀ (b : UInt8) (W : World), Calls Tryz.prog 44 #[.int .u8 (b.toNat : Int), .int .u8 34] W fun e W' => e = .returned (.string (bs (chB 34 [92, 38] b))) ∧ Below W.heap.size W W') := rShown34_c
  have hsz : s.data.toList.length = s.size := (Lib.size_eq s).symm
  have HZ : Hid (s.data.toList.length = s.size) := hsz
  have hsi : (s.size : Int) ≤ 70000 := by omega
  clear hs hsz
  go_enter Tryz.func17, Tryz.ntmps17
  go_wp2
  have hK0 : Hid (Blk (w.alloc (.cells #[.int .i64 7, .string s, .int .i64 num, .int .i64 a, .int .i64 l, .int .i64 c, .bool f] 30)) w.heap.size #[.int .i64 7, .string s, .int .i64 num, .int .i64 a, .int .i64 l, .int .i64 c, .bool f] 30) := Blk.new w _ _
  go_loopw [3, 4] (fun x i wr => ∃ k : Nat, k ≤ s.size ∧ i = .int .i64 k ∧ x = .string (bs (34 :: (s.data.toList.take k).flatMap (chB 34 [92, 38]))) ∧ Hid (Blk wr w.heap.size #[.int .i64 7, .string s, .int .i64 num, .int .i64 a, .int .i64 l, .int .i64 c, .bool f] 30) ∧ Hid (Below w.heap.size w wr)) (fun _ i _ => s.size - (intOf i).toNat)
  case atStart => exact ⟨0, Nat.zero_le _, rfl, rfl, hK0, hB.out _⟩
  case round =>
    obtain ⟨k, hk, rfl, rfl, hK, hB1⟩ := hrel
    clear hK0
    have q1 := hK.out.cell 1 _ rfl
    have hlw := hK.out.lt
    by_cases hlt : k < s.size
    · have hkl : k < s.data.toList.length := by rw [HZ.out]; exact hlt
      have htk := take_flat s.data.toList (chB 34 [92, 38]) k hkl
      have hge : s.data.toList[k] = s[k]'hlt := by simp [ByteArray.getElem_eq_getElem_data]
      rw [hge] at htk
      obtain ⟨b, hb⟩ : ∃ b, s[k]'hlt = b := ⟨_, rfl⟩
      rw [hb] at htk
      have HT2 : Hid ((s.data.toList.take (k + 1)).flatMap (chB 34 [92, 38]) = (s.data.toList.take k).flatMap (chB 34 [92, 38]) ++ chB 34 [92, 38] b) := htk
      have hpl := flat_len 34 [92, 38] (s.data.toList.take k)
      have hyl := chB_len 34 [92, 38] b
      rw [List.length_take] at hpl
      generalize (s.data.toList.take k).flatMap (chB 34 [92, 38]) = pre at HT2 hpl
      have HSb : Hid (∀ (W : World), Calls Tryz.prog 44 #[.int .u8 (b.toNat : Int), .int .u8 34] W fun e W' => e = .returned (.string (bs (chB 34 [92, 38] b))) ∧ Below W.heap.size W W') := HS.out b
      generalize chB 34 [92, 38] b = y at HT2 HSb hyl
      simp only [List.length_cons, List.length_nil] at hpl hyl
      have ha1 : ∀ W : World, (Op.stringOp .add (bs (34 :: pre)) (bs y)).run Tryz.prog W = .ok (.string (bs (34 :: (pre ++ y)))) W := add_bs (34 :: pre) y (by simp; omega)
      clear hpl hyl
      have hki : (k : Int) < (s.size : Int) := by omega
      clear htk hge hkl
      go_wp2_with (go_at_call 44; fail)
      refine (HSb.out _).mono ?_
      rintro r w1 ⟨rfl, hb1⟩
      have hK2 : Hid (Blk w1 w.heap.size #[.int .i64 7, .string s, .int .i64 num, .int .i64 a, .int .i64 l, .int .i64 c, .bool f] 30) := hK.out.below hb1
      have hB2 : Hid (Below w.heap.size w w1) := hB1.out.trans (hb1.mono hB1.out.size)
      clear hb1 hK hB1 q1 hlw
      go_wp2
      go_roundw
      case rel =>
        refine ⟨k + 1, by omega, by go_num, ?_, hK2, hB2⟩
        rw [HT2.out]
      case measure => simp [intOf]; omega
    · obtain rfl : k = s.size := by omega
      have HF : Hid (s.data.toList.take s.size = s.data.toList) := by show _ = _; rw [List.take_of_length_le (by rw [HZ.out]; exact Nat.le_refl _)]
      have HT3 : Hid (txM 7 s.data.toList num = 34 :: ((s.data.toList.take s.size).flatMap (chB 34 [92, 38]) ++ [34])) := by show _ = _; rw [HF.out]; exact HT.out
      have hpl := flat_len 34 [92, 38] (s.data.toList.take s.size)
      rw [List.length_take] at hpl
      generalize (s.data.toList.take s.size).flatMap (chB 34 [92, 38]) = pre at HT3 hpl
      simp only [List.length_cons, List.length_nil] at hpl
      have ha1 : ∀ W : World, (Op.stringOp .add (bs (34 :: pre)) (ByteArray.mk #[34])).run Tryz.prog W = .ok (.string (bs (34 :: (pre ++ [34])))) W := add_bs (34 :: pre) [34] (by simp; omega)
      clear hlt hk hpl
      go_wp2
      go_ret
      refine ⟨?_, hB1.out⟩
      rw [HT3.out]
      rfl

set_option maxHeartbeats 4000000 in
set_option maxRecDepth 100000 in
theorem rTextPlain_c (k : Int) (h1 : 1 ≤ k) (h2 : k ≤ 10) (h5 : k ≠ 5) (h6 : k ≠ 6) (h7 : k ≠ 7) (tx : List UInt8) (num a l c : Int) (f : Bool) (w : World) :
    Calls Tryz.prog 17 #[.agg #[.int .i64 k, .string (bs tx), .int .i64 num, .int .i64 a, .int .i64 l, .int .i64 c, .bool f]] w fun e W' => e = .returned (.string (bs (txM k tx num))) ∧ Below w.heap.size w W' := by
  have hB : Hid (∀ o : Obj, Below w.heap.size w (w.alloc o)) := fun o => (Below.refl _ w).alloc (Nat.le_refl _) _
  have HT : Hid (txM k tx num = tx) := by show _ = _; unfold txM; rw [if_neg h5, if_neg h6, if_neg h7, if_pos (by omega)]
  have e5 : (k == 5) = false := beq_eq_false_iff_ne.2 (by omega)
  have e6 : (k == 6) = false := beq_eq_false_iff_ne.2 (by omega)
  have e7 : (k == 7) = false := beq_eq_false_iff_ne.2 (by omega)
  clear h5 h6 h7
  go_enter Tryz.func17, Tryz.ntmps17
  go_wp2
  go_ret
  exact ⟨by rw [HT.out]; rfl, hB.out _⟩

set_option maxHeartbeats 4000000 in
set_option maxRecDepth 100000 in
theorem rTextNone_c (k : Int) (hk : k < 1 ∨ 10 < k) (tx : List UInt8) (num a l c : Int) (f : Bool) (w : World) :
    Calls Tryz.prog 17 #[.agg #[.int .i64 k, .string (bs tx), .int .i64 num, .int .i64 a, .int .i64 l, .int .i64 c, .bool f]] w fun e W' => e = .returned (.string (bs (txM k tx num))) ∧ Below w.heap.size w W' := by
  have hB : Hid (∀ o : Obj, Below w.heap.size w (w.alloc o)) := fun o => (Below.refl _ w).alloc (Nat.le_refl _) _
  have HT : Hid (txM k tx num = []) := by show _ = _; unfold txM; rw [if_neg (by omega), if_neg (by omega), if_neg (by omega), if_neg (by omega)]
  have e5 : (k == 5) = false := beq_eq_false_iff_ne.2 (by omega)
  have e6 : (k == 6) = false := beq_eq_false_iff_ne.2 (by omega)
  have e7 : (k == 7) = false := beq_eq_false_iff_ne.2 (by omega)
  rcases hk with hk | hk
  · go_enter Tryz.func17, Tryz.ntmps17
    go_wp2
    go_ret
    exact ⟨by rw [HT.out]; rfl, hB.out _⟩
  · have hk1 : 1 ≤ k := by omega
    go_enter Tryz.func17, Tryz.ntmps17
    go_wp2
    go_ret
    exact ⟨by rw [HT.out]; rfl, hB.out _⟩

theorem rTextG_c (t : Tg) (hn : t.num ≤ 9223372036854775807) (hx : t.text.length ≤ 70000) (w : World) :
    Calls Tryz.prog 17 #[.agg #[.int .i64 t.kind, .string (bs t.text), .int .i64 t.num, .int .i64 t.pos, .int .i64 t.line, .int .i64 t.col, .bool t.first]] w fun e W' => e = .returned (.string (bs (txG t))) ∧ Below w.heap.size w W' := by
  obtain ⟨k, tx, num, pos, line, col, first⟩ := t
  simp only at hn hx ⊢
  unfold txG
  simp only
  by_cases h : k < 1 ∨ 10 < k
  · exact rTextNone_c k h tx num pos line col first w
  · by_cases h5 : k = 5
    · subst h5; exact rTextInt_c tx num hn pos line col first w
    · by_cases h6 : k = 6
      · subst h6; exact rTextChar_c tx num pos line col first w
      · by_cases h7 : k = 7
        · subst h7; exact rTextStr_c (bs tx) (by rw [bs_size]; exact hx) num pos line col first w
        · exact rTextPlain_c k (by omega) (by omega) h5 h6 h7 tx num pos line col first w

end Go.Proofs.YtpidccdgkkcljaaGreatDoor
