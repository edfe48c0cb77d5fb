/-
  Characters in quotes, by a contract.
-/
import Derived.Test.YtppnhaacmhfenaaGreatDoorBuild
import Derived.Test.YtppnhaacmhfenaaGreatDoorShelf3
import Derived.Test.YtppnhaacmhfenaaGreatDoorAll
namespace Go.Proofs.YtppnhaacmhfenaaGreatDoor
open Go.RowKit Go.Shelf Go.Maps
set_option linter.unusedVariables false

theorem writeString_c (B b : Nat) (l : List Value) (s : ByteArray) (w : World) (h : Lib.IsBuilder 74 5 B b l w) (hlen : l.length + s.size ≤ 140737488355328) (hBw : B ≤ w.heap.size) :
    Calls Tryz.prog 209 #[.pointer (some ⟨b, 0, none⟩), .string s] w fun e w' => e = .returned (.tuple #[.int .i64 s.size, .nilIface]) ∧ (Lib.BuilderAt 74 5 B b (.pointer (some ⟨b, 0, none⟩)) (l ++ Lib.strCells s) w' ∧ Below B w w') := Any.Builder_WriteString bLays166 bExtra B b l s w h hlen hBw
theorem builderString_c (B b : Nat) (l : List UInt8) (w : World) (h : Lib.IsBuilder 74 5 B b (Lib.byteCells l) w) (hBw : B ≤ w.heap.size) :
    Calls Tryz.prog 48 #[.pointer (some ⟨b, 0, none⟩)] w fun e w' => e = .returned (.string ⟨l.toArray⟩) ∧ Below B w w' := Any.Builder_String_any bLays169 bExtra B b l w h hBw
theorem below_grow (w : World) (k : Nat) (os : Array Obj) : Below w.heap.size w (Go.Sort.grow (w.drewN k) os) :=
  ⟨rfl, rfl, rfl, by simp [Go.Sort.grow, World.drewN], fun i hi => by
    show (w.heap ++ os)[i]? = _
    rw [Array.getElem?_append_left hi]⟩
theorem itoa_c (n : Nat) (hn : n ≤ 9223372036854775807) (w : World) (hG : GOK w) :
    Calls Tryz.prog 210 #[.int .i64 (n : Int)] w fun e W' => e = .returned (.string (bs (Lib.itoa (n : Int)))) ∧ Below w.heap.size w W' := by
  refine (Tryz.strconv_Itoa (n : Int) (by omega) (by omega) w hG.pow).mono ?_
  rintro e W' ⟨rfl, k, os, rfl⟩
  exact ⟨rfl, below_grow w k os⟩
theorem formatInt_c (n : Nat) (hn : n ≤ 9223372036854775807) (w : World) (hG : GOK w) :
    Calls Tryz.prog 153 #[.int .i64 (n : Int), .int .i64 10] w fun e W' => e = .returned (.string (bs (Lib.itoa (n : Int)))) ∧ Below w.heap.size w W' := by
  refine (Tryz.strconv_FormatInt (n : Int) (by omega) (by omega) w hG.pow).mono ?_
  rintro e W' ⟨rfl, k, os, rfl⟩
  exact ⟨rfl, below_grow w k os⟩

/-- A character, told. -/
def chB (q : UInt8) (bh : List UInt8) (c : UInt8) : List UInt8 := if c = q ∨ c = 92 then [92, c] else if M.plainB c = true then [c] else 92 :: (Lib.itoa (c.toNat : Int) ++ bh)
def quM (q : UInt8) (bh l : List UInt8) : List UInt8 := q :: (l.flatMap (chB q bh) ++ [q])
theorem itoa_len (c : UInt8) : (Lib.itoa (c.toNat : Int)).length ≤ 3 := by
  have : ∀ k : Fin 256, (Lib.itoa ((k.val : Nat) : Int)).length ≤ 3 := by decide +kernel
  exact this ⟨c.toNat, c.toNat_lt⟩
theorem chB_len (q : UInt8) (bh : List UInt8) (c : UInt8) : (chB q bh c).length ≤ 4 + bh.length := by
  unfold chB
  have := itoa_len c
  split
  · simp; omega
  · split
    · simp; omega
    · simp; omega
theorem cells_app (a b : List UInt8) : Lib.byteCells (a ++ b) = Lib.byteCells a ++ Lib.byteCells b := by simp [Lib.byteCells]
theorem cells_one (a : List UInt8) (c : UInt8) : Lib.byteCells a ++ [.int .u8 (c.toNat : Int)] = Lib.byteCells (a ++ [c]) := by simp [Lib.byteCells]
theorem cells_bs (a l : List UInt8) : Lib.byteCells a ++ Lib.strCells (bs l) = Lib.byteCells (a ++ l) := by simp [Lib.byteCells, Lib.strCells, bs]
theorem builder_below {T e : TypeId} {B b : Nat} {p : Value} {l : List Value} {w w' : World} (h : Lib.BuilderAt T e B b p l w) (hb : Below w.heap.size w w') : Lib.BuilderAt T e B b p l w' := by
  obtain ⟨hB, v, hk, ho, hne⟩ := h
  exact ⟨hB, v, by rw [hb.block b (Array.getElem?_eq_some_iff.1 hk).1]; exact hk, owns_below ho hb, hne⟩
theorem take_flat (l : List UInt8) (f : UInt8 → List UInt8) (k : Nat) (h : k < l.length) : (l.take (k + 1)).flatMap f = (l.take k).flatMap f ++ f l[k] := by
  rw [List.take_succ_eq_append_getElem h, List.flatMap_append, List.flatMap_singleton]

set_option maxHeartbeats 4000000 in
set_option maxRecDepth 100000 in
theorem quoted_c (s : ByteArray) (q : UInt8) (bh : List UInt8) (hs : s.size ≤ 70000) (hbl : bh.length ≤ 100) (w : World) (hG : GOK w) :
    Calls Tryz.prog 154 #[.string s, .int .u8 (q.toNat : Int), .string (bs bh)] w fun e W' => e = .returned (.string (bs (quM q bh s.data.toList))) ∧ Below w.heap.size w W' := by
  have HG : Hid (GOK w) := hG
  have HI : Hid (∀ (n : Nat) (W : World), n ≤ 255 → Below w.heap.size w W → Calls Tryz.prog 210 #[.int .i64 (n : Int)] W fun e W' => e = .returned (.string (bs (Lib.itoa (n : Int)))) ∧ Below W.heap.size W W') := fun n W hn hW => itoa_c n (by omega) W (hG.below hW)
  have HL : Hid (s.size ≤ 70000 ∧ bh.length ≤ 100) := ⟨hs, hbl⟩
  have hsz : s.data.toList.length = s.size := (Lib.size_eq s).symm
  have HZ : Hid (s.data.toList.length = s.size) := hsz
  clear hG hs hbl hsz
  go_enter Tryz.func154, Tryz.ntmps154
  go_wp2_with (go_at_call 208; fail)
  refine (writeByte_c w.heap.size w.heap.size [] _ _ (.inl ⟨Nat.le_refl _, _, Blk.new w _ _, World.ownsRow_nil _ _ _ _, by simp [Value.ownBlock]⟩) (by simp) (by simp)).mono ?_
  rintro r w1 ⟨rfl, hA, hb⟩
  have HA : Hid (Lib.BuilderAt 74 5 w.heap.size w.heap.size (.pointer (some ⟨w.heap.size, 0, none⟩)) (Lib.byteCells [q]) w1) := hA
  have HB1 : Hid (Below w.heap.size w w1) := ((Below.refl _ w).alloc (Nat.le_refl _) _).trans hb
  clear hA hb
  go_wp2
  go_loopw [14] (fun i wr => ∃ k : Nat, k ≤ s.size ∧ i = .int .i64 k ∧ Hid (Lib.BuilderAt 74 5 w.heap.size w.heap.size (.pointer (some ⟨w.heap.size, 0, none⟩)) (Lib.byteCells (q :: (s.data.toList.take k).flatMap (chB q bh))) wr) ∧ Hid (((s.data.toList.take k).flatMap (chB q bh)).length ≤ k * 104) ∧ Hid (Below w.heap.size w wr)) (fun i _ => s.size - (intOf i).toNat)
  case atStart => exact ⟨0, Nat.zero_le _, rfl, by rw [List.take_zero]; exact HA, by rw [List.take_zero]; exact Nat.le_refl _, HB1⟩
  case round =>
    obtain ⟨k, hk, rfl, hA, hle, hB⟩ := hrel
    by_cases hlt : k < s.size
    · have hkl : k < s.data.toList.length := by rw [HZ.out]; exact hlt
      have htk := take_flat s.data.toList (chB q bh) k hkl
      have hcl := chB_len q bh s.data.toList[k]
      have hge : s.data.toList[k] = s[k]'hlt := by simp [ByteArray.getElem_eq_getElem_data]
      rw [hge] at htk hcl
      obtain ⟨c, hc⟩ : ∃ c, s[k]'hlt = c := ⟨_, rfl⟩
      rw [hc] at htk hcl
      have HT : Hid ((s.data.toList.take (k + 1)).flatMap (chB q bh) = (s.data.toList.take k).flatMap (chB q bh) ++ chB q bh c) := htk
      have HC : Hid ((chB q bh c).length ≤ 4 + bh.length) := hcl
      have hb256 : c.toNat < 256 := c.toNat_lt
      generalize (s.data.toList.take k).flatMap (chB q bh) = pre at hA hle HT
      clear htk hcl hge hkl
      have hk7 : (k : Int) ≤ 70000 := by have := HL.out; omega
      by_cases hq : c = q ∨ c = 92
      · have HV : Hid (chB q bh c = [92, c]) := by show _ = _; unfold chB; rw [if_pos hq]
        have e0 : c = q ∨ (¬ c = q ∧ c = 92) := by
          by_cases h : c = q
          · exact .inl h
          · rcases hq with h' | h'
            · exact absurd h' h
            · exact .inr ⟨h, h'⟩
        clear hq
        rcases e0 with e0 | ⟨e0, e1⟩
        · have e2 : ((c.toNat : Int) == (q.toNat : Int)) = true := beq_iff_eq.2 (by rw [e0])
          clear e0
          go_wp2_with (go_at_call 208; fail)
          refine (writeByte_c w.heap.size w.heap.size _ 92 _ (.inr hA.out) (by rw [Lib.byteCells_length]; have h1 := hle.out; have h2 := HL.out; simp only [List.length_cons]; omega) hB.out.size).mono ?_
          rintro r w2 ⟨rfl, hA2, hb2⟩
          rw [show (92 : Int) = ((92 : UInt8).toNat : Int) from rfl, cells_one] at hA2
          have hB2 : Hid (Below w.heap.size w w2) := hB.out.trans hb2
          have hA3 : Hid (Lib.BuilderAt 74 5 w.heap.size w.heap.size (.pointer (some ⟨w.heap.size, 0, none⟩)) (Lib.byteCells (q :: pre ++ [92])) w2) := by show Lib.BuilderAt _ _ _ _ _ _ _; simpa using hA2
          clear hA hB hA2 hb2
          have hA := hA3
          have hB := hB2
          clear hA3 hB2
          go_wp2_with (go_at_call 208; fail)
          refine (writeByte_c w.heap.size w.heap.size _ _ _ (.inr hA.out) (by rw [Lib.byteCells_length]; have h1 := hle.out; have h2 := HL.out; simp only [List.length_cons, List.length_append, List.length_nil]; omega) hB.out.size).mono ?_
          rintro r w3 ⟨rfl, hA2, hb2⟩
          rw [cells_one] at hA2
          have hB2 : Hid (Below w.heap.size w w3) := hB.out.trans hb2
          have hA3 : Hid (Lib.BuilderAt 74 5 w.heap.size w.heap.size (.pointer (some ⟨w.heap.size, 0, none⟩)) (Lib.byteCells (q :: pre ++ ([92] ++ [c]))) w3) := by show Lib.BuilderAt _ _ _ _ _ _ _; simpa using hA2
          clear hA hB hA2 hb2
          have hA := hA3
          have hB := hB2
          clear hA3 hB2
          go_wp2
          go_roundw
          case rel => exact ⟨k + 1, by omega, by go_num, by rw [HT.out]; show Lib.BuilderAt _ _ _ _ _ (Lib.byteCells (q :: (pre ++ _))) _; rw [HV.out]; simpa using hA.out, by rw [HT.out]; have h1 := hle.out; have h2 := HC.out; have h3 := HL.out; show _ ≤ _; simp only [List.length_append]; omega, hB⟩
          case measure => simp [intOf]; omega
        · have e2 : ((c.toNat : Int) == (q.toNat : Int)) = false := beq_eq_false_iff_ne.2 (fun h => e0 (UInt8.toNat_inj.1 (by omega)))
          have e3 : ((c.toNat : Int) == 92) = true := beq_iff_eq.2 (by rw [e1]; rfl)
          clear e0 e1
          go_wp2_with (go_at_call 208; fail)
          refine (writeByte_c w.heap.size w.heap.size _ 92 _ (.inr hA.out) (by rw [Lib.byteCells_length]; have h1 := hle.out; have h2 := HL.out; simp only [List.length_cons]; omega) hB.out.size).mono ?_
          rintro r w2 ⟨rfl, hA2, hb2⟩
          rw [show (92 : Int) = ((92 : UInt8).toNat : Int) from rfl, cells_one] at hA2
          have hB2 : Hid (Below w.heap.size w w2) := hB.out.trans hb2
          have hA3 : Hid (Lib.BuilderAt 74 5 w.heap.size w.heap.size (.pointer (some ⟨w.heap.size, 0, none⟩)) (Lib.byteCells (q :: pre ++ [92])) w2) := by show Lib.BuilderAt _ _ _ _ _ _ _; simpa using hA2
          clear hA hB hA2 hb2
          have hA := hA3
          have hB := hB2
          clear hA3 hB2
          go_wp2_with (go_at_call 208; fail)
          refine (writeByte_c w.heap.size w.heap.size _ _ _ (.inr hA.out) (by rw [Lib.byteCells_length]; have h1 := hle.out; have h2 := HL.out; simp only [List.length_cons, List.length_append, List.length_nil]; omega) hB.out.size).mono ?_
          rintro r w3 ⟨rfl, hA2, hb2⟩
          rw [cells_one] at hA2
          have hB2 : Hid (Below w.heap.size w w3) := hB.out.trans hb2
          have hA3 : Hid (Lib.BuilderAt 74 5 w.heap.size w.heap.size (.pointer (some ⟨w.heap.size, 0, none⟩)) (Lib.byteCells (q :: pre ++ ([92] ++ [c]))) w3) := by show Lib.BuilderAt _ _ _ _ _ _ _; simpa using hA2
          clear hA hB hA2 hb2
          have hA := hA3
          have hB := hB2
          clear hA3 hB2
          go_wp2
          go_roundw
          case rel => exact ⟨k + 1, by omega, by go_num, by rw [HT.out]; show Lib.BuilderAt _ _ _ _ _ (Lib.byteCells (q :: (pre ++ _))) _; rw [HV.out]; simpa using hA.out, by rw [HT.out]; have h1 := hle.out; have h2 := HC.out; have h3 := HL.out; show _ ≤ _; simp only [List.length_append]; omega, hB⟩
          case measure => simp [intOf]; omega
      · have e2 : ((c.toNat : Int) == (q.toNat : Int)) = false := beq_eq_false_iff_ne.2 (fun h => hq (.inl (UInt8.toNat_inj.1 (by omega))))
        have e3 : ((c.toNat : Int) == 92) = false := beq_eq_false_iff_ne.2 (fun h => hq (.inr (UInt8.toNat_inj.1 (by show c.toNat = 92; omega))))
        cases hp : M.plainB c with
        | true =>
          have HV : Hid (chB q bh c = [c]) := by show _ = _; unfold chB; rw [if_neg hq, if_pos hp]
          have HPl : Hid (∀ W : World, Calls Tryz.prog 170 #[.int .u8 (c.toNat : Int)] W fun e w' => e = .returned (.bool true) ∧ w' = W) := fun W => by have := isPlain_c c W; rw [hp] at this; exact this
          clear hq hp
          go_wp2_with (go_at_call 170; fail)
          refine (HPl.out _).mono ?_
          rintro r w9 ⟨rfl, rfl⟩
          go_wp2_with (go_at_call 208; fail)
          refine (writeByte_c w.heap.size w.heap.size _ _ _ (.inr hA.out) (by rw [Lib.byteCells_length]; have h1 := hle.out; have h2 := HL.out; simp only [List.length_cons]; omega) hB.out.size).mono ?_
          rintro r w2 ⟨rfl, hA2, hb2⟩
          rw [cells_one] at hA2
          have hB2 : Hid (Below w.heap.size w w2) := hB.out.trans hb2
          have hA3 : Hid (Lib.BuilderAt 74 5 w.heap.size w.heap.size (.pointer (some ⟨w.heap.size, 0, none⟩)) (Lib.byteCells (q :: pre ++ [c])) w2) := by show Lib.BuilderAt _ _ _ _ _ _ _; simpa using hA2
          clear hA hB hA2 hb2
          have hA := hA3
          have hB := hB2
          clear hA3 hB2
          go_wp2
          go_roundw
          case rel => exact ⟨k + 1, by omega, by go_num, by rw [HT.out]; show Lib.BuilderAt _ _ _ _ _ (Lib.byteCells (q :: (pre ++ _))) _; rw [HV.out]; simpa using hA.out, by rw [HT.out]; have h1 := hle.out; have h2 := HC.out; have h3 := HL.out; show _ ≤ _; simp only [List.length_append]; omega, hB⟩
          case measure => simp [intOf]; omega
        | false =>
          have HV : Hid (chB q bh c = 92 :: (Lib.itoa (c.toNat : Int) ++ bh)) := by show _ = _; unfold chB; rw [if_neg hq, if_neg (by rw [hp]; simp)]
          have HPl : Hid (∀ W : World, Calls Tryz.prog 170 #[.int .u8 (c.toNat : Int)] W fun e w' => e = .returned (.bool false) ∧ w' = W) := fun W => by have := isPlain_c c W; rw [hp] at this; exact this
          have HIl : Hid ((Lib.itoa (c.toNat : Int)).length ≤ 3) := itoa_len c
          clear hq hp
          go_wp2_with (go_at_call 170; fail)
          refine (HPl.out _).mono ?_
          rintro r w9 ⟨rfl, rfl⟩
          go_wp2_with (go_at_call 208; fail)
          refine (writeByte_c w.heap.size w.heap.size _ 92 _ (.inr hA.out) (by rw [Lib.byteCells_length]; have h1 := hle.out; have h2 := HL.out; simp only [List.length_cons]; omega) hB.out.size).mono ?_
          rintro r w2 ⟨rfl, hA2, hb2⟩
          rw [show (92 : Int) = ((92 : UInt8).toNat : Int) from rfl, cells_one] at hA2
          have hB2 : Hid (Below w.heap.size w w2) := hB.out.trans hb2
          have hA3 : Hid (Lib.BuilderAt 74 5 w.heap.size w.heap.size (.pointer (some ⟨w.heap.size, 0, none⟩)) (Lib.byteCells (q :: pre ++ [92])) w2) := by show Lib.BuilderAt _ _ _ _ _ _ _; simpa using hA2
          clear hA hB hA2 hb2
          have hA := hA3
          have hB := hB2
          clear hA3 hB2
          go_wp2_with (go_at_call 210; fail)
          refine (HI.out c.toNat _ (by omega) hB.out).mono ?_
          rintro r w3 ⟨rfl, hb3⟩
          have hA3 : Hid (Lib.BuilderAt 74 5 w.heap.size w.heap.size (.pointer (some ⟨w.heap.size, 0, none⟩)) (Lib.byteCells (q :: pre ++ [92])) w3) := builder_below hA.out hb3
          have hB3 : Hid (Below w.heap.size w w3) := hB.out.trans (hb3.mono hB.out.size)
          clear hA hB hb3
          have hA := hA3
          have hB := hB3
          clear hA3 hB3
          go_wp2_with (go_at_call 209; fail)
          refine (writeString_c w.heap.size w.heap.size _ _ _ (.inr hA.out) (by rw [Lib.byteCells_length, bs_size]; have h1 := hle.out; have h2 := HL.out; have h3 := HIl.out; simp only [List.length_cons, List.length_append, List.length_nil]; omega) hB.out.size).mono ?_
          rintro r w4 ⟨rfl, hA2, hb2⟩
          rw [cells_bs] at hA2
          have hB2 : Hid (Below w.heap.size w w4) := hB.out.trans hb2
          have hA4 : Hid (Lib.BuilderAt 74 5 w.heap.size w.heap.size (.pointer (some ⟨w.heap.size, 0, none⟩)) (Lib.byteCells (q :: pre ++ [92] ++ Lib.itoa (c.toNat : Int))) w4) := hA2
          clear hA hB hA2 hb2
          have hA := hA4
          have hB := hB2
          clear hA4 hB2
          go_wp2_with (go_at_call 209; fail)
          refine (writeString_c w.heap.size w.heap.size _ _ _ (.inr hA.out) (by rw [Lib.byteCells_length, bs_size]; have h1 := hle.out; have h2 := HL.out; have h3 := HIl.out; simp only [List.length_cons, List.length_append, List.length_nil]; omega) hB.out.size).mono ?_
          rintro r w5 ⟨rfl, hA2, hb2⟩
          rw [cells_bs] at hA2
          have hB2 : Hid (Below w.heap.size w w5) := hB.out.trans hb2
          have hA4 : Hid (Lib.BuilderAt 74 5 w.heap.size w.heap.size (.pointer (some ⟨w.heap.size, 0, none⟩)) (Lib.byteCells (q :: pre ++ [92] ++ Lib.itoa (c.toNat : Int) ++ bh)) w5) := hA2
          clear hA hB hA2 hb2
          have hA := hA4
          have hB := hB2
          clear hA4 hB2
          go_wp2
          go_roundw
          case rel => exact ⟨k + 1, by omega, by go_num, by rw [HT.out]; show Lib.BuilderAt _ _ _ _ _ (Lib.byteCells (q :: (pre ++ _))) _; rw [HV.out]; simpa using hA.out, by rw [HT.out]; have h1 := hle.out; have h2 := HC.out; have h3 := HL.out; show _ ≤ _; simp only [List.length_append]; omega, hB⟩
          case measure => simp [intOf]; omega
    · obtain rfl : k = s.size := by omega
      rw [← HZ.out, List.take_length] at hA hle
      have HQ : Hid (quM q bh s.data.toList = q :: (s.data.toList.flatMap (chB q bh) ++ [q])) := rfl
      generalize s.data.toList.flatMap (chB q bh) = pre at hA hle HQ
      go_wp2_with (go_at_call 208; fail)
      refine (writeByte_c w.heap.size w.heap.size _ _ _ (.inr hA.out) (by rw [Lib.byteCells_length]; have h1 := hle.out; have h2 := HL.out; have h3 := HZ.out; simp only [List.length_cons]; omega) hB.out.size).mono ?_
      rintro r w2 ⟨rfl, hA2, hb2⟩
      rw [cells_one] at hA2
      have hB2 : Hid (Below w.heap.size w w2) := hB.out.trans hb2
      have hA3 : Hid (Lib.BuilderAt 74 5 w.heap.size w.heap.size (.pointer (some ⟨w.heap.size, 0, none⟩)) (Lib.byteCells (q :: pre ++ [q])) w2) := hA2
      clear hA hB hA2 hb2
      go_wp2_with (go_at_call 48; fail)
      refine (builderString_c w.heap.size w.heap.size _ _ (.inr hA3.out) hB2.out.size).mono ?_
      rintro r w3 ⟨rfl, hb3⟩
      have hB3 : Hid (Below w.heap.size w w3) := hB2.out.trans hb3
      clear hb3
      go_wp2
      go_ret
      exact ⟨by rw [HQ.out]; rfl, hB3.out⟩

end Go.Proofs.YtppnhaacmhfenaaGreatDoor
