/-
  A builder of strings, laid at this program: its contracts.
  Characters in quotes, by a contract.
  A token's lexeme, by contracts.
  What a token's text is, by a contract.
-/
import Derived.Shelf.Strings.Builder1
import Derived.Test.YtndpebkiiemfpaaGreatDoorBlk
import Derived.Test.YtndpebkiiemfpaaGreatDoorShelf3
import Derived.Test.YtndpebkiiemfpaaGreatDoorAll
namespace Go.Proofs.YtndpebkiiemfpaaGreatDoor
open Go.RowKit Go.Shelf Go.Maps
set_option linter.unusedVariables false

def bRen : Go.Shelf.Ren := ⟨fun | 166 => 141 | 167 => 140 | 169 => 25 | 240 => 172 | 276 => 191 | n => n, fun | 0 => 0 | 3 => 3 | 4 => 4 | 5 => 5 | 9 => 9 | 20 => 20 | 37 => 59 | 70 => 58 | 72 => 61 | 75 => 98 | 80 => 63 | 127 => 102 | 164 => 196 | n => n, fun n => n⟩
theorem bLays166 : Go.Proofs.Lays.n166 Tryz.prog bRen := {
  mixed := by kernel_rfl
  f166 := Tryz.func141.trans (congrArg some (by kernel_rfl))
  f240 := Tryz.func172.trans (congrArg some (by kernel_rfl))
  f276 := Tryz.func191.trans (congrArg some (by kernel_rfl))
  t0 := Tryz.underlying0
  a0 := Tryz.isAgg0
  z0 := Tryz.sizeOf0
  v0 := Tryz.zeroValue0
  t3 := Tryz.underlying3
  a3 := Tryz.isAgg3
  z3 := Tryz.sizeOf3
  v3 := Tryz.zeroValue3
  t4 := Tryz.underlying4
  a4 := Tryz.isAgg4
  z4 := Tryz.sizeOf4
  v4 := Tryz.zeroValue4
  t9 := Tryz.underlying9
  a9 := Tryz.isAgg9
  z9 := Tryz.sizeOf9
  v9 := Tryz.zeroValue9
  t20 := Tryz.underlying20
  a20 := Tryz.isAgg20
  z20 := Tryz.sizeOf20
  v20 := Tryz.zeroValue20
  t37 := Tryz.underlying59
  a37 := Tryz.isAgg59
  z37 := Tryz.sizeOf59
  v37 := Tryz.zeroValue59
  t70 := Tryz.underlying58
  a70 := Tryz.isAgg58
  z70 := Tryz.sizeOf58
  v70 := Tryz.zeroValue58
  t72 := Tryz.underlying61
  a72 := Tryz.isAgg61
  z72 := Tryz.sizeOf61
  v72 := Tryz.zeroValue61
  t75 := Tryz.underlying98
  a75 := Tryz.isAgg98
  z75 := Tryz.sizeOf98
  v75 := Tryz.zeroValue98
  t164 := Tryz.underlying196
  a164 := Tryz.isAgg196
  z164 := Tryz.sizeOf196
  v164 := Tryz.zeroValue196 }
theorem bLays167 : Go.Proofs.Lays.n167 Tryz.prog bRen := {
  mixed := by kernel_rfl
  f167 := Tryz.func140.trans (congrArg some (by kernel_rfl))
  f240 := Tryz.func172.trans (congrArg some (by kernel_rfl))
  f276 := Tryz.func191.trans (congrArg some (by kernel_rfl))
  t0 := Tryz.underlying0
  a0 := Tryz.isAgg0
  z0 := Tryz.sizeOf0
  v0 := Tryz.zeroValue0
  t4 := Tryz.underlying4
  a4 := Tryz.isAgg4
  z4 := Tryz.sizeOf4
  v4 := Tryz.zeroValue4
  t5 := Tryz.underlying5
  a5 := Tryz.isAgg5
  z5 := Tryz.sizeOf5
  v5 := Tryz.zeroValue5
  t9 := Tryz.underlying9
  a9 := Tryz.isAgg9
  z9 := Tryz.sizeOf9
  v9 := Tryz.zeroValue9
  t20 := Tryz.underlying20
  a20 := Tryz.isAgg20
  z20 := Tryz.sizeOf20
  v20 := Tryz.zeroValue20
  t37 := Tryz.underlying59
  a37 := Tryz.isAgg59
  z37 := Tryz.sizeOf59
  v37 := Tryz.zeroValue59
  t70 := Tryz.underlying58
  a70 := Tryz.isAgg58
  z70 := Tryz.sizeOf58
  v70 := Tryz.zeroValue58
  t72 := Tryz.underlying61
  a72 := Tryz.isAgg61
  z72 := Tryz.sizeOf61
  v72 := Tryz.zeroValue61
  t75 := Tryz.underlying98
  a75 := Tryz.isAgg98
  z75 := Tryz.sizeOf98
  v75 := Tryz.zeroValue98
  t164 := Tryz.underlying196
  a164 := Tryz.isAgg196
  z164 := Tryz.sizeOf196
  v164 := Tryz.zeroValue196 }
theorem bLays169 : Go.Proofs.Lays.n169 Tryz.prog bRen := {
  mixed := by kernel_rfl
  f169 := Tryz.func25.trans (congrArg some (by kernel_rfl))
  t0 := Tryz.underlying0
  a0 := Tryz.isAgg0
  z0 := Tryz.sizeOf0
  v0 := Tryz.zeroValue0
  t3 := Tryz.underlying3
  a3 := Tryz.isAgg3
  z3 := Tryz.sizeOf3
  v3 := Tryz.zeroValue3
  t9 := Tryz.underlying9
  a9 := Tryz.isAgg9
  z9 := Tryz.sizeOf9
  v9 := Tryz.zeroValue9
  t37 := Tryz.underlying59
  a37 := Tryz.isAgg59
  z37 := Tryz.sizeOf59
  v37 := Tryz.zeroValue59
  t70 := Tryz.underlying58
  a70 := Tryz.isAgg58
  z70 := Tryz.sizeOf58
  v70 := Tryz.zeroValue58
  t72 := Tryz.underlying61
  a72 := Tryz.isAgg61
  z72 := Tryz.sizeOf61
  v72 := Tryz.zeroValue61
  t127 := Tryz.underlying102
  a127 := Tryz.isAgg102
  z127 := Tryz.sizeOf102
  v127 := Tryz.zeroValue102 }
theorem bExtra : Go.Proofs.Builder.Extra Tryz.prog bRen := {
  sizeBuilder := by kernel_rfl
  liesBuilder := by kernel_rfl
  t5 := Tryz.underlying5
  a5 := Tryz.isAgg5
  z5 := Tryz.sizeOf5
  v5 := Tryz.zeroValue5
  infoByte := by kernel_rfl
  cellsByte := by kernel_rfl
  sizeByte := by kernel_rfl
  neB5 := by decide }
theorem writeByte_c (B b : Nat) (l : List Value) (c : Int) (w : World) (h : Lib.IsBuilder 61 5 B b l w) (hlen : l.length + 1 ≤ 140737488355328) (hBw : B ≤ w.heap.size) :
    Calls Tryz.prog 140 #[.pointer (some ⟨b, 0, none⟩), .int .u8 c] w fun e w' => e = .returned .nilIface ∧ (Lib.BuilderAt 61 5 B b (.pointer (some ⟨b, 0, none⟩)) (l ++ [.int .u8 c]) w' ∧ Below B w w') := Any.Builder_WriteByte bLays167 bExtra B b l c w h hlen hBw

end Go.Proofs.YtndpebkiiemfpaaGreatDoor

namespace Go.Proofs.YtndpebkiiemfpaaGreatDoor
open Go.RowKit Go.Shelf Go.Maps
set_option linter.unusedVariables false

theorem writeString_c (B b : Nat) (l : List Value) (s : ByteArray) (w : World) (h : Lib.IsBuilder 61 5 B b l w) (hlen : l.length + s.size ≤ 140737488355328) (hBw : B ≤ w.heap.size) :
    Calls Tryz.prog 141 #[.pointer (some ⟨b, 0, none⟩), .string s] w fun e w' => e = .returned (.tuple #[.int .i64 s.size, .nilIface]) ∧ (Lib.BuilderAt 61 5 B b (.pointer (some ⟨b, 0, none⟩)) (l ++ Lib.strCells s) w' ∧ Below B w w') := Any.Builder_WriteString bLays166 bExtra B b l s w h hlen hBw
theorem builderString_c (B b : Nat) (l : List UInt8) (w : World) (h : Lib.IsBuilder 61 5 B b (Lib.byteCells l) w) (hBw : B ≤ w.heap.size) :
    Calls Tryz.prog 25 #[.pointer (some ⟨b, 0, none⟩)] w fun e w' => e = .returned (.string ⟨l.toArray⟩) ∧ Below B w w' := Any.Builder_String_any bLays169 bExtra B b l w h hBw
theorem below_grow (w : World) (k : Nat) (os : Array Obj) : Below w.heap.size w (Go.Sort.grow (w.drewN k) os) :=
  ⟨rfl, rfl, rfl, by simp [Go.Sort.grow, World.drewN], fun i hi => by
    show (w.heap ++ os)[i]? = _
    rw [Array.getElem?_append_left hi]⟩
theorem itoa_c (n : Nat) (hn : n ≤ 9223372036854775807) (w : World) (hG : GOK w) :
    Calls Tryz.prog 142 #[.int .i64 (n : Int)] w fun e W' => e = .returned (.string (bs (Lib.itoa (n : Int)))) ∧ Below w.heap.size w W' := by
  refine (Tryz.strconv_Itoa (n : Int) (by omega) (by omega) w hG.pow).mono ?_
  rintro e W' ⟨rfl, k, os, rfl⟩
  exact ⟨rfl, below_grow w k os⟩
theorem formatInt_c (n : Nat) (hn : n ≤ 9223372036854775807) (w : World) (hG : GOK w) :
    Calls Tryz.prog 101 #[.int .i64 (n : Int), .int .i64 10] w fun e W' => e = .returned (.string (bs (Lib.itoa (n : Int)))) ∧ Below w.heap.size w W' := by
  refine (Tryz.strconv_FormatInt (n : Int) (by omega) (by omega) w hG.pow).mono ?_
  rintro e W' ⟨rfl, k, os, rfl⟩
  exact ⟨rfl, below_grow w k os⟩

/-- A character, told. -/
def chB (q : UInt8) (bh : List UInt8) (c : UInt8) : List UInt8 := if c = q ∨ c = 92 then [92, c] else if M.plainB c = true then [c] else 92 :: (Lib.itoa (c.toNat : Int) ++ bh)
def quM (q : UInt8) (bh l : List UInt8) : List UInt8 := q :: (l.flatMap (chB q bh) ++ [q])
theorem itoa_len (c : UInt8) : (Lib.itoa (c.toNat : Int)).length ≤ 3 := by
  have : ∀ k : Fin 256, (Lib.itoa ((k.val : Nat) : Int)).length ≤ 3 := by decide +kernel
  exact this ⟨c.toNat, c.toNat_lt⟩
theorem chB_len (q : UInt8) (bh : List UInt8) (c : UInt8) : (chB q bh c).length ≤ 4 + bh.length := by
  unfold chB
  have := itoa_len c
  split
  · simp; omega
  · split
    · simp; omega
    · simp; omega
theorem cells_app (a b : List UInt8) : Lib.byteCells (a ++ b) = Lib.byteCells a ++ Lib.byteCells b := by simp [Lib.byteCells]
theorem cells_one (a : List UInt8) (c : UInt8) : Lib.byteCells a ++ [.int .u8 (c.toNat : Int)] = Lib.byteCells (a ++ [c]) := by simp [Lib.byteCells]
theorem cells_bs (a l : List UInt8) : Lib.byteCells a ++ Lib.strCells (bs l) = Lib.byteCells (a ++ l) := by simp [Lib.byteCells, Lib.strCells, bs]
theorem builder_below {T e : TypeId} {B b : Nat} {p : Value} {l : List Value} {w w' : World} (h : Lib.BuilderAt T e B b p l w) (hb : Below w.heap.size w w') : Lib.BuilderAt T e B b p l w' := by
  obtain ⟨hB, v, hk, ho, hne⟩ := h
  exact ⟨hB, v, by rw [hb.block b (Array.getElem?_eq_some_iff.1 hk).1]; exact hk, owns_below ho hb, hne⟩
theorem take_flat (l : List UInt8) (f : UInt8 → List UInt8) (k : Nat) (h : k < l.length) : (l.take (k + 1)).flatMap f = (l.take k).flatMap f ++ f l[k] := by
  rw [List.take_succ_eq_append_getElem h, List.flatMap_append, List.flatMap_singleton]

set_option maxHeartbeats 4000000 in
set_option maxRecDepth 100000 in
theorem quoted_c (s : ByteArray) (q : UInt8) (bh : List UInt8) (hs : s.size ≤ 70000) (hbl : bh.length ≤ 100) (w : World) (hG : GOK w) :
    Calls Tryz.prog 102 #[.string s, .int .u8 (q.toNat : Int), .string (bs bh)] w fun e W' => e = .returned (.string (bs (quM q bh s.data.toList))) ∧ Below w.heap.size w W' := by
  have HG : Hid (GOK w) := hG
  have HI : Hid (∀ (n : Nat) (W : World), n ≤ 255 → Below w.heap.size w W → Calls Tryz.prog 142 #[.int .i64 (n : Int)] W fun e W' => e = .returned (.string (bs (Lib.itoa (n : Int)))) ∧ Below W.heap.size W W') := fun n W hn hW => itoa_c n (by omega) W (hG.below hW)
  have HL : Hid (s.size ≤ 70000 ∧ bh.length ≤ 100) := ⟨hs, hbl⟩
  have hsz : s.data.toList.length = s.size := (Lib.size_eq s).symm
  have HZ : Hid (s.data.toList.length = s.size) := hsz
  clear hG hs hbl hsz
  go_enter Tryz.func102, Tryz.ntmps102
  go_wp2_with (go_at_call 140; fail)
  refine (writeByte_c w.heap.size w.heap.size [] _ _ (.inl ⟨Nat.le_refl _, _, Blk.new w _ _, World.ownsRow_nil _ _ _ _, by simp [Value.ownBlock]⟩) (by simp) (by simp)).mono ?_
  rintro r w1 ⟨rfl, hA, hb⟩
  have HA : Hid (Lib.BuilderAt 61 5 w.heap.size w.heap.size (.pointer (some ⟨w.heap.size, 0, none⟩)) (Lib.byteCells [q]) w1) := hA
  have HB1 : Hid (Below w.heap.size w w1) := ((Below.refl _ w).alloc (Nat.le_refl _) _).trans hb
  clear hA hb
  go_wp2
  go_loopw [14] (fun i wr => ∃ k : Nat, k ≤ s.size ∧ i = .int .i64 k ∧ Hid (Lib.BuilderAt 61 5 w.heap.size w.heap.size (.pointer (some ⟨w.heap.size, 0, none⟩)) (Lib.byteCells (q :: (s.data.toList.take k).flatMap (chB q bh))) wr) ∧ Hid (((s.data.toList.take k).flatMap (chB q bh)).length ≤ k * 104) ∧ Hid (Below w.heap.size w wr)) (fun i _ => s.size - (intOf i).toNat)
  case atStart => exact ⟨0, Nat.zero_le _, rfl, by rw [List.take_zero]; exact HA, by rw [List.take_zero]; exact Nat.le_refl _, HB1⟩
  case round =>
    obtain ⟨k, hk, rfl, hA, hle, hB⟩ := hrel
    by_cases hlt : k < s.size
    · have hkl : k < s.data.toList.length := by rw [HZ.out]; exact hlt
      have htk := take_flat s.data.toList (chB q bh) k hkl
      have hcl := chB_len q bh s.data.toList[k]
      have hge : s.data.toList[k] = s[k]'hlt := by simp [ByteArray.getElem_eq_getElem_data]
      rw [hge] at htk hcl
      obtain ⟨c, hc⟩ : ∃ c, s[k]'hlt = c := ⟨_, rfl⟩
      rw [hc] at htk hcl
      have HT : Hid ((s.data.toList.take (k + 1)).flatMap (chB q bh) = (s.data.toList.take k).flatMap (chB q bh) ++ chB q bh c) := htk
      have HC : Hid ((chB q bh c).length ≤ 4 + bh.length) := hcl
      have hb256 : c.toNat < 256 := c.toNat_lt
      generalize (s.data.toList.take k).flatMap (chB q bh) = pre at hA hle HT
      clear htk hcl hge hkl
      have hk7 : (k : Int) ≤ 70000 := by have := HL.out; omega
      by_cases hq : c = q ∨ c = 92
      · have HV : Hid (chB q bh c = [92, c]) := by show _ = _; unfold chB; rw [if_pos hq]
        have e0 : c = q ∨ (¬ c = q ∧ c = 92) := by
          by_cases h : c = q
          · exact .inl h
          · rcases hq with h' | h'
            · exact absurd h' h
            · exact .inr ⟨h, h'⟩
        clear hq
        rcases e0 with e0 | ⟨e0, e1⟩
        · have e2 : ((c.toNat : Int) == (q.toNat : Int)) = true := beq_iff_eq.2 (by rw [e0])
          clear e0
          go_wp2_with (go_at_call 140; fail)
          refine (writeByte_c w.heap.size w.heap.size _ 92 _ (.inr hA.out) (by rw [Lib.byteCells_length]; have h1 := hle.out; have h2 := HL.out; simp only [List.length_cons]; omega) hB.out.size).mono ?_
          rintro r w2 ⟨rfl, hA2, hb2⟩
          rw [show (92 : Int) = ((92 : UInt8).toNat : Int) from rfl, cells_one] at hA2
          have hB2 : Hid (Below w.heap.size w w2) := hB.out.trans hb2
          have hA3 : Hid (Lib.BuilderAt 61 5 w.heap.size w.heap.size (.pointer (some ⟨w.heap.size, 0, none⟩)) (Lib.byteCells (q :: pre ++ [92])) w2) := by show Lib.BuilderAt _ _ _ _ _ _ _; simpa using hA2
          clear hA hB hA2 hb2
          have hA := hA3
          have hB := hB2
          clear hA3 hB2
          go_wp2_with (go_at_call 140; fail)
          refine (writeByte_c w.heap.size w.heap.size _ _ _ (.inr hA.out) (by rw [Lib.byteCells_length]; have h1 := hle.out; have h2 := HL.out; simp only [List.length_cons, List.length_append, List.length_nil]; omega) hB.out.size).mono ?_
          rintro r w3 ⟨rfl, hA2, hb2⟩
          rw [cells_one] at hA2
          have hB2 : Hid (Below w.heap.size w w3) := hB.out.trans hb2
          have hA3 : Hid (Lib.BuilderAt 61 5 w.heap.size w.heap.size (.pointer (some ⟨w.heap.size, 0, none⟩)) (Lib.byteCells (q :: pre ++ ([92] ++ [c]))) w3) := by show Lib.BuilderAt _ _ _ _ _ _ _; simpa using hA2
          clear hA hB hA2 hb2
          have hA := hA3
          have hB := hB2
          clear hA3 hB2
          go_wp2
          go_roundw
          case rel => exact ⟨k + 1, by omega, by go_num, by rw [HT.out]; show Lib.BuilderAt _ _ _ _ _ (Lib.byteCells (q :: (pre ++ _))) _; rw [HV.out]; simpa using hA.out, by rw [HT.out]; have h1 := hle.out; have h2 := HC.out; have h3 := HL.out; show _ ≤ _; simp only [List.length_append]; omega, hB⟩
          case measure => simp [intOf]; omega
        · have e2 : ((c.toNat : Int) == (q.toNat : Int)) = false := beq_eq_false_iff_ne.2 (fun h => e0 (UInt8.toNat_inj.1 (by omega)))
          have e3 : ((c.toNat : Int) == 92) = true := beq_iff_eq.2 (by rw [e1]; rfl)
          clear e0 e1
          go_wp2_with (go_at_call 140; fail)
          refine (writeByte_c w.heap.size w.heap.size _ 92 _ (.inr hA.out) (by rw [Lib.byteCells_length]; have h1 := hle.out; have h2 := HL.out; simp only [List.length_cons]; omega) hB.out.size).mono ?_
          rintro r w2 ⟨rfl, hA2, hb2⟩
          rw [show (92 : Int) = ((92 : UInt8).toNat : Int) from rfl, cells_one] at hA2
          have hB2 : Hid (Below w.heap.size w w2) := hB.out.trans hb2
          have hA3 : Hid (Lib.BuilderAt 61 5 w.heap.size w.heap.size (.pointer (some ⟨w.heap.size, 0, none⟩)) (Lib.byteCells (q :: pre ++ [92])) w2) := by show Lib.BuilderAt _ _ _ _ _ _ _; simpa using hA2
          clear hA hB hA2 hb2
          have hA := hA3
          have hB := hB2
          clear hA3 hB2
          go_wp2_with (go_at_call 140; fail)
          refine (writeByte_c w.heap.size w.heap.size _ _ _ (.inr hA.out) (by rw [Lib.byteCells_length]; have h1 := hle.out; have h2 := HL.out; simp only [List.length_cons, List.length_append, List.length_nil]; omega) hB.out.size).mono ?_
          rintro r w3 ⟨rfl, hA2, hb2⟩
          rw [cells_one] at hA2
          have hB2 : Hid (Below w.heap.size w w3) := hB.out.trans hb2
          have hA3 : Hid (Lib.BuilderAt 61 5 w.heap.size w.heap.size (.pointer (some ⟨w.heap.size, 0, none⟩)) (Lib.byteCells (q :: pre ++ ([92] ++ [c]))) w3) := by show Lib.BuilderAt _ _ _ _ _ _ _; simpa using hA2
          clear hA hB hA2 hb2
          have hA := hA3
          have hB := hB2
          clear hA3 hB2
          go_wp2
          go_roundw
          case rel => exact ⟨k + 1, by omega, by go_num, by rw [HT.out]; show Lib.BuilderAt _ _ _ _ _ (Lib.byteCells (q :: (pre ++ _))) _; rw [HV.out]; simpa using hA.out, by rw [HT.out]; have h1 := hle.out; have h2 := HC.out; have h3 := HL.out; show _ ≤ _; simp only [List.length_append]; omega, hB⟩
          case measure => simp [intOf]; omega
      · have e2 : ((c.toNat : Int) == (q.toNat : Int)) = false := beq_eq_false_iff_ne.2 (fun h => hq (.inl (UInt8.toNat_inj.1 (by omega))))
        have e3 : ((c.toNat : Int) == 92) = false := beq_eq_false_iff_ne.2 (fun h => hq (.inr (UInt8.toNat_inj.1 (by show c.toNat = 92; omega))))
        cases hp : M.plainB c with
        | true =>
          have HV : Hid (chB q bh c = [c]) := by show _ = _; unfold chB; rw [if_neg hq, if_pos hp]
          have HPl : Hid (∀ W : World, Calls Tryz.prog 118 #[.int .u8 (c.toNat : Int)] W fun e w' => e = .returned (.bool true) ∧ w' = W) := fun W => by have := isPlain_c c W; rw [hp] at this; exact this
          clear hq hp
          go_wp2_with (go_at_call 118; fail)
          refine (HPl.out _).mono ?_
          rintro r w9 ⟨rfl, rfl⟩
          go_wp2_with (go_at_call 140; fail)
          refine (writeByte_c w.heap.size w.heap.size _ _ _ (.inr hA.out) (by rw [Lib.byteCells_length]; have h1 := hle.out; have h2 := HL.out; simp only [List.length_cons]; omega) hB.out.size).mono ?_
          rintro r w2 ⟨rfl, hA2, hb2⟩
          rw [cells_one] at hA2
          have hB2 : Hid (Below w.heap.size w w2) := hB.out.trans hb2
          have hA3 : Hid (Lib.BuilderAt 61 5 w.heap.size w.heap.size (.pointer (some ⟨w.heap.size, 0, none⟩)) (Lib.byteCells (q :: pre ++ [c])) w2) := by show Lib.BuilderAt _ _ _ _ _ _ _; simpa using hA2
          clear hA hB hA2 hb2
          have hA := hA3
          have hB := hB2
          clear hA3 hB2
          go_wp2
          go_roundw
          case rel => exact ⟨k + 1, by omega, by go_num, by rw [HT.out]; show Lib.BuilderAt _ _ _ _ _ (Lib.byteCells (q :: (pre ++ _))) _; rw [HV.out]; simpa using hA.out, by rw [HT.out]; have h1 := hle.out; have h2 := HC.out; have h3 := HL.out; show _ ≤ _; simp only [List.length_append]; omega, hB⟩
          case measure => simp [intOf]; omega
        | false =>
          have HV : Hid (chB q bh c = 92 :: (Lib.itoa (c.toNat : Int) ++ bh)) := by show _ = _; unfold chB; rw [if_neg hq, if_neg (by rw [hp]; simp)]
          have HPl : Hid (∀ W : World, Calls Tryz.prog 118 #[.int .u8 (c.toNat : Int)] W fun e w' => e = .returned (.bool false) ∧ w' = W) := fun W => by have := isPlain_c c W; rw [hp] at this; exact this
          have HIl : Hid ((Lib.itoa (c.toNat : Int)).length ≤ 3) := itoa_len c
          clear hq hp
          go_wp2_with (go_at_call 118; fail)
          refine (HPl.out _).mono ?_
          rintro r w9 ⟨rfl, rfl⟩
          go_wp2_with (go_at_call 140; fail)
          refine (writeByte_c w.heap.size w.heap.size _ 92 _ (.inr hA.out) (by rw [Lib.byteCells_length]; have h1 := hle.out; have h2 := HL.out; simp only [List.length_cons]; omega) hB.out.size).mono ?_
          rintro r w2 ⟨rfl, hA2, hb2⟩
          rw [show (92 : Int) = ((92 : UInt8).toNat : Int) from rfl, cells_one] at hA2
          have hB2 : Hid (Below w.heap.size w w2) := hB.out.trans hb2
          have hA3 : Hid (Lib.BuilderAt 61 5 w.heap.size w.heap.size (.pointer (some ⟨w.heap.size, 0, none⟩)) (Lib.byteCells (q :: pre ++ [92])) w2) := by show Lib.BuilderAt _ _ _ _ _ _ _; simpa using hA2
          clear hA hB hA2 hb2
          have hA := hA3
          have hB := hB2
          clear hA3 hB2
          go_wp2_with (go_at_call 142; fail)
          refine (HI.out c.toNat _ (by omega) hB.out).mono ?_
          rintro r w3 ⟨rfl, hb3⟩
          have hA3 : Hid (Lib.BuilderAt 61 5 w.heap.size w.heap.size (.pointer (some ⟨w.heap.size, 0, none⟩)) (Lib.byteCells (q :: pre ++ [92])) w3) := builder_below hA.out hb3
          have hB3 : Hid (Below w.heap.size w w3) := hB.out.trans (hb3.mono hB.out.size)
          clear hA hB hb3
          have hA := hA3
          have hB := hB3
          clear hA3 hB3
          go_wp2_with (go_at_call 141; fail)
          refine (writeString_c w.heap.size w.heap.size _ _ _ (.inr hA.out) (by rw [Lib.byteCells_length, bs_size]; have h1 := hle.out; have h2 := HL.out; have h3 := HIl.out; simp only [List.length_cons, List.length_append, List.length_nil]; omega) hB.out.size).mono ?_
          rintro r w4 ⟨rfl, hA2, hb2⟩
          rw [cells_bs] at hA2
          have hB2 : Hid (Below w.heap.size w w4) := hB.out.trans hb2
          have hA4 : Hid (Lib.BuilderAt 61 5 w.heap.size w.heap.size (.pointer (some ⟨w.heap.size, 0, none⟩)) (Lib.byteCells (q :: pre ++ [92] ++ Lib.itoa (c.toNat : Int))) w4) := hA2
          clear hA hB hA2 hb2
          have hA := hA4
          have hB := hB2
          clear hA4 hB2
          go_wp2_with (go_at_call 141; fail)
          refine (writeString_c w.heap.size w.heap.size _ _ _ (.inr hA.out) (by rw [Lib.byteCells_length, bs_size]; have h1 := hle.out; have h2 := HL.out; have h3 := HIl.out; simp only [List.length_cons, List.length_append, List.length_nil]; omega) hB.out.size).mono ?_
          rintro r w5 ⟨rfl, hA2, hb2⟩
          rw [cells_bs] at hA2
          have hB2 : Hid (Below w.heap.size w w5) := hB.out.trans hb2
          have hA4 : Hid (Lib.BuilderAt 61 5 w.heap.size w.heap.size (.pointer (some ⟨w.heap.size, 0, none⟩)) (Lib.byteCells (q :: pre ++ [92] ++ Lib.itoa (c.toNat : Int) ++ bh)) w5) := hA2
          clear hA hB hA2 hb2
          have hA := hA4
          have hB := hB2
          clear hA4 hB2
          go_wp2
          go_roundw
          case rel => exact ⟨k + 1, by omega, by go_num, by rw [HT.out]; show Lib.BuilderAt _ _ _ _ _ (Lib.byteCells (q :: (pre ++ _))) _; rw [HV.out]; simpa using hA.out, by rw [HT.out]; have h1 := hle.out; have h2 := HC.out; have h3 := HL.out; show _ ≤ _; simp only [List.length_append]; omega, hB⟩
          case measure => simp [intOf]; omega
    · obtain rfl : k = s.size := by omega
      rw [← HZ.out, List.take_length] at hA hle
      have HQ : Hid (quM q bh s.data.toList = q :: (s.data.toList.flatMap (chB q bh) ++ [q])) := rfl
      generalize s.data.toList.flatMap (chB q bh) = pre at hA hle HQ
      go_wp2_with (go_at_call 140; fail)
      refine (writeByte_c w.heap.size w.heap.size _ _ _ (.inr hA.out) (by rw [Lib.byteCells_length]; have h1 := hle.out; have h2 := HL.out; have h3 := HZ.out; simp only [List.length_cons]; omega) hB.out.size).mono ?_
      rintro r w2 ⟨rfl, hA2, hb2⟩
      rw [cells_one] at hA2
      have hB2 : Hid (Below w.heap.size w w2) := hB.out.trans hb2
      have hA3 : Hid (Lib.BuilderAt 61 5 w.heap.size w.heap.size (.pointer (some ⟨w.heap.size, 0, none⟩)) (Lib.byteCells (q :: pre ++ [q])) w2) := hA2
      clear hA hB hA2 hb2
      go_wp2_with (go_at_call 25; fail)
      refine (builderString_c w.heap.size w.heap.size _ _ (.inr hA3.out) hB2.out.size).mono ?_
      rintro r w3 ⟨rfl, hb3⟩
      have hB3 : Hid (Below w.heap.size w w3) := hB2.out.trans hb3
      clear hb3
      go_wp2
      go_ret
      exact ⟨by rw [HQ.out]; rfl, hB3.out⟩

end Go.Proofs.YtndpebkiiemfpaaGreatDoor

namespace Go.Proofs.YtndpebkiiemfpaaGreatDoor
open Go.RowKit Go.Shelf Go.Maps
set_option linter.unusedVariables false

theorem Blk.new1b (w : World) (o : Obj) (vs : Array Value) (T : TypeId) : Blk ((w.alloc o).alloc (.cells vs T)) (w.heap.size + 1) vs T := by
  have := Blk.new (w.alloc o) vs T
  have hs : (w.alloc o).heap.size = w.heap.size + 1 := by simp
  rw [hs] at this
  exact this
/-- A token's lexeme. -/
def txM (kind : Int) (text : List UInt8) (num : Int) : List UInt8 :=
  if kind = 5 then Lib.itoa (max num 0)
  else if kind = 6 then quM 39 [] [UInt8.ofNat (min (max num 0) 255).toNat]
  else if kind = 7 then quM 34 [92, 38] text
  else if kind = 1 ∨ kind = 2 ∨ kind = 3 ∨ kind = 4 ∨ kind = 8 ∨ kind = 9 ∨ kind = 10 then text else []

set_option maxHeartbeats 4000000 in
set_option maxRecDepth 100000 in
theorem textInt_c (tx : List UInt8) (num : Int) (hn : num ≤ 9223372036854775807) (a l c : Int) (f : Bool) (w : World) (hG : GOK w) :
    Calls Tryz.prog 48 #[.agg #[.int .i64 5, .string (bs tx), .int .i64 num, .int .i64 a, .int .i64 l, .int .i64 c, .bool f]] w fun e W' => e = .returned (.string (bs (txM 5 tx num))) ∧ Below w.heap.size w W' := by
  have HI : Hid (∀ (n : Nat) (W : World), n ≤ 9223372036854775807 → Below w.heap.size w W → Calls Tryz.prog 101 #[.int .i64 (n : Int), .int .i64 10] W fun e W' => e = .returned (.string (bs (Lib.itoa (n : Int)))) ∧ Below W.heap.size W W') := fun n W hn hW => formatInt_c n hn W (hG.below hW)
  have hB : Hid (∀ o : Obj, Below w.heap.size w (w.alloc o)) := fun o => (Below.refl _ w).alloc (Nat.le_refl _) _
  clear hG
  obtain ⟨n, hm⟩ : ∃ n : Nat, max num 0 = (n : Int) := ⟨(max num 0).toNat, by omega⟩
  have HT : Hid (txM 5 tx num = Lib.itoa (n : Int)) := by show _ = _; unfold txM; rw [if_pos rfl, hm]
  have hn2 : n ≤ 9223372036854775807 := by omega
  go_enter Tryz.func48, Tryz.ntmps48
  go_wp2_with (go_at_call 101; fail)
  refine (HI.out n _ hn2 (hB.out _)).mono ?_
  rintro r w1 ⟨rfl, hb1⟩
  have HB1 : Hid (Below w.heap.size w w1) := (hB.out _).trans (hb1.mono (by simp))
  clear hb1 hm hn2
  go_wp2
  go_ret
  exact ⟨HT.out ▸ rfl, HB1.out⟩

set_option maxHeartbeats 4000000 in
set_option maxRecDepth 100000 in
theorem textStr_c (tx : List UInt8) (hx : tx.length ≤ 70000) (num a l c : Int) (f : Bool) (w : World) (hG : GOK w) :
    Calls Tryz.prog 48 #[.agg #[.int .i64 7, .string (bs tx), .int .i64 num, .int .i64 a, .int .i64 l, .int .i64 c, .bool f]] w fun e W' => e = .returned (.string (bs (txM 7 tx num))) ∧ Below w.heap.size w W' := by
  have HQ : Hid (∀ (W : World), Below w.heap.size w W → Calls Tryz.prog 102 #[.string (bs tx), .int .u8 34, .string (bs [92, 38])] W fun e W' => e = .returned (.string (bs (txM 7 tx num))) ∧ Below W.heap.size W W') := fun W hW => quoted_c (bs tx) 34 [92, 38] (by rw [bs_size]; exact hx) (by decide) W (hG.below hW)
  have hB : Hid (∀ o : Obj, Below w.heap.size w (w.alloc o)) := fun o => (Below.refl _ w).alloc (Nat.le_refl _) _
  clear hG hx
  go_enter Tryz.func48, Tryz.ntmps48
  go_wp2_with (go_at_call 102; fail)
  refine (HQ.out _ (hB.out _)).mono ?_
  rintro r w1 ⟨rfl, hb1⟩
  go_wp2
  go_ret
  exact ⟨rfl, (hB.out _).trans (hb1.mono (by simp))⟩

set_option maxHeartbeats 4000000 in
set_option maxRecDepth 100000 in
theorem textNone_c (k : Int) (hk : k < 1 ∨ 10 < k) (tx : List UInt8) (num a l c : Int) (f : Bool) (w : World) :
    Calls Tryz.prog 48 #[.agg #[.int .i64 k, .string (bs tx), .int .i64 num, .int .i64 a, .int .i64 l, .int .i64 c, .bool f]] w fun e W' => e = .returned (.string (bs (txM k tx num))) ∧ Below w.heap.size w W' := by
  have hB : Hid (∀ o : Obj, Below w.heap.size w (w.alloc o)) := fun o => (Below.refl _ w).alloc (Nat.le_refl _) _
  have HT : Hid (txM k tx num = []) := by show _ = _; unfold txM; rw [if_neg (by omega), if_neg (by omega), if_neg (by omega), if_neg (by omega)]
  have e1 : (k == 1) = false := beq_eq_false_iff_ne.2 (by omega)
  have e2 : (k == 2) = false := beq_eq_false_iff_ne.2 (by omega)
  have e3 : (k == 3) = false := beq_eq_false_iff_ne.2 (by omega)
  have e4 : (k == 4) = false := beq_eq_false_iff_ne.2 (by omega)
  have e5 : (k == 5) = false := beq_eq_false_iff_ne.2 (by omega)
  have e6 : (k == 6) = false := beq_eq_false_iff_ne.2 (by omega)
  have e7 : (k == 7) = false := beq_eq_false_iff_ne.2 (by omega)
  have e8 : (k == 8) = false := beq_eq_false_iff_ne.2 (by omega)
  have e9 : (k == 9) = false := beq_eq_false_iff_ne.2 (by omega)
  have e10 : (k == 10) = false := beq_eq_false_iff_ne.2 (by omega)
  clear hk
  go_enter Tryz.func48, Tryz.ntmps48
  go_wp2
  go_ret
  exact ⟨by rw [HT.out]; rfl, hB.out _⟩

set_option maxHeartbeats 4000000 in
set_option maxRecDepth 100000 in
theorem textChar_c (tx : List UInt8) (num : Int) (a l c : Int) (f : Bool) (w : World) (hG : GOK w) :
    Calls Tryz.prog 48 #[.agg #[.int .i64 6, .string (bs tx), .int .i64 num, .int .i64 a, .int .i64 l, .int .i64 c, .bool f]] w fun e W' => e = .returned (.string (bs (txM 6 tx num))) ∧ Below w.heap.size w W' := by
  have HQ : Hid (∀ (n : Nat) (W : World), n ≤ 255 → Below w.heap.size w W → Calls Tryz.prog 102 #[.string (bs [UInt8.ofNat n]), .int .u8 39, .string (bs [])] W fun e W' => e = .returned (.string (bs (quM 39 [] [UInt8.ofNat n]))) ∧ Below W.heap.size W W') := fun n W hn hW => quoted_c (bs [UInt8.ofNat n]) 39 [] (by rw [bs_size]; simp) (by decide) W (hG.below hW)
  have hB : Hid (∀ o : Obj, Below w.heap.size w (w.alloc o)) := fun o => (Below.refl _ w).alloc (Nat.le_refl _) _
  clear hG
  obtain ⟨n, hm⟩ : ∃ n : Nat, min (max num 0) 255 = (n : Int) := ⟨(min (max num 0) 255).toNat, by omega⟩
  have HT : Hid (txM 6 tx num = quM 39 [] [UInt8.ofNat n]) := by show _ = _; unfold txM; rw [if_neg (by omega), if_pos rfl, hm]; rfl
  have hn2 : n ≤ 255 := by omega
  have hn3 : (n : Int) ≤ 255 := by omega
  have hcv : ∀ o : Obj, (convert 59 9 (.slice (some ⟨w.heap.size + 1, 0, none⟩) 1 1)).run Tryz.prog ((w.alloc o).alloc (.cells #[.int .u8 (n : Int)] 5)) = .ok (.string (bs [UInt8.ofNat n])) ((w.alloc o).alloc (.cells #[.int .u8 (n : Int)] 5)) := by
    intro o
    refine run_convert_bytes_back _ 59 9 5 ⟨w.heap.size + 1, 0, none⟩ 1 [UInt8.ofNat n] Tryz.underlying59 Tryz.underlying5 Tryz.underlying9 ?_
    intro j hj
    have hj0 : j = 0 := by simpa using hj
    subst hj0
    have := (Blk.new1b w o #[.int .u8 (n : Int)] 5).cell 0 _ rfl
    have e : ((UInt8.ofNat n).toNat : Int) = (n : Int) := by rw [UInt8.toNat_ofNat']; omega
    show _ = some (Value.int .u8 ((UInt8.ofNat n).toNat : Int))
    rw [e]
    exact this
  have hBB : Hid (∀ o o' : Obj, Below w.heap.size w ((w.alloc o).alloc o')) := fun o o' => ((Below.refl _ w).alloc (Nat.le_refl _) _).alloc (by simp) _
  go_enter Tryz.func48, Tryz.ntmps48
  go_wp2_with (go_at_call 102; fail)
  refine (HQ.out n _ hn2 (hBB.out _ _)).mono ?_
  rintro r w1 ⟨rfl, hb1⟩
  have HB1 : Hid (Below w.heap.size w w1) := (hBB.out _ _).trans (hb1.mono (by simp; omega))
  clear hb1 hm hn2 hn3 hcv
  go_wp2
  go_ret
  exact ⟨HT.out ▸ rfl, HB1.out⟩

end Go.Proofs.YtndpebkiiemfpaaGreatDoor

namespace Go.Proofs.YtndpebkiiemfpaaGreatDoor
open Go.RowKit Go.Shelf Go.Maps
set_option linter.unusedVariables false

def plainT (k : Nat) : Prop := k = 1 ∨ k = 2 ∨ k = 3 ∨ k = 4 ∨ k = 8 ∨ k = 9 ∨ k = 10
theorem txM_plain (k : Nat) (h : plainT k) (tx : List UInt8) (n : Int) : txM (k : Int) tx n = tx := by
  unfold plainT at h
  unfold txM
  rw [if_neg (by omega), if_neg (by omega), if_neg (by omega), if_pos (by omega)]
def plainK (k : Nat) : Prop := k = 1 ∨ k = 2 ∨ k = 3 ∨ k = 4 ∨ k = 8 ∨ k = 9 ∨ k = 10

set_option maxHeartbeats 8000000 in
set_option maxRecDepth 100000 in
theorem text_plain (k : Nat) (hk : plainK k) (tx : ByteArray) (num a l c : Int) (f : Bool) (w : World) :
    Calls Tryz.prog 48 #[.agg #[.int .i64 (k : Int), .string tx, .int .i64 num, .int .i64 a, .int .i64 l, .int .i64 c, .bool f]] w fun e W' => e = .returned (.string tx) ∧ Below w.heap.size w W' := by
  have hB : Hid (∀ o : Obj, Below w.heap.size w (w.alloc o)) := fun o => (Below.refl _ w).alloc (Nat.le_refl _) _
  rcases hk with rfl | rfl | rfl | rfl | rfl | rfl | rfl
  all_goals go_enter Tryz.func48, Tryz.ntmps48
  all_goals go_wp2
  all_goals go_ret
  all_goals exact ⟨rfl, hB.out _⟩
/-- A token, its numbers whatever they are. -/
structure Tg where
  kind : Int
  text : List UInt8
  num : Int
  pos : Int
  line : Int
  col : Int
  first : Bool
def tgC (t : Tg) : List Value := [.int .i64 t.kind, .string (bs t.text), .int .i64 t.num, .int .i64 t.pos, .int .i64 t.line, .int .i64 t.col, .bool t.first]
/-- Tokens that lie in a block, one behind the other. -/
def TgAt (W : World) (g off : Nat) (ts : List Tg) : Prop := ∀ (k : Nat) (h : k < ts.length) (q : Nat) (u : Value), (tgC ts[k])[q]? = some u → W.cell? ⟨g, off + k * 7 + q, none⟩ = some u
theorem TgAt.below {W W' : World} {g off : Nat} {ts : List Tg} (h : TgAt W g off ts) (hg : g < W.heap.size) (hb : Below W.heap.size W W') : TgAt W' g off ts := fun k hk q u hu => (hb.cell (p := ⟨g, off + k * 7 + q, none⟩) hg).trans (h k hk q u hu)
theorem TgAt.belowB {W W' : World} {B g off : Nat} {ts : List Tg} (h : TgAt W g off ts) (hg : g < B) (hb : Below B W W') : TgAt W' g off ts := fun k hk q u hu => (hb.cell (p := ⟨g, off + k * 7 + q, none⟩) hg).trans (h k hk q u hu)

/-- A slice that has such tokens; it may be nil where there are none. -/
def TgIn (W : World) (o : Option Addr) (ts : List Tg) : Prop := ts = [] ∨ ∃ g off, o = some ⟨g, off, none⟩ ∧ g < W.heap.size ∧ TgAt W g off ts
theorem TgIn.below {W W' : World} {o : Option Addr} {ts : List Tg} (h : TgIn W o ts) (hb : Below W.heap.size W W') : TgIn W' o ts := by
  rcases h with h | ⟨g, off, rfl, hg, hT⟩
  · exact .inl h
  · exact .inr ⟨g, off, rfl, by have := hb.size; omega, hT.below hg hb⟩
theorem TgIn.belowB {W W' : World} {o : Option Addr} {ts : List Tg} (h : TgIn W o ts) (hb : Below W.heap.size W W') : TgIn W' o ts := h.below hb
theorem TgIn.at {W : World} {o : Option Addr} {ts : List Tg} (h : TgIn W o ts) (k : Nat) (hk : k < ts.length) : ∃ g off, o = some ⟨g, off, none⟩ ∧ g < W.heap.size ∧ TgAt W g off ts := by
  rcases h with rfl | h
  · cases hk
  · exact h

def txG (t : Tg) : List UInt8 := txM t.kind t.text t.num
theorem textG_c (t : Tg) (hn : t.num ≤ 9223372036854775807) (hx : t.text.length ≤ 70000) (w : World) (hG : GOK w) :
    Calls Tryz.prog 48 #[.agg #[.int .i64 t.kind, .string (bs t.text), .int .i64 t.num, .int .i64 t.pos, .int .i64 t.line, .int .i64 t.col, .bool t.first]] w fun e W' => e = .returned (.string (bs (txG t))) ∧ Below w.heap.size w W' := by
  obtain ⟨k, tx, num, pos, line, col, first⟩ := t
  simp only at hn hx ⊢
  unfold txG
  simp only
  by_cases h : k < 1 ∨ 10 < k
  · exact textNone_c k h tx num pos line col first w
  · obtain ⟨m, rfl⟩ : ∃ m : Nat, k = (m : Int) := ⟨k.toNat, by omega⟩
    by_cases h5 : m = 5
    · subst h5; exact textInt_c tx num hn pos line col first w hG
    · by_cases h6 : m = 6
      · subst h6; exact textChar_c tx num pos line col first w hG
      · by_cases h7 : m = 7
        · subst h7; exact textStr_c tx hx num pos line col first w hG
        · have hp : plainT m := by unfold plainT; omega
          rw [txM_plain m hp]
          exact text_plain m hp (bs tx) num pos line col first w
end Go.Proofs.YtndpebkiiemfpaaGreatDoor
