/-
  Names in parentheses and operators in back quotes, told.
  Telling nodes with a token between them.
  Telling nodes between two marks; guards.
  Telling nodes that are told part by part: further kinds.
  Telling nodes with all their kids in one list.
-/
import Derived.Test.YtndpebkiiemfpaaGreatDoorHTa
import Derived.Deep.CutRange
namespace Go.Proofs.YtndpebkiiemfpaaGreatDoor
open Go.RowKit Go.Shelf Go.Maps
set_option linter.unusedVariables false

theorem news3 (W : World) (k : Int) (s a b : ByteArray) : ∀ j u, ([(⟨8, a.data.toList, 0⟩ : TkT), ⟨k, s.data.toList, 0⟩, ⟨8, b.data.toList, 0⟩].flatMap tC)[j]? = some u → (W.alloc (.cells #[.int .i64 8, .string a, .int .i64 0, .int .i64 0, .int .i64 0, .int .i64 0, .bool false, .int .i64 k, .string s, .int .i64 0, .int .i64 0, .int .i64 0, .int .i64 0, .bool false, .int .i64 8, .string b, .int .i64 0, .int .i64 0, .int .i64 0, .int .i64 0, .bool false] 39)).cell? ⟨W.heap.size, j, none⟩ = some u := by
  intro j u hu
  have e : [(⟨8, a.data.toList, 0⟩ : TkT), ⟨k, s.data.toList, 0⟩, ⟨8, b.data.toList, 0⟩].flatMap tC = [.int .i64 8, .string a, .int .i64 0, .int .i64 0, .int .i64 0, .int .i64 0, .bool false, .int .i64 k, .string s, .int .i64 0, .int .i64 0, .int .i64 0, .int .i64 0, .bool false, .int .i64 8, .string b, .int .i64 0, .int .i64 0, .int .i64 0, .int .i64 0, .bool false] := rfl
  rw [e] at hu
  exact (Blk.new W #[.int .i64 8, .string a, .int .i64 0, .int .i64 0, .int .i64 0, .int .i64 0, .bool false, .int .i64 k, .string s, .int .i64 0, .int .i64 0, .int .i64 0, .int .i64 0, .bool false, .int .i64 8, .string b, .int .i64 0, .int .i64 0, .int .i64 0, .int .i64 0, .bool false] 39).cell j u (by simpa using hu)
/-- Three tokens are put. -/
theorem put3_c (B bl T c : Nat) (ts : List TkT) (v : Value) (k : Int) (s a b : ByteArray) (w : World) (h : TSt B bl T c w v ts) (hb : ts.length + 3 ≤ 1000000000) :
    Calls Tryz.prog 85 #[.pointer (some ⟨T, 0, none⟩), .slice (some ⟨w.heap.size, 0, none⟩) 3 3] (w.alloc (.cells #[.int .i64 8, .string a, .int .i64 0, .int .i64 0, .int .i64 0, .int .i64 0, .bool false, .int .i64 k, .string s, .int .i64 0, .int .i64 0, .int .i64 0, .int .i64 0, .bool false, .int .i64 8, .string b, .int .i64 0, .int .i64 0, .int .i64 0, .int .i64 0, .bool false] 39)) fun e W' => e = .returned (.tuple #[]) ∧ ∃ v', TSt B bl T c W' v' (ts ++ [⟨8, a.data.toList, 0⟩, ⟨k, s.data.toList, 0⟩, ⟨8, b.data.toList, 0⟩]) ∧ TFr T bl w W' v v' := by
  have hA : Below w.heap.size w (w.alloc (.cells #[.int .i64 8, .string a, .int .i64 0, .int .i64 0, .int .i64 0, .int .i64 0, .bool false, .int .i64 k, .string s, .int .i64 0, .int .i64 0, .int .i64 0, .int .i64 0, .bool false, .int .i64 8, .string b, .int .i64 0, .int .i64 0, .int .i64 0, .int .i64 0, .bool false] 39)) := (Below.refl _ w).alloc (Nat.le_refl _) _
  refine (put_c B bl T c ts [⟨8, a.data.toList, 0⟩, ⟨k, s.data.toList, 0⟩, ⟨8, b.data.toList, 0⟩] v w.heap.size 3 _ (h.below hA) rfl (news3 w k s a b) hb).mono ?_
  rintro e W' ⟨rfl, v', h1, h2⟩
  exact ⟨rfl, v', h1, (tfr_below hA v).trans h2⟩
/-- A name that is an operator, in parentheses; an operator that is a name, in back quotes. -/
def nmP (s : ByteArray) : List TkT := [⟨8, [40], 0⟩, ⟨lkM s, s.data.toList, 0⟩, ⟨8, [41], 0⟩]
def opQ (s : ByteArray) : List TkT := [⟨8, [96], 0⟩, ⟨lkM s, s.data.toList, 0⟩, ⟨8, [96], 0⟩]
set_option maxRecDepth 100000 in
set_option maxHeartbeats 4000000 in
theorem nameP_t (B bl T c : Nat) (ts : List TkT) (v : Value) (s : ByteArray) (hs : s.size ≤ 9223372036854775807) (hsym : isSymB (lkM s) = true) (hc : c ≤ 4611686018427387904) (w : World) (h : TSt B bl T c w v ts) (hb : ts.length + 3 ≤ 1000000000) :
    Calls Tryz.prog 87 #[.pointer (some ⟨T, 0, none⟩), .string s] w fun e W' => e = .returned (.tuple #[]) ∧ ∃ v', TSt B bl T (c + 1) W' v' (ts ++ nmP s) ∧ TFr T bl w W' v v' := by
  have HK : Hid (Calls Tryz.prog 133 #[.map (some bl), .string s] w fun e W' => e = .returned (.int .i64 (lkM s)) ∧ But bl w W' ∧ LexSt W' bl (c + 1)) := kind_c s hs bl c hc w h.2.1 h.2.2.1
  have HN : Hid (nmP s = [⟨8, [40], 0⟩, ⟨lkM s, s.data.toList, 0⟩, ⟨8, [41], 0⟩]) := rfl
  have HM : Hid (∀ (s : ByteArray) (X : World), Calls Tryz.prog 91 #[.string s] X fun e w' => e = .returned (.agg #[.int .i64 8, .string s, .int .i64 0, .int .i64 0, .int .i64 0, .int .i64 0, .bool false]) ∧ Below X.heap.size X w') := mark_c
  have HP : Hid (∀ (X : World) (v : Value), TSt B bl T (c + 1) X v ts → Calls Tryz.prog 85 #[.pointer (some ⟨T, 0, none⟩), .slice (some ⟨X.heap.size, 0, none⟩) 3 3] (X.alloc (.cells #[.int .i64 8, .string ⟨#[40]⟩, .int .i64 0, .int .i64 0, .int .i64 0, .int .i64 0, .bool false, .int .i64 (lkM s), .string s, .int .i64 0, .int .i64 0, .int .i64 0, .int .i64 0, .bool false, .int .i64 8, .string ⟨#[41]⟩, .int .i64 0, .int .i64 0, .int .i64 0, .int .i64 0, .bool false] 39)) fun e W' => e = .returned (.tuple #[]) ∧ ∃ v', TSt B bl T (c + 1) W' v' (ts ++ [⟨8, [40], 0⟩, ⟨lkM s, s.data.toList, 0⟩, ⟨8, [41], 0⟩]) ∧ TFr T bl X W' v v') := fun X v hX => put3_c B bl T (c + 1) ts v (lkM s) s ⟨#[40]⟩ ⟨#[41]⟩ X hX hb
  have HS : Hid (TSt B bl T c w v ts) := h
  have c0 : w.cell? ⟨T, 0, none⟩ = some (.map (some bl)) := h.2.2.2.1.cell 0 _ rfl
  have hT := h.lt
  generalize lkM s = kd at HK HP HN hsym
  have HY : Hid (∀ X : World, Calls Tryz.prog 137 #[.int .i64 kd] X fun e w' => e = .returned (.bool true) ∧ w' = X) := fun X => by have := isSym_c kd X; rw [hsym] at this; exact this
  clear h hs hc hb hsym
  go_enter Tryz.func87, Tryz.ntmps87
  go_wp2_with (go_at_call 133; fail)
  refine HK.out.mono ?_
  rintro e w1 ⟨rfl, hb1, hl1⟩
  have H1 : Hid (TSt B bl T (c + 1) w1 v ts) := HS.out.but hb1 hl1
  have F1 : Hid (TFr T bl w w1 v v) := tfr_but hb1 v
  clear hb1 hl1 c0 hT
  obtain ⟨V, hV⟩ : ∃ V, w1.alloc (.cells #[.int .i64 kd, .string s, .int .i64 0, .int .i64 0, .int .i64 0, .int .i64 0, .bool false] 39) = V := ⟨_, rfl⟩
  have hVb : Below w1.heap.size w1 V := by rw [← hV]; exact (Below.refl _ _).alloc (Nat.le_refl _) _
  have hBx : Blk V w1.heap.size #[.int .i64 kd, .string s, .int .i64 0, .int .i64 0, .int .i64 0, .int .i64 0, .bool false] 39 := by rw [← hV]; exact Blk.new w1 _ _
  have HBx : Hid (Blk V w1.heap.size #[.int .i64 kd, .string s, .int .i64 0, .int .i64 0, .int .i64 0, .int .i64 0, .bool false] 39) := hBx
  have H2 : Hid (TSt B bl T (c + 1) V v ts) := H1.out.below hVb
  have F2 : Hid (TFr T bl w V v v) := F1.out.trans (tfr_below hVb v)
  obtain ⟨b0, b1, b2, b3, b4, b5, b6, -⟩ := hBx.all7
  have hlV := hBx.lt
  have HVe : Hid (w1.alloc (.cells #[.int .i64 kd, .string s, .int .i64 0, .int .i64 0, .int .i64 0, .int .i64 0, .bool false] 39) = V) := hV
  clear hVb hBx hV
  go_wp2_with (go_at_call 137; fail)
  refine (HY.out _).mono ?_
  rintro e w2 ⟨rfl, rfl⟩
  rw [HVe.out]
  go_upto_region 2 with fail
  go_region_with (first | (go_at_call 91; refine (HM.out _ _).mono ?_; (first | (rintro e wb ⟨rfl, hbb⟩; have Bb : Hid (Below V.heap.size V wb) := Ba.out.trans (hbb.mono Ba.out.size); obtain ⟨b0, b1, b2, b3, b4, b5, b6, -⟩ := (HBx.out.below Bb.out).all7; have lb := (HBx.out.below Bb.out).lt; clear hbb) | (rintro e wa ⟨rfl, hba⟩; have Ba : Hid (Below V.heap.size V wa) := (by first | exact hba | exact ((Below.refl V.heap.size V).drew).trans hba); obtain ⟨a0, a1, a2, a3, a4, a5, a6, -⟩ := (HBx.out.below Ba.out).all7; have la := (HBx.out.below Ba.out).lt; clear hba))) | (go_at_call 85; refine (HP.out wb v (H2.out.below Bb.out)).mono ?_; rintro e w3 ⟨rfl, v', h3, f3⟩; have H3 : Hid (TSt B bl T (c + 1) w3 v' _) := h3; have F3 : Hid (TFr T bl w w3 v v') := (F2.out.trans (tfr_below Bb.out v)).trans f3; clear h3 f3))
  all_goals go_wp2
  all_goals rw [HN.out]
  all_goals (first | (go_end0; exact ⟨rfl, v', H3.out, F3.out⟩) | exact bodyPost_ret (v := .tuple #[]) (by simp [results, Tryz.results87, go_sem]) rfl ⟨rfl, v', H3.out, F3.out⟩)
set_option maxRecDepth 100000 in
set_option maxHeartbeats 4000000 in
theorem operQ_t (B bl T c : Nat) (ts : List TkT) (v : Value) (s : ByteArray) (hs : s.size ≤ 9223372036854775807) (hsym : isSymB (lkM s) = false) (hc : c ≤ 4611686018427387904) (w : World) (h : TSt B bl T c w v ts) (hb : ts.length + 3 ≤ 1000000000) :
    Calls Tryz.prog 92 #[.pointer (some ⟨T, 0, none⟩), .string s] w fun e W' => e = .returned (.tuple #[]) ∧ ∃ v', TSt B bl T (c + 1) W' v' (ts ++ opQ s) ∧ TFr T bl w W' v v' := by
  have HK : Hid (Calls Tryz.prog 133 #[.map (some bl), .string s] w fun e W' => e = .returned (.int .i64 (lkM s)) ∧ But bl w W' ∧ LexSt W' bl (c + 1)) := kind_c s hs bl c hc w h.2.1 h.2.2.1
  have HN : Hid (opQ s = [⟨8, [96], 0⟩, ⟨lkM s, s.data.toList, 0⟩, ⟨8, [96], 0⟩]) := rfl
  have HM : Hid (∀ (s : ByteArray) (X : World), Calls Tryz.prog 91 #[.string s] X fun e w' => e = .returned (.agg #[.int .i64 8, .string s, .int .i64 0, .int .i64 0, .int .i64 0, .int .i64 0, .bool false]) ∧ Below X.heap.size X w') := mark_c
  have HP : Hid (∀ (X : World) (v : Value), TSt B bl T (c + 1) X v ts → Calls Tryz.prog 85 #[.pointer (some ⟨T, 0, none⟩), .slice (some ⟨X.heap.size, 0, none⟩) 3 3] (X.alloc (.cells #[.int .i64 8, .string ⟨#[96]⟩, .int .i64 0, .int .i64 0, .int .i64 0, .int .i64 0, .bool false, .int .i64 (lkM s), .string s, .int .i64 0, .int .i64 0, .int .i64 0, .int .i64 0, .bool false, .int .i64 8, .string ⟨#[96]⟩, .int .i64 0, .int .i64 0, .int .i64 0, .int .i64 0, .bool false] 39)) fun e W' => e = .returned (.tuple #[]) ∧ ∃ v', TSt B bl T (c + 1) W' v' (ts ++ [⟨8, [96], 0⟩, ⟨lkM s, s.data.toList, 0⟩, ⟨8, [96], 0⟩]) ∧ TFr T bl X W' v v') := fun X v hX => put3_c B bl T (c + 1) ts v (lkM s) s ⟨#[96]⟩ ⟨#[96]⟩ X hX hb
  have HS : Hid (TSt B bl T c w v ts) := h
  have c0 : w.cell? ⟨T, 0, none⟩ = some (.map (some bl)) := h.2.2.2.1.cell 0 _ rfl
  have hT := h.lt
  generalize lkM s = kd at HK HP HN hsym
  have HY : Hid (∀ X : World, Calls Tryz.prog 137 #[.int .i64 kd] X fun e w' => e = .returned (.bool false) ∧ w' = X) := fun X => by have := isSym_c kd X; rw [hsym] at this; exact this
  clear h hs hc hb hsym
  go_enter Tryz.func92, Tryz.ntmps92
  go_wp2_with (go_at_call 133; fail)
  refine HK.out.mono ?_
  rintro e w1 ⟨rfl, hb1, hl1⟩
  have H1 : Hid (TSt B bl T (c + 1) w1 v ts) := HS.out.but hb1 hl1
  have F1 : Hid (TFr T bl w w1 v v) := tfr_but hb1 v
  clear hb1 hl1 c0 hT
  obtain ⟨V, hV⟩ : ∃ V, w1.alloc (.cells #[.int .i64 kd, .string s, .int .i64 0, .int .i64 0, .int .i64 0, .int .i64 0, .bool false] 39) = V := ⟨_, rfl⟩
  have hVb : Below w1.heap.size w1 V := by rw [← hV]; exact (Below.refl _ _).alloc (Nat.le_refl _) _
  have hBx : Blk V w1.heap.size #[.int .i64 kd, .string s, .int .i64 0, .int .i64 0, .int .i64 0, .int .i64 0, .bool false] 39 := by rw [← hV]; exact Blk.new w1 _ _
  have HBx : Hid (Blk V w1.heap.size #[.int .i64 kd, .string s, .int .i64 0, .int .i64 0, .int .i64 0, .int .i64 0, .bool false] 39) := hBx
  have H2 : Hid (TSt B bl T (c + 1) V v ts) := H1.out.below hVb
  have F2 : Hid (TFr T bl w V v v) := F1.out.trans (tfr_below hVb v)
  obtain ⟨b0, b1, b2, b3, b4, b5, b6, -⟩ := hBx.all7
  have hlV := hBx.lt
  have HVe : Hid (w1.alloc (.cells #[.int .i64 kd, .string s, .int .i64 0, .int .i64 0, .int .i64 0, .int .i64 0, .bool false] 39) = V) := hV
  clear hVb hBx hV
  go_wp2_with (go_at_call 137; fail)
  refine (HY.out _).mono ?_
  rintro e w2 ⟨rfl, rfl⟩
  rw [HVe.out]
  go_upto_region 3 with fail
  go_region_with (first | (go_at_call 91; refine (HM.out _ _).mono ?_; (first | (rintro e wb ⟨rfl, hbb⟩; have Bb : Hid (Below V.heap.size V wb) := Ba.out.trans (hbb.mono Ba.out.size); obtain ⟨b0, b1, b2, b3, b4, b5, b6, -⟩ := (HBx.out.below Bb.out).all7; have lb := (HBx.out.below Bb.out).lt; clear hbb) | (rintro e wa ⟨rfl, hba⟩; have Ba : Hid (Below V.heap.size V wa) := (by first | exact hba | exact ((Below.refl V.heap.size V).drew).trans hba); obtain ⟨a0, a1, a2, a3, a4, a5, a6, -⟩ := (HBx.out.below Ba.out).all7; have la := (HBx.out.below Ba.out).lt; clear hba))) | (go_at_call 85; refine (HP.out wb v (H2.out.below Bb.out)).mono ?_; rintro e w3 ⟨rfl, v', h3, f3⟩; have H3 : Hid (TSt B bl T (c + 1) w3 v' _) := h3; have F3 : Hid (TFr T bl w w3 v v') := (F2.out.trans (tfr_below Bb.out v)).trans f3; clear h3 f3))
  all_goals go_wp2
  all_goals rw [HN.out]
  all_goals (first | (go_end0; exact ⟨rfl, v', H3.out, F3.out⟩) | exact bodyPost_ret (v := .tuple #[]) (by simp [results, Tryz.results92, go_sem]) rfl ⟨rfl, v', H3.out, F3.out⟩)
end Go.Proofs.YtndpebkiiemfpaaGreatDoor

namespace Go.Proofs.YtndpebkiiemfpaaGreatDoor
open Go.RowKit Go.Shelf Go.Maps
set_option linter.unusedVariables false

/-- Parts with a token between them. -/
def jpT (outF : Nd → List TkT) (b : TkT) : List Nd → List TkT
  | [] => []
  | x :: r => outF x ++ r.flatMap (fun y => b :: outF y)
theorem jn_take (outF : Nd → List TkT) (b : TkT) (l : List Nd) (k : Nat) (h : k < l.length) : jpT outF b (l.take (k + 1)) = (jpT outF b (l.take k) ++ (if k = 0 then [] else [b])) ++ outF l[k] := by
  cases l with
  | nil => cases h
  | cons x r =>
    cases k with
    | zero => simp [jpT]
    | succ k =>
      have h' : k < r.length := by simpa using h
      show outF x ++ (r.take (k + 1)).flatMap (fun y => b :: outF y) = _
      rw [flat_take _ r k h', if_neg (by omega)]
      show _ = ((outF x ++ (r.take k).flatMap (fun y => b :: outF y)) ++ [b]) ++ outF r[k]
      simp
theorem jn_take_le (outF : Nd → List TkT) (b : TkT) (l : List Nd) (k : Nat) : (jpT outF b (l.take k)).length ≤ (jpT outF b l).length := by
  cases l with
  | nil => simp
  | cons x r =>
    cases k with
    | zero => simp [jpT]
    | succ k =>
      show (outF x ++ (r.take k).flatMap (fun y => b :: outF y)).length ≤ (outF x ++ r.flatMap (fun y => b :: outF y)).length
      rw [List.length_append, List.length_append]
      have := flat_take_le (fun y => b :: outF y) r k
      omega
theorem cast_t (k : Nat) : Value.int IntKind.i64 ((k : Int) + 1) = Value.int IntKind.i64 ((k + 1 : Nat) : Int) := by
  have h : ((k + 1 : Nat) : Int) = (k : Int) + 1 := by omega
  rw [h]
theorem meas_t (k n : Nat) (h : k < n) : n - (intOf (Value.int IntKind.i64 ((k : Int) + 1))).toNat < n - (intOf (Value.int IntKind.i64 (k : Int))).toNat := by
  show n - ((k : Int) + 1).toNat < n - ((k : Int)).toNat
  omega
def PartOK (B bl T : Nat) (l : List Nd) (b : TkT) (out : List TkT) (k : Nat) : Prop := ∀ (ts : List TkT) (v : Value) (c : Nat) (w : World) (o : Option Addr) (cap : Nat), KIn w B o l → l.length ≤ cap → cap ≤ 9223372036854775807 → TSt B bl T c w v ts → c + k ≤ 4611686018427387904 → ts.length + out.length ≤ 1000000000 →
  Calls Tryz.prog 89 #[.pointer (some ⟨T, 0, none⟩), .slice o l.length cap, tV b] w fun e W' => e = .returned (.tuple #[]) ∧ ∃ v', TSt B bl T (c + k) W' v' (ts ++ out) ∧ TFr T bl w W' v v'
set_option maxRecDepth 100000 in
set_option maxHeartbeats 4000000 in
theorem parted_ok {B bl T : Nat} {l : List Nd} (outF : Nd → List TkT) (kF : Nd → Nat) (b : TkT) (h : ∀ x ∈ l, TellOK B bl T 23 x (outF x) (kF x)) : PartOK B bl T l b (jpT outF b l) ((l.map kF).sum) := by
  intro ts v c w o cap hK hc1 hc2 hS hc hl
  obtain ⟨L, hL⟩ : ∃ L, l.length = L := ⟨_, rfl⟩
  have HL : Hid (l.length = L) := hL
  have HH : Hid (∀ x ∈ l, TellOK B bl T 23 x (outF x) (kF x)) := h
  have HK : Hid (KIn w B o l) := hK
  have HC : Hid (c + (l.map kF).sum ≤ 4611686018427387904) := hc
  have Hl : Hid (ts.length + (jpT outF b l).length ≤ 1000000000) := hl
  have hLi : (L : Int) ≤ 9223372036854775807 := by omega
  have HBw : Hid (∀ (W : World) (v' : Value), TFr T bl w W v v' → Below B w W) := fun W v' hf => hf.below hS
  obtain ⟨V, hV⟩ : ∃ V, w.alloc (.cells #[.int .i64 b.kind, .string (bs b.text), .int .i64 b.num, .int .i64 0, .int .i64 0, .int .i64 0, .bool false] 39) = V := ⟨_, rfl⟩
  have hVb : Below w.heap.size w V := by rw [← hV]; exact (Below.refl _ _).alloc (Nat.le_refl _) _
  have hBx : Blk V w.heap.size #[.int .i64 b.kind, .string (bs b.text), .int .i64 b.num, .int .i64 0, .int .i64 0, .int .i64 0, .bool false] 39 := by rw [← hV]; exact Blk.new w _ _
  have HS : Hid (TSt B bl T (c + 0) V v ts) := hS.below hVb
  have HF : Hid (TFr T bl w V v v) := tfr_below hVb v
  have hx1 := hS.lt
  have hx2 := hS.1
  have hx3 : ∀ g, v.ownBlock = some g → g < w.heap.size := fun g hg => (hS.row_lt g hg).2
  have HX : Hid (T < w.heap.size ∧ bl < w.heap.size) := ⟨hx1, by omega⟩
  have HOv : Hid (v.ownBlock ≠ some w.heap.size) := fun e => by have := hx3 _ e; omega
  have HBX : Hid (Blk V w.heap.size #[.int .i64 b.kind, .string (bs b.text), .int .i64 b.num, .int .i64 0, .int .i64 0, .int .i64 0, .bool false] 39) := hBx
  have HVe : Hid (w.alloc (.cells #[.int .i64 b.kind, .string (bs b.text), .int .i64 b.num, .int .i64 0, .int .i64 0, .int .i64 0, .bool false] 39) = V) := hV
  rw [hL]
  unfold tV
  clear h hK hS hc hl hc1 hc2 hL hV hVb hBx hx1 hx2 hx3
  go_enter Tryz.func89, Tryz.ntmps89
  go_wp2
  rw [HVe.out]
  go_loopw [10] (fun i wr => ∃ (k : Nat) (v1 : Value), k ≤ L ∧ i = .int .i64 k ∧ Hid (TSt B bl T (c + ((l.take k).map kF).sum) wr v1 (ts ++ jpT outF b (l.take k))) ∧ Hid (TFr T bl V wr v v1)) (fun i _ => L - (intOf i).toNat)
  case atStart => exact ⟨0, v, Nat.zero_le _, rfl, by show TSt _ _ _ _ _ _ _; simpa [jpT] using HS.out, TFr.refl _ _ _ _⟩
  case round =>
    obtain ⟨k, v1, hk, rfl, hS1, hF1⟩ := hrel
    by_cases hlt : k < L
    · have hkL : k < l.length := by rw [HL.out]; exact hlt
      have hki : (k : Int) < (L : Int) := by omega
      have Hk : Hid (k < L) := hlt
      have hFw := HF.out.trans hF1.out
      have hBw : Below B w wr := HBw.out _ _ hFw
      obtain ⟨g, off, rfl, hg, hKA⟩ := (HK.out.below hBw).at k hkL
      obtain ⟨o2, cap2, k0, k1, k2, k3, k4, hNk⟩ := kid_in (hKA.get l g off k hkL)
      have hgr : g < wr.heap.size := by have := hS1.out.lt; have := hS1.out.1; omega
      have hst := sum_take kF l k hkL
      have hsl := sum_take_le kF l (k + 1)
      have hjt := jn_take outF b l k hkL
      have hjl := jn_take_le outF b l (k + 1)
      have hmem := List.getElem_mem hkL
      obtain ⟨nd, hnd⟩ : ∃ nd, l[k] = nd := ⟨_, rfl⟩
      rw [hnd] at k0 k1 k2 k3 k4 hNk hst hjt hmem
      obtain ⟨ts1, hts1⟩ : ∃ ts1, ts ++ jpT outF b (l.take k) = ts1 := ⟨_, rfl⟩
      obtain ⟨sep, hsep⟩ : ∃ sep : List TkT, (if k = 0 then [] else [b]) = sep := ⟨_, rfl⟩
      rw [hsep] at hjt
      have hE : ts ++ jpT outF b (l.take (k + 1)) = (ts1 ++ sep) ++ outF nd := by rw [hjt, ← hts1]; simp
      have hlen : ts1.length + (sep.length + (outF nd).length) ≤ 1000000000 := by
        have h3 := Hl.out
        have h4 := congrArg List.length hE
        simp only [List.length_append] at h4
        omega
      obtain ⟨cs, hcs⟩ : ∃ cs, c + ((l.take k).map kF).sum = cs := ⟨_, rfl⟩
      have hC2 : c + ((l.take (k + 1)).map kF).sum = cs + kF nd := by rw [hst, ← hcs]; omega
      have hC3 : cs + kF nd ≤ 4611686018427387904 := by have := HC.out; omega
      have S1 : Hid (TSt B bl T cs wr v1 ts1) := by show TSt _ _ _ _ _ _ _; rw [← hcs, ← hts1]; exact hS1.out
      have HE : Hid (ts ++ jpT outF b (l.take (k + 1)) = (ts1 ++ sep) ++ outF nd ∧ c + ((l.take (k + 1)).map kF).sum = cs + kF nd) := ⟨hE, hC2⟩
      have hxT := HX.out
      have hv : v.ownBlock ≠ some w.heap.size := HOv.out
      have hBt : Blk wr w.heap.size #[.int .i64 b.kind, .string (bs b.text), .int .i64 b.num, .int .i64 0, .int .i64 0, .int .i64 0, .bool false] 39 := HBX.out.tfr hF1.out (by omega) (by omega) hv
      have HBt : Hid (Blk wr w.heap.size #[.int .i64 b.kind, .string (bs b.text), .int .i64 b.num, .int .i64 0, .int .i64 0, .int .i64 0, .bool false] 39) := hBt
      obtain ⟨W1, hW1⟩ : ∃ W1, wr.alloc (.cells #[.int .i64 nd.kind, .string (bs nd.name), .int .i64 nd.num, .slice o2 nd.kids.length cap2, .int .i64 nd.pos] 24) = W1 := ⟨_, rfl⟩
      have hb1 : Below wr.heap.size wr W1 := by rw [← hW1]; exact (Below.refl _ _).alloc (Nat.le_refl _) _
      have hBn : Blk W1 wr.heap.size #[.int .i64 nd.kind, .string (bs nd.name), .int .i64 nd.num, .slice o2 nd.kids.length cap2, .int .i64 nd.pos] 24 := by rw [← hW1]; exact Blk.new wr _ _
      have HW1 : Hid (wr.alloc (.cells #[.int .i64 nd.kind, .string (bs nd.name), .int .i64 nd.num, .slice o2 nd.kids.length cap2, .int .i64 nd.pos] 24) = W1) := hW1
      have SW1 : Hid (TSt B bl T cs W1 v1 ts1) := S1.out.below hb1
      have FW1 : Hid (TFr T bl V W1 v v1) := hF1.out.trans (tfr_below hb1 v1)
      have hTl := S1.out.lt
      have hT1 := S1.out.1
      have HNo : Hid (∀ (X : World) (vx : Value) (tx : List TkT), TSt B bl T cs X vx tx → TFr T bl W1 X v1 vx → tx.length + (outF nd).length ≤ 1000000000 → Calls Tryz.prog 23 #[.pointer (some ⟨T, 0, none⟩), .agg #[.int .i64 nd.kind, .string (bs nd.name), .int .i64 nd.num, .slice o2 nd.kids.length cap2, .int .i64 nd.pos]] X fun e W' => e = .returned (.tuple #[]) ∧ ∃ v', TSt B bl T (cs + kF nd) W' v' (tx ++ outF nd) ∧ TFr T bl X W' vx v') := fun X vx tx hX hfx hlx =>
        HH.out nd hmem tx vx cs X o2 cap2 (hNk.below ((hb1.mono (by omega)).trans (hfx.below SW1.out))) hX hC3 hlx
      have hvn : v1.ownBlock ≠ some wr.heap.size := by
        intro e
        have := (S1.out.row_lt _ e).2
        omega
      have HNd : Hid (∀ (X : World) (vx : Value), TFr T bl W1 X v1 vx → Blk X wr.heap.size #[.int .i64 nd.kind, .string (bs nd.name), .int .i64 nd.num, .slice o2 nd.kids.length cap2, .int .i64 nd.pos] 24) := fun X vx hf => hBn.tfr hf (by omega) (by omega) hvn
      have HLn : Hid (ts1.length + (sep.length + (outF nd).length) ≤ 1000000000) := hlen
      obtain ⟨t0, t1, t2, t3, t4, t5, t6, -⟩ := hBt.all7
      have ltb := hBt.lt
      obtain ⟨n0, n1, n2, n3, n4⟩ : W1.cell? ⟨wr.heap.size, 0, none⟩ = some (.int .i64 nd.kind) ∧ W1.cell? ⟨wr.heap.size, 1, none⟩ = some (.string (bs nd.name)) ∧ W1.cell? ⟨wr.heap.size, 2, none⟩ = some (.int .i64 nd.num) ∧ W1.cell? ⟨wr.heap.size, 3, none⟩ = some (.slice o2 nd.kids.length cap2) ∧ W1.cell? ⟨wr.heap.size, 4, none⟩ = some (.int .i64 nd.pos) := ⟨hBn.cell 0 _ rfl, hBn.cell 1 _ rfl, hBn.cell 2 _ rfl, hBn.cell 3 _ rfl, hBn.cell 4 _ rfl⟩
      have lnb := hBn.lt
      clear hFw hBw hKA hNk hst hsl hjt hjl hmem hE hlen hcs hC2 hC3 hts1 hS1 hF1 hBt hb1 hBn hW1 hTl hT1 hvn hkL hnd hxT hv hk hlt
      by_cases hz : k = 0
      · have hkz : (k : Int) ≤ 0 := by omega
        obtain rfl : sep = [] := by rw [← hsep, if_pos hz]
        clear hsep hz t0 t1 t2 t3 t4 t5 t6 ltb
        go_wp2_with (go_at_call 23; fail)
        rw [HW1.out]
        refine (HNo.out W1 v1 ts1 SW1.out (TFr.refl _ _ _ _) (by have := HLn.out; simp only [List.length_nil] at this; omega)).mono ?_
        rintro e w2 ⟨rfl, v2, s2, f2⟩
        have S2 : Hid (TSt B bl T (c + ((l.take (k + 1)).map kF).sum) w2 v2 (ts ++ jpT outF b (l.take (k + 1)))) := by
          show TSt _ _ _ _ _ _ _
          rw [HE.out.1, HE.out.2, List.append_nil]
          exact s2
        have F2 : Hid (TFr T bl V w2 v v2) := FW1.out.trans f2
        clear s2 f2 k0 k1 k2 k3 k4 n0 n1 n2 n3 n4 lnb hgr HNo HNd SW1 FW1 S1 HBt
        go_wp2
        exact ⟨⟨k + 1, v2, Hk.out, cast_t k, S2, F2⟩, meas_t k L Hk.out⟩
      · have hkp : (0 : Int) < (k : Int) := by omega
        obtain rfl : sep = [b] := by rw [← hsep, if_neg hz]
        have HPu : Hid (Calls Tryz.prog 85 #[.pointer (some ⟨T, 0, none⟩), .slice (some ⟨wr.heap.size + 1, 0, none⟩) 1 1] (W1.alloc (.cells #[.int .i64 b.kind, .string (bs b.text), .int .i64 b.num, .int .i64 0, .int .i64 0, .int .i64 0, .bool false] 39)) fun e W' => e = .returned (.tuple #[]) ∧ ∃ v', TSt B bl T cs W' v' (ts1 ++ [b]) ∧ TFr T bl W1 W' v1 v') := by
          have h := put1_c B bl T cs ts1 v1 b.kind (bs b.text) b.num W1 SW1.out (by have := HLn.out; simp only [List.length_cons, List.length_nil] at this; omega)
          have e1 : W1.heap.size = wr.heap.size + 1 := by rw [← HW1.out]; simp
          have e2 : (⟨b.kind, (bs b.text).data.toList, b.num⟩ : TkT) = b := by cases b; simp [bs]
          rw [e1, e2] at h
          exact h
        clear hsep hz
        go_wp2_with (go_at_call 85; fail)
        rw [HW1.out]
        refine HPu.out.mono ?_
        rintro e w2 ⟨rfl, v2, s2, f2⟩
        have hBn2 := HNd.out w2 v2 f2
        have q0 := hBn2.cell 0 _ rfl
        have q1 := hBn2.cell 1 _ rfl
        have q2 := hBn2.cell 2 _ rfl
        have q3 := hBn2.cell 3 _ rfl
        have q4 := hBn2.cell 4 _ rfl
        have lq := hBn2.lt
        have HNo2 : Hid (Calls Tryz.prog 23 #[.pointer (some ⟨T, 0, none⟩), .agg #[.int .i64 nd.kind, .string (bs nd.name), .int .i64 nd.num, .slice o2 nd.kids.length cap2, .int .i64 nd.pos]] w2 fun e W' => e = .returned (.tuple #[]) ∧ ∃ v', TSt B bl T (cs + kF nd) W' v' ((ts1 ++ [b]) ++ outF nd) ∧ TFr T bl w2 W' v2 v') := HNo.out w2 v2 (ts1 ++ [b]) s2 f2 (by have := HLn.out; simp only [List.length_append, List.length_cons, List.length_nil] at this ⊢; omega)
        have FW2 : Hid (TFr T bl V w2 v v2) := FW1.out.trans f2
        clear hBn2 s2 f2 k0 k1 k2 k3 k4 n0 n1 n2 n3 n4 lnb hgr HNo HNd SW1 FW1 S1 HBt HPu t0 t1 t2 t3 t4 t5 t6 ltb
        go_wp2_with (go_at_call 23; fail)
        refine HNo2.out.mono ?_
        rintro e w3 ⟨rfl, v3, s3, f3⟩
        have S2 : Hid (TSt B bl T (c + ((l.take (k + 1)).map kF).sum) w3 v3 (ts ++ jpT outF b (l.take (k + 1)))) := by
          show TSt _ _ _ _ _ _ _
          rw [HE.out.1, HE.out.2]
          exact s3
        have F2 : Hid (TFr T bl V w3 v v3) := FW2.out.trans f3
        clear s3 f3 q0 q1 q2 q3 q4 lq HNo2 FW2
        go_wp2
        exact ⟨⟨k + 1, v3, Hk.out, cast_t k, S2, F2⟩, meas_t k L Hk.out⟩
    · obtain rfl : k = L := by omega
      have SF := hS1.out
      rw [List.take_of_length_le (by rw [HL.out]; exact Nat.le_refl _)] at SF
      have S2 : Hid (TSt B bl T (c + (l.map kF).sum) wr v1 (ts ++ jpT outF b l)) := SF
      have F2 : Hid (TFr T bl w wr v v1) := HF.out.trans hF1.out
      clear SF hS1 hF1
      go_wp2
      go_end0
      exact ⟨rfl, v1, S2.out, F2.out⟩

end Go.Proofs.YtndpebkiiemfpaaGreatDoor

namespace Go.Proofs.YtndpebkiiemfpaaGreatDoor
open Go.RowKit Go.Shelf Go.Maps
set_option linter.unusedVariables false

def mkT (s : ByteArray) : TkT := ⟨8, s.data.toList, 0⟩
def coT : TkT := ⟨8, [44], 0⟩
def EnclOK (B bl T : Nat) (f t : ByteArray) (l : List Nd) (out : List TkT) (k : Nat) : Prop := ∀ (ts : List TkT) (v : Value) (c : Nat) (w : World) (o : Option Addr) (cap : Nat), KIn w B o l → l.length ≤ cap → cap ≤ 9223372036854775807 → TSt B bl T c w v ts → c + k ≤ 4611686018427387904 → ts.length + out.length ≤ 1000000000 →
  Calls Tryz.prog 99 #[.pointer (some ⟨T, 0, none⟩), .string f, .slice o l.length cap, .string t] w fun e W' => e = .returned (.tuple #[]) ∧ ∃ v', TSt B bl T (c + k) W' v' (ts ++ out) ∧ TFr T bl w W' v v'
set_option maxRecDepth 100000 in
set_option maxHeartbeats 4000000 in
theorem enclosed_ok {B bl T : Nat} {l : List Nd} (f t : ByteArray) {out : List TkT} {k : Nat} (h : PartOK B bl T l coT out k) : EnclOK B bl T f t l (mkT f :: (out ++ [mkT t])) k := by
  intro ts v c w o cap hK hc1 hc2 hS hc hl
  have hl' : ts.length + (out.length + 2) ≤ 1000000000 := by simp only [List.length_cons, List.length_append, List.length_nil] at hl; omega
  have HM : Hid (∀ (s : ByteArray) (X : World), Calls Tryz.prog 91 #[.string s] X fun e w' => e = .returned (.agg #[.int .i64 8, .string s, .int .i64 0, .int .i64 0, .int .i64 0, .int .i64 0, .bool false]) ∧ Below X.heap.size X w') := mark_c
  have HP : Hid (∀ (s : ByteArray) (cc : Nat) (tx : List TkT) (vx : Value) (X : World), TSt B bl T cc X vx tx → tx.length + 1 ≤ 1000000000 → Calls Tryz.prog 85 #[.pointer (some ⟨T, 0, none⟩), .slice (some ⟨X.heap.size, 0, none⟩) 1 1] (X.alloc (.cells #[.int .i64 8, .string s, .int .i64 0, .int .i64 0, .int .i64 0, .int .i64 0, .bool false] 39)) fun e W' => e = .returned (.tuple #[]) ∧ ∃ v', TSt B bl T cc W' v' (tx ++ [mkT s]) ∧ TFr T bl X W' vx v') := fun s cc tx vx X hX hb => put1_c B bl T cc tx vx 8 s 0 X hX hb
  have HQ : Hid (∀ (X : World) (vx : Value), TSt B bl T c X vx (ts ++ [mkT f]) → Below B w X → Calls Tryz.prog 89 #[.pointer (some ⟨T, 0, none⟩), .slice o l.length cap, .agg #[.int .i64 8, .string ⟨#[44]⟩, .int .i64 0, .int .i64 0, .int .i64 0, .int .i64 0, .bool false]] X fun e W' => e = .returned (.tuple #[]) ∧ ∃ v', TSt B bl T (c + k) W' v' ((ts ++ [mkT f]) ++ out) ∧ TFr T bl X W' vx v') := fun X vx hX hb => h (ts ++ [mkT f]) vx c X o cap (hK.below hb) hc1 hc2 hX hc (by simp only [List.length_append, List.length_cons, List.length_nil]; omega)
  have HS : Hid (TSt B bl T c w v ts) := hS
  have HL : Hid (ts.length + (out.length + 2) ≤ 1000000000) := hl'
  have HBw : Hid (∀ (W : World) (v' : Value), TFr T bl w W v v' → Below B w W) := fun W v' hf => hf.below hS
  generalize l.length = L at hc1 HQ ⊢
  clear h hK hS hc hl hl' hc1 hc2
  go_enter Tryz.func99, Tryz.ntmps99
  go_wp2_with (go_at_call 91; fail)
  refine (HM.out _ _).mono ?_
  rintro e w1 ⟨rfl, hb1⟩
  have HC1 : Hid (Calls Tryz.prog 85 #[.pointer (some ⟨T, 0, none⟩), .slice (some ⟨w1.heap.size, 0, none⟩) 1 1] (w1.alloc (.cells #[.int .i64 8, .string f, .int .i64 0, .int .i64 0, .int .i64 0, .int .i64 0, .bool false] 39)) fun e W' => e = .returned (.tuple #[]) ∧ ∃ v', TSt B bl T c W' v' (ts ++ [mkT f]) ∧ TFr T bl w1 W' v v') := HP.out f c ts v w1 (HS.out.below hb1) (by have := HL.out; omega)
  have F1 : Hid (TFr T bl w w1 v v) := tfr_below hb1 v
  clear hb1
  go_wp2_with (go_at_call 85; fail)
  refine HC1.out.mono ?_
  rintro e w2 ⟨rfl, v2, s2, f2⟩
  have S2 : Hid (TSt B bl T c w2 v2 (ts ++ [mkT f])) := s2
  have F2 : Hid (TFr T bl w w2 v v2) := F1.out.trans f2
  clear s2 f2 F1 HC1
  go_wp2_with (go_at_call 91; fail)
  refine (HM.out _ _).mono ?_
  rintro e w3 ⟨rfl, hb3⟩
  have F3 : Hid (TFr T bl w w3 v v2) := F2.out.trans (tfr_below hb3 v2)
  have HC3 : Hid (Calls Tryz.prog 89 #[.pointer (some ⟨T, 0, none⟩), .slice o L cap, .agg #[.int .i64 8, .string ⟨#[44]⟩, .int .i64 0, .int .i64 0, .int .i64 0, .int .i64 0, .bool false]] w3 fun e W' => e = .returned (.tuple #[]) ∧ ∃ v', TSt B bl T (c + k) W' v' ((ts ++ [mkT f]) ++ out) ∧ TFr T bl w3 W' v2 v') := HQ.out w3 v2 (S2.out.below hb3) (HBw.out _ _ F3.out)
  clear hb3 S2 F2 HQ
  go_wp2_with (go_at_call 89; fail)
  refine HC3.out.mono ?_
  rintro e w4 ⟨rfl, v4, s4, f4⟩
  have S4 : Hid (TSt B bl T (c + k) w4 v4 ((ts ++ [mkT f]) ++ out)) := s4
  have F4 : Hid (TFr T bl w w4 v v4) := F3.out.trans f4
  clear s4 f4 F3 HC3
  go_wp2_with (go_at_call 91; fail)
  refine (HM.out _ _).mono ?_
  rintro e w5 ⟨rfl, hb5⟩
  have HC5 : Hid (Calls Tryz.prog 85 #[.pointer (some ⟨T, 0, none⟩), .slice (some ⟨w5.heap.size, 0, none⟩) 1 1] (w5.alloc (.cells #[.int .i64 8, .string t, .int .i64 0, .int .i64 0, .int .i64 0, .int .i64 0, .bool false] 39)) fun e W' => e = .returned (.tuple #[]) ∧ ∃ v', TSt B bl T (c + k) W' v' (((ts ++ [mkT f]) ++ out) ++ [mkT t]) ∧ TFr T bl w5 W' v4 v') := HP.out t (c + k) _ v4 w5 (S4.out.below hb5) (by have := HL.out; simp only [List.length_append, List.length_cons, List.length_nil]; omega)
  have F5 : Hid (TFr T bl w w5 v v4) := F4.out.trans (tfr_below hb5 v4)
  clear hb5 S4 F4
  go_wp2_with (go_at_call 85; fail)
  refine HC5.out.mono ?_
  rintro e w6 ⟨rfl, v6, s6, f6⟩
  have S6 : Hid (TSt B bl T (c + k) w6 v6 (ts ++ (mkT f :: (out ++ [mkT t])))) := by
    have e : ts ++ (mkT f :: (out ++ [mkT t])) = ((ts ++ [mkT f]) ++ out) ++ [mkT t] := by simp
    show TSt _ _ _ _ _ _ _
    rw [e]
    exact s6
  have F6 : Hid (TFr T bl w w6 v v6) := F5.out.trans f6
  clear s6 f6 F5 HC5
  go_wp2
  go_end0
  exact ⟨rfl, v6, S6.out, F6.out⟩
end Go.Proofs.YtndpebkiiemfpaaGreatDoor

namespace Go.Proofs.YtndpebkiiemfpaaGreatDoor
open Go.RowKit Go.Shelf Go.Maps
set_option linter.unusedVariables false
set_option linter.unusedSimpArgs false

def wdT (s : ByteArray) : TkT := ⟨9, s.data.toList, 0⟩
set_option maxRecDepth 100000 in
set_option maxHeartbeats 4000000 in
theorem declBind {B bl T : Nat} {n : Nd} (hk : n.kind = 7) {a : Nd} {b : Nd} (hkids : n.kids = [a, b]) {o0 : List TkT} {u0 : Nat} (h0 : TellOK B bl T 23 a o0 u0) {o1 : List TkT} {u1 : Nat} (h1 : SignOK B bl T 94 b ⟨#[61]⟩ o1 u1) : TellOK B bl T 45 n (o0 ++ o1) (u0 + u1) := by
  intro ts v c w o cap hn hS hc hl
  obtain ⟨V, hV, hnV, hSV, hfV, hBx, hx1, hx2, hx3, hx4⟩ := boxed hn hS
  have c0 : V.cell? ⟨w.heap.size, 0, none⟩ = some (.int .i64 n.kind) := hBx.cell 0 _ rfl
  have c1 : V.cell? ⟨w.heap.size, 1, none⟩ = some (.string (bs n.name)) := hBx.cell 1 _ rfl
  have c2 : V.cell? ⟨w.heap.size, 2, none⟩ = some (.int .i64 n.num) := hBx.cell 2 _ rfl
  have c3 : V.cell? ⟨w.heap.size, 3, none⟩ = some (.slice o n.kids.length cap) := hBx.cell 3 _ rfl
  have c4 : V.cell? ⟨w.heap.size, 4, none⟩ = some (.int .i64 n.pos) := hBx.cell 4 _ rfl
  have hlV := hBx.lt
  have HF : Hid (TFr T bl w V v v) := hfV
  have HC : Hid (c + (u0 + u1) ≤ 4611686018427387904) := hc
  have Hl : Hid (ts.length + (o0.length + o1.length) ≤ 1000000000) := by (try simp only [List.length_append, List.length_cons, List.length_nil] at hl); show _ ≤ _; omega
  have hcap1 := hnV.2.1
  have hcap2 := hnV.2.2.1
  obtain ⟨g, off, rfl, hg, hKA⟩ := hnV.1.at 0 (by rw [hkids]; simp)
  have hgV : g < V.heap.size := by have := hSV.lt; have := hSV.1; omega
  have Hg : Hid (g < B) := hg
  have HgV : Hid (g < V.heap.size) := hgV
  have hLn : n.kids.length = 2 := by rw [hkids]; rfl
  have HNa : Hid (NdAt V B a g off) := by
    have := hKA.get _ g off 0 (by rw [hLn]; decide)
    have e : n.kids[0]'(by rw [hLn]; decide) = a := by simp only [hkids]; rfl
    rw [e] at this; exact this
  have HNb : Hid (NdAt V B b g (off + 5)) := by
    have := hKA.get _ g off 1 (by rw [hLn]; decide)
    have e : n.kids[1]'(by rw [hLn]; decide) = b := by simp only [hkids]; rfl
    rw [e] at this; exact this
  rw [hLn] at c3 hV hBx ⊢
  clear hLn hcap1 hcap2
  clear hkids hKA hg
  have S0 : Hid (TSt B bl T (c + 0) V v ts) := hSV
  have HSV : Hid (TSt B bl T c V v ts) := hSV
  have F0 : Hid (TFr T bl V V v v) := TFr.refl _ _ _ _
  have HBx : Hid (Blk V w.heap.size #[.int .i64 n.kind, .string (bs n.name), .int .i64 n.num, .slice (some ⟨g, off, none⟩) 2 cap, .int .i64 n.pos] 24) := hBx
  have Hx : Hid (w.heap.size ≠ T ∧ w.heap.size ≠ bl ∧ v.ownBlock ≠ some w.heap.size) := ⟨hx1, hx2, hx3⟩
  have HNV : Hid (NdIn V B n (some ⟨g, off, none⟩) cap) := hnV
  have HH0 : Hid (TellOK B bl T 23 a o0 u0) := h0
  clear h0
  have HH1 : Hid (SignOK B bl T 94 b ⟨#[61]⟩ o1 u1) := h1
  clear h1
  have Hk : Hid (n.kind = 7) := hk
  rw [hk] at c0 hV ⊢
  clear hn hS hc hl hnV hSV hfV hBx hx1 hx2 hx3 hk
  go_enter Tryz.func45, Tryz.ntmps45
  have hBB1 : Below B V V := F0.out.below HSV.out
  obtain ⟨o_a, cap_a, k0, k1, k2, k3, k4, hNk⟩ := kid_in (NdAt.below hBB1 a g off Hg.out HNa.out)
  have HC1 : Hid (Calls Tryz.prog 23 #[.pointer (some ⟨T, 0, none⟩), .agg #[.int .i64 a.kind, .string (bs a.name), .int .i64 a.num, .slice o_a a.kids.length cap_a, .int .i64 a.pos]] V fun e W' => e = .returned (.tuple #[]) ∧ ∃ v', TSt B bl T (c + 0 + u0) W' v' ((ts) ++ o0) ∧ TFr T bl V W' v v') := HH0.out (ts) v (c + 0) V o_a cap_a hNk S0.out (by have := HC.out; omega) (by have := Hl.out; omega)
  have hgr : g < V.heap.size := Nat.lt_of_lt_of_le HgV.out hBB1.size
  clear hBB1 hNk
  go_wp2_with (go_at_call 23; fail)
  refine HC1.out.mono ?_
  rintro e w1 ⟨rfl, v1, s1, f1⟩
  have S1 : Hid (TSt B bl T (c + 0 + u0) w1 v1 ((ts) ++ o0)) := s1
  have F1 : Hid (TFr T bl V w1 v v1) := F0.out.trans f1
  clear s1 f1 HC1 S0 F0 k0 k1 k2 k3 k4 hgr
  clear c0 c1 c2 c3 c4 hlV
  have hBB2 : Below B V w1 := F1.out.below HSV.out
  obtain ⟨o_b, cap_b, k0, k1, k2, k3, k4, hNk⟩ := kid_in (NdAt.below hBB2 b g (off + 5) Hg.out HNb.out)
  have HC2 : Hid (Calls Tryz.prog 94 #[.pointer (some ⟨T, 0, none⟩), .agg #[.int .i64 b.kind, .string (bs b.name), .int .i64 b.num, .slice o_b b.kids.length cap_b, .int .i64 b.pos], .string ⟨#[61]⟩] w1 fun e W' => e = .returned (.tuple #[]) ∧ ∃ v', TSt B bl T (c + 0 + u0 + u1) W' v' (((ts) ++ o0) ++ o1) ∧ TFr T bl w1 W' v1 v') := HH1.out ((ts) ++ o0) v1 (c + 0 + u0) w1 o_b cap_b hNk S1.out (by have := HC.out; omega) (by have := Hl.out; simp only [List.length_append, List.length_cons, List.length_nil]; omega)
  have hgr : g < w1.heap.size := Nat.lt_of_lt_of_le HgV.out hBB2.size
  clear hBB2 hNk
  go_wp2_with (go_at_call 94; fail)
  refine HC2.out.mono ?_
  rintro e w2 ⟨rfl, v2, s2, f2⟩
  have S2 : Hid (TSt B bl T (c + 0 + u0 + u1) w2 v2 (((ts) ++ o0) ++ o1)) := s2
  have F2 : Hid (TFr T bl V w2 v v2) := F1.out.trans f2
  clear s2 f2 HC2 S1 F1 k0 k1 k2 k3 k4 hgr
  have H3 : TSt B bl T (c + (u0 + u1)) w2 v2 (ts ++ (o0 ++ o1)) := by
    have h := S2.out
    simp only [Nat.add_zero, Nat.add_assoc, List.append_assoc] at h ⊢
    exact h
  have H3' : Hid (TSt B bl T (c + (u0 + u1)) w2 v2 (ts ++ (o0 ++ o1))) := H3
  have FE : Hid (TFr T bl w w2 v v2) := HF.out.trans F2.out
  clear H3 S2 F2
  go_wp2
  first
    | (go_end0; exact ⟨rfl, v2, H3'.out, FE.out⟩)
    | exact bodyPost_ret (v := .tuple #[]) (by simp [results, Tryz.results45, go_sem]) rfl ⟨rfl, v2, H3'.out, FE.out⟩
set_option maxRecDepth 100000 in
set_option maxHeartbeats 4000000 in
theorem declRhs {B bl T : Nat} {n : Nd} (hk : n.kind = 8) {o0 : List TkT} {u0 : Nat} (h0 : SignOK B bl T 94 n ⟨#[61]⟩ o0 u0) : TellOK B bl T 45 n (o0) (u0) := by
  intro ts v c w o cap hn hS hc hl
  obtain ⟨V, hV, hnV, hSV, hfV, hBx, hx1, hx2, hx3, hx4⟩ := boxed hn hS
  have c0 : V.cell? ⟨w.heap.size, 0, none⟩ = some (.int .i64 n.kind) := hBx.cell 0 _ rfl
  have c1 : V.cell? ⟨w.heap.size, 1, none⟩ = some (.string (bs n.name)) := hBx.cell 1 _ rfl
  have c2 : V.cell? ⟨w.heap.size, 2, none⟩ = some (.int .i64 n.num) := hBx.cell 2 _ rfl
  have c3 : V.cell? ⟨w.heap.size, 3, none⟩ = some (.slice o n.kids.length cap) := hBx.cell 3 _ rfl
  have c4 : V.cell? ⟨w.heap.size, 4, none⟩ = some (.int .i64 n.pos) := hBx.cell 4 _ rfl
  have hlV := hBx.lt
  have HF : Hid (TFr T bl w V v v) := hfV
  have HC : Hid (c + (u0) ≤ 4611686018427387904) := hc
  have Hl : Hid (ts.length + (o0.length) ≤ 1000000000) := by (try simp only [List.length_append, List.length_cons, List.length_nil] at hl); show _ ≤ _; omega
  have S0 : Hid (TSt B bl T (c + 0) V v ts) := hSV
  have HSV : Hid (TSt B bl T c V v ts) := hSV
  have F0 : Hid (TFr T bl V V v v) := TFr.refl _ _ _ _
  have HBx : Hid (Blk V w.heap.size #[.int .i64 n.kind, .string (bs n.name), .int .i64 n.num, .slice o n.kids.length cap, .int .i64 n.pos] 24) := hBx
  have Hx : Hid (w.heap.size ≠ T ∧ w.heap.size ≠ bl ∧ v.ownBlock ≠ some w.heap.size) := ⟨hx1, hx2, hx3⟩
  have HNV : Hid (NdIn V B n o cap) := hnV
  have HH0 : Hid (SignOK B bl T 94 n ⟨#[61]⟩ o0 u0) := h0
  clear h0
  have Hk : Hid (n.kind = 8) := hk
  rw [hk] at c0 hV ⊢
  clear hn hS hc hl hnV hSV hfV hBx hx1 hx2 hx3 hk
  go_enter Tryz.func45, Tryz.ntmps45
  have hBB1 : Below B V V := F0.out.below HSV.out
  have HC1 : Hid (Calls Tryz.prog 94 #[.pointer (some ⟨T, 0, none⟩), .agg #[.int .i64 8, .string (bs n.name), .int .i64 n.num, .slice o n.kids.length cap, .int .i64 n.pos], .string ⟨#[61]⟩] V fun e W' => e = .returned (.tuple #[]) ∧ ∃ v', TSt B bl T (c + 0 + u0) W' v' ((ts) ++ o0) ∧ TFr T bl V W' v v') := by rw [← Hk.out]; exact HH0.out (ts) v (c + 0) V _ cap (HNV.out.below hBB1) S0.out (by have := HC.out; omega) (by have := Hl.out; omega)
  clear hBB1
  go_wp2_with (go_at_call 94; fail)
  refine HC1.out.mono ?_
  rintro e w1 ⟨rfl, v1, s1, f1⟩
  have S1 : Hid (TSt B bl T (c + 0 + u0) w1 v1 ((ts) ++ o0)) := s1
  have F1 : Hid (TFr T bl V w1 v v1) := F0.out.trans f1
  clear s1 f1 HC1 S0 F0 
  clear c0 c1 c2 c3 c4 hlV
  have H3 : TSt B bl T (c + (u0)) w1 v1 (ts ++ (o0)) := by
    have h := S1.out
    simp only [Nat.add_zero, Nat.add_assoc, List.append_assoc] at h ⊢
    exact h
  have H3' : Hid (TSt B bl T (c + (u0)) w1 v1 (ts ++ (o0))) := H3
  have FE : Hid (TFr T bl w w1 v v1) := HF.out.trans F1.out
  clear H3 S1 F1
  go_wp2
  first
    | (go_end0; exact ⟨rfl, v1, H3'.out, FE.out⟩)
    | exact bodyPost_ret (v := .tuple #[]) (by simp [results, Tryz.results45, go_sem]) rfl ⟨rfl, v1, H3'.out, FE.out⟩
set_option maxRecDepth 100000 in
set_option maxHeartbeats 4000000 in
theorem declGuard {B bl T : Nat} {n : Nd} (hk : n.kind = 9) {o0 : List TkT} {u0 : Nat} (h0 : SignOK B bl T 95 n ⟨#[61]⟩ o0 u0) : TellOK B bl T 45 n (o0) (u0) := by
  intro ts v c w o cap hn hS hc hl
  obtain ⟨V, hV, hnV, hSV, hfV, hBx, hx1, hx2, hx3, hx4⟩ := boxed hn hS
  have c0 : V.cell? ⟨w.heap.size, 0, none⟩ = some (.int .i64 n.kind) := hBx.cell 0 _ rfl
  have c1 : V.cell? ⟨w.heap.size, 1, none⟩ = some (.string (bs n.name)) := hBx.cell 1 _ rfl
  have c2 : V.cell? ⟨w.heap.size, 2, none⟩ = some (.int .i64 n.num) := hBx.cell 2 _ rfl
  have c3 : V.cell? ⟨w.heap.size, 3, none⟩ = some (.slice o n.kids.length cap) := hBx.cell 3 _ rfl
  have c4 : V.cell? ⟨w.heap.size, 4, none⟩ = some (.int .i64 n.pos) := hBx.cell 4 _ rfl
  have hlV := hBx.lt
  have HF : Hid (TFr T bl w V v v) := hfV
  have HC : Hid (c + (u0) ≤ 4611686018427387904) := hc
  have Hl : Hid (ts.length + (o0.length) ≤ 1000000000) := by (try simp only [List.length_append, List.length_cons, List.length_nil] at hl); show _ ≤ _; omega
  have S0 : Hid (TSt B bl T (c + 0) V v ts) := hSV
  have HSV : Hid (TSt B bl T c V v ts) := hSV
  have F0 : Hid (TFr T bl V V v v) := TFr.refl _ _ _ _
  have HBx : Hid (Blk V w.heap.size #[.int .i64 n.kind, .string (bs n.name), .int .i64 n.num, .slice o n.kids.length cap, .int .i64 n.pos] 24) := hBx
  have Hx : Hid (w.heap.size ≠ T ∧ w.heap.size ≠ bl ∧ v.ownBlock ≠ some w.heap.size) := ⟨hx1, hx2, hx3⟩
  have HNV : Hid (NdIn V B n o cap) := hnV
  have HH0 : Hid (SignOK B bl T 95 n ⟨#[61]⟩ o0 u0) := h0
  clear h0
  have Hk : Hid (n.kind = 9) := hk
  rw [hk] at c0 hV ⊢
  clear hn hS hc hl hnV hSV hfV hBx hx1 hx2 hx3 hk
  go_enter Tryz.func45, Tryz.ntmps45
  have hBB1 : Below B V V := F0.out.below HSV.out
  have HC1 : Hid (Calls Tryz.prog 95 #[.pointer (some ⟨T, 0, none⟩), .agg #[.int .i64 9, .string (bs n.name), .int .i64 n.num, .slice o n.kids.length cap, .int .i64 n.pos], .string ⟨#[61]⟩] V fun e W' => e = .returned (.tuple #[]) ∧ ∃ v', TSt B bl T (c + 0 + u0) W' v' ((ts) ++ o0) ∧ TFr T bl V W' v v') := by rw [← Hk.out]; exact HH0.out (ts) v (c + 0) V _ cap (HNV.out.below hBB1) S0.out (by have := HC.out; omega) (by have := Hl.out; omega)
  clear hBB1
  go_wp2_with (go_at_call 95; fail)
  refine HC1.out.mono ?_
  rintro e w1 ⟨rfl, v1, s1, f1⟩
  have S1 : Hid (TSt B bl T (c + 0 + u0) w1 v1 ((ts) ++ o0)) := s1
  have F1 : Hid (TFr T bl V w1 v v1) := F0.out.trans f1
  clear s1 f1 HC1 S0 F0 
  clear c0 c1 c2 c3 c4 hlV
  have H3 : TSt B bl T (c + (u0)) w1 v1 (ts ++ (o0)) := by
    have h := S1.out
    simp only [Nat.add_zero, Nat.add_assoc, List.append_assoc] at h ⊢
    exact h
  have H3' : Hid (TSt B bl T (c + (u0)) w1 v1 (ts ++ (o0))) := H3
  have FE : Hid (TFr T bl w w1 v v1) := HF.out.trans F1.out
  clear H3 S1 F1
  go_wp2
  first
    | (go_end0; exact ⟨rfl, v1, H3'.out, FE.out⟩)
    | exact bodyPost_ret (v := .tuple #[]) (by simp [results, Tryz.results45, go_sem]) rfl ⟨rfl, v1, H3'.out, FE.out⟩
set_option maxRecDepth 100000 in
set_option maxHeartbeats 4000000 in
theorem exprCon {B bl T : Nat} {n : Nd} (hk : n.kind = 12) {o0 : List TkT} {u0 : Nat} (h0 : StrOK B bl T 87 (bs n.name) o0 u0) : TellOK B bl T 46 n (o0) (u0) := by
  intro ts v c w o cap hn hS hc hl
  obtain ⟨V, hV, hnV, hSV, hfV, hBx, hx1, hx2, hx3, hx4⟩ := boxed hn hS
  have c0 : V.cell? ⟨w.heap.size, 0, none⟩ = some (.int .i64 n.kind) := hBx.cell 0 _ rfl
  have c1 : V.cell? ⟨w.heap.size, 1, none⟩ = some (.string (bs n.name)) := hBx.cell 1 _ rfl
  have c2 : V.cell? ⟨w.heap.size, 2, none⟩ = some (.int .i64 n.num) := hBx.cell 2 _ rfl
  have c3 : V.cell? ⟨w.heap.size, 3, none⟩ = some (.slice o n.kids.length cap) := hBx.cell 3 _ rfl
  have c4 : V.cell? ⟨w.heap.size, 4, none⟩ = some (.int .i64 n.pos) := hBx.cell 4 _ rfl
  have hlV := hBx.lt
  have HF : Hid (TFr T bl w V v v) := hfV
  have HC : Hid (c + (u0) ≤ 4611686018427387904) := hc
  have Hl : Hid (ts.length + (o0.length) ≤ 1000000000) := by (try simp only [List.length_append, List.length_cons, List.length_nil] at hl); show _ ≤ _; omega
  have S0 : Hid (TSt B bl T (c + 0) V v ts) := hSV
  have HSV : Hid (TSt B bl T c V v ts) := hSV
  have F0 : Hid (TFr T bl V V v v) := TFr.refl _ _ _ _
  have HBx : Hid (Blk V w.heap.size #[.int .i64 n.kind, .string (bs n.name), .int .i64 n.num, .slice o n.kids.length cap, .int .i64 n.pos] 24) := hBx
  have Hx : Hid (w.heap.size ≠ T ∧ w.heap.size ≠ bl ∧ v.ownBlock ≠ some w.heap.size) := ⟨hx1, hx2, hx3⟩
  have HNV : Hid (NdIn V B n o cap) := hnV
  have HH0 : Hid (StrOK B bl T 87 (bs n.name) o0 u0) := h0
  clear h0
  have Hk : Hid (n.kind = 12) := hk
  rw [hk] at c0 hV ⊢
  clear hn hS hc hl hnV hSV hfV hBx hx1 hx2 hx3 hk
  go_enter Tryz.func46, Tryz.ntmps46
  have HC1 : Hid (Calls Tryz.prog 87 #[.pointer (some ⟨T, 0, none⟩), .string (bs n.name)] V fun e W' => e = .returned (.tuple #[]) ∧ ∃ v', TSt B bl T (c + 0 + u0) W' v' ((ts) ++ o0) ∧ TFr T bl V W' v v') := HH0.out (ts) v (c + 0) V S0.out (by have := HC.out; omega) (by have := Hl.out; omega)
  go_wp2_with (go_at_call 87; fail)
  refine HC1.out.mono ?_
  rintro e w1 ⟨rfl, v1, s1, f1⟩
  have S1 : Hid (TSt B bl T (c + 0 + u0) w1 v1 ((ts) ++ o0)) := s1
  have F1 : Hid (TFr T bl V w1 v v1) := F0.out.trans f1
  clear s1 f1 HC1 S0 F0 
  clear c0 c1 c2 c3 c4 hlV
  have H3 : TSt B bl T (c + (u0)) w1 v1 (ts ++ (o0)) := by
    have h := S1.out
    simp only [Nat.add_zero, Nat.add_assoc, List.append_assoc] at h ⊢
    exact h
  have H3' : Hid (TSt B bl T (c + (u0)) w1 v1 (ts ++ (o0))) := H3
  have FE : Hid (TFr T bl w w1 v v1) := HF.out.trans F1.out
  clear H3 S1 F1
  go_wp2
  first
    | (go_end0; exact ⟨rfl, v1, H3'.out, FE.out⟩)
    | exact bodyPost_ret (v := .tuple #[]) (by simp [results, Tryz.results46, go_sem]) rfl ⟨rfl, v1, H3'.out, FE.out⟩
set_option maxRecDepth 100000 in
set_option maxHeartbeats 4000000 in
theorem exprNeg {B bl T : Nat} {n : Nd} (hk : n.kind = 18) {a : Nd} (hkids : n.kids = [a]) {o0 : List TkT} {u0 : Nat} (h0 : StrOK B bl T 92 ⟨#[45]⟩ o0 u0) {o1 : List TkT} {u1 : Nat} (h1 : TellOK B bl T 98 a o1 u1) : TellOK B bl T 46 n (o0 ++ o1) (u0 + u1) := by
  intro ts v c w o cap hn hS hc hl
  obtain ⟨V, hV, hnV, hSV, hfV, hBx, hx1, hx2, hx3, hx4⟩ := boxed hn hS
  have c0 : V.cell? ⟨w.heap.size, 0, none⟩ = some (.int .i64 n.kind) := hBx.cell 0 _ rfl
  have c1 : V.cell? ⟨w.heap.size, 1, none⟩ = some (.string (bs n.name)) := hBx.cell 1 _ rfl
  have c2 : V.cell? ⟨w.heap.size, 2, none⟩ = some (.int .i64 n.num) := hBx.cell 2 _ rfl
  have c3 : V.cell? ⟨w.heap.size, 3, none⟩ = some (.slice o n.kids.length cap) := hBx.cell 3 _ rfl
  have c4 : V.cell? ⟨w.heap.size, 4, none⟩ = some (.int .i64 n.pos) := hBx.cell 4 _ rfl
  have hlV := hBx.lt
  have HF : Hid (TFr T bl w V v v) := hfV
  have HC : Hid (c + (u0 + u1) ≤ 4611686018427387904) := hc
  have Hl : Hid (ts.length + (o0.length + o1.length) ≤ 1000000000) := by (try simp only [List.length_append, List.length_cons, List.length_nil] at hl); show _ ≤ _; omega
  have hcap1 := hnV.2.1
  have hcap2 := hnV.2.2.1
  obtain ⟨g, off, rfl, hg, hKA⟩ := hnV.1.at 0 (by rw [hkids]; simp)
  have hgV : g < V.heap.size := by have := hSV.lt; have := hSV.1; omega
  have Hg : Hid (g < B) := hg
  have HgV : Hid (g < V.heap.size) := hgV
  have hLn : n.kids.length = 1 := by rw [hkids]; rfl
  have HNa : Hid (NdAt V B a g off) := by
    have := hKA.get _ g off 0 (by rw [hLn]; decide)
    have e : n.kids[0]'(by rw [hLn]; decide) = a := by simp only [hkids]; rfl
    rw [e] at this; exact this
  rw [hLn] at c3 hV hBx ⊢
  clear hLn hcap1 hcap2
  clear hkids hKA hg
  have S0 : Hid (TSt B bl T (c + 0) V v ts) := hSV
  have HSV : Hid (TSt B bl T c V v ts) := hSV
  have F0 : Hid (TFr T bl V V v v) := TFr.refl _ _ _ _
  have HBx : Hid (Blk V w.heap.size #[.int .i64 n.kind, .string (bs n.name), .int .i64 n.num, .slice (some ⟨g, off, none⟩) 1 cap, .int .i64 n.pos] 24) := hBx
  have Hx : Hid (w.heap.size ≠ T ∧ w.heap.size ≠ bl ∧ v.ownBlock ≠ some w.heap.size) := ⟨hx1, hx2, hx3⟩
  have HNV : Hid (NdIn V B n (some ⟨g, off, none⟩) cap) := hnV
  have HH0 : Hid (StrOK B bl T 92 ⟨#[45]⟩ o0 u0) := h0
  clear h0
  have HH1 : Hid (TellOK B bl T 98 a o1 u1) := h1
  clear h1
  have Hk : Hid (n.kind = 18) := hk
  rw [hk] at c0 hV ⊢
  clear hn hS hc hl hnV hSV hfV hBx hx1 hx2 hx3 hk
  go_enter Tryz.func46, Tryz.ntmps46
  have HC1 : Hid (Calls Tryz.prog 92 #[.pointer (some ⟨T, 0, none⟩), .string ⟨#[45]⟩] V fun e W' => e = .returned (.tuple #[]) ∧ ∃ v', TSt B bl T (c + 0 + u0) W' v' ((ts) ++ o0) ∧ TFr T bl V W' v v') := HH0.out (ts) v (c + 0) V S0.out (by have := HC.out; omega) (by have := Hl.out; omega)
  go_wp2_with (go_at_call 92; fail)
  refine HC1.out.mono ?_
  rintro e w1 ⟨rfl, v1, s1, f1⟩
  have S1 : Hid (TSt B bl T (c + 0 + u0) w1 v1 ((ts) ++ o0)) := s1
  have F1 : Hid (TFr T bl V w1 v v1) := F0.out.trans f1
  clear s1 f1 HC1 S0 F0 
  clear c0 c1 c2 c3 c4 hlV
  have hBB2 : Below B V w1 := F1.out.below HSV.out
  obtain ⟨o_a, cap_a, k0, k1, k2, k3, k4, hNk⟩ := kid_in (NdAt.below hBB2 a g off Hg.out HNa.out)
  have HC2 : Hid (Calls Tryz.prog 98 #[.pointer (some ⟨T, 0, none⟩), .agg #[.int .i64 a.kind, .string (bs a.name), .int .i64 a.num, .slice o_a a.kids.length cap_a, .int .i64 a.pos]] w1 fun e W' => e = .returned (.tuple #[]) ∧ ∃ v', TSt B bl T (c + 0 + u0 + u1) W' v' (((ts) ++ o0) ++ o1) ∧ TFr T bl w1 W' v1 v') := HH1.out ((ts) ++ o0) v1 (c + 0 + u0) w1 o_a cap_a hNk S1.out (by have := HC.out; omega) (by have := Hl.out; simp only [List.length_append, List.length_cons, List.length_nil]; omega)
  have hgr : g < w1.heap.size := Nat.lt_of_lt_of_le HgV.out hBB2.size
  clear hBB2 hNk
  go_wp2_with (go_at_call 98; fail)
  refine HC2.out.mono ?_
  rintro e w2 ⟨rfl, v2, s2, f2⟩
  have S2 : Hid (TSt B bl T (c + 0 + u0 + u1) w2 v2 (((ts) ++ o0) ++ o1)) := s2
  have F2 : Hid (TFr T bl V w2 v v2) := F1.out.trans f2
  clear s2 f2 HC2 S1 F1 k0 k1 k2 k3 k4 hgr
  have H3 : TSt B bl T (c + (u0 + u1)) w2 v2 (ts ++ (o0 ++ o1)) := by
    have h := S2.out
    simp only [Nat.add_zero, Nat.add_assoc, List.append_assoc] at h ⊢
    exact h
  have H3' : Hid (TSt B bl T (c + (u0 + u1)) w2 v2 (ts ++ (o0 ++ o1))) := H3
  have FE : Hid (TFr T bl w w2 v v2) := HF.out.trans F2.out
  clear H3 S2 F2
  go_wp2
  first
    | (go_end0; exact ⟨rfl, v2, H3'.out, FE.out⟩)
    | exact bodyPost_ret (v := .tuple #[]) (by simp [results, Tryz.results46, go_sem]) rfl ⟨rfl, v2, H3'.out, FE.out⟩
set_option maxRecDepth 100000 in
set_option maxHeartbeats 4000000 in
theorem exprLeft {B bl T : Nat} {n : Nd} (hk : n.kind = 28) {a : Nd} (hkids : n.kids = [a]) {o1 : List TkT} {u1 : Nat} (h1 : TellOK B bl T 98 a o1 u1) {o2 : List TkT} {u2 : Nat} (h2 : StrOK B bl T 92 (bs n.name) o2 u2) : TellOK B bl T 46 n ([mkT ⟨#[40]⟩] ++ o1 ++ o2 ++ [mkT ⟨#[41]⟩]) (u1 + u2) := by
  intro ts v c w o cap hn hS hc hl
  obtain ⟨V, hV, hnV, hSV, hfV, hBx, hx1, hx2, hx3, hx4⟩ := boxed hn hS
  have c0 : V.cell? ⟨w.heap.size, 0, none⟩ = some (.int .i64 n.kind) := hBx.cell 0 _ rfl
  have c1 : V.cell? ⟨w.heap.size, 1, none⟩ = some (.string (bs n.name)) := hBx.cell 1 _ rfl
  have c2 : V.cell? ⟨w.heap.size, 2, none⟩ = some (.int .i64 n.num) := hBx.cell 2 _ rfl
  have c3 : V.cell? ⟨w.heap.size, 3, none⟩ = some (.slice o n.kids.length cap) := hBx.cell 3 _ rfl
  have c4 : V.cell? ⟨w.heap.size, 4, none⟩ = some (.int .i64 n.pos) := hBx.cell 4 _ rfl
  have hlV := hBx.lt
  have HF : Hid (TFr T bl w V v v) := hfV
  have HC : Hid (c + (u1 + u2) ≤ 4611686018427387904) := hc
  have Hl : Hid (ts.length + (1 + o1.length + o2.length + 1) ≤ 1000000000) := by (try simp only [List.length_append, List.length_cons, List.length_nil] at hl); show _ ≤ _; omega
  have hcap1 := hnV.2.1
  have hcap2 := hnV.2.2.1
  obtain ⟨g, off, rfl, hg, hKA⟩ := hnV.1.at 0 (by rw [hkids]; simp)
  have hgV : g < V.heap.size := by have := hSV.lt; have := hSV.1; omega
  have Hg : Hid (g < B) := hg
  have HgV : Hid (g < V.heap.size) := hgV
  have hLn : n.kids.length = 1 := by rw [hkids]; rfl
  have HNa : Hid (NdAt V B a g off) := by
    have := hKA.get _ g off 0 (by rw [hLn]; decide)
    have e : n.kids[0]'(by rw [hLn]; decide) = a := by simp only [hkids]; rfl
    rw [e] at this; exact this
  rw [hLn] at c3 hV hBx ⊢
  clear hLn hcap1 hcap2
  clear hkids hKA hg
  have S0 : Hid (TSt B bl T (c + 0) V v ts) := hSV
  have HSV : Hid (TSt B bl T c V v ts) := hSV
  have F0 : Hid (TFr T bl V V v v) := TFr.refl _ _ _ _
  have HBx : Hid (Blk V w.heap.size #[.int .i64 n.kind, .string (bs n.name), .int .i64 n.num, .slice (some ⟨g, off, none⟩) 1 cap, .int .i64 n.pos] 24) := hBx
  have Hx : Hid (w.heap.size ≠ T ∧ w.heap.size ≠ bl ∧ v.ownBlock ≠ some w.heap.size) := ⟨hx1, hx2, hx3⟩
  have HNV : Hid (NdIn V B n (some ⟨g, off, none⟩) cap) := hnV
  have HH1 : Hid (TellOK B bl T 98 a o1 u1) := h1
  clear h1
  have HH2 : Hid (StrOK B bl T 92 (bs n.name) o2 u2) := h2
  clear h2
  have HMmark : Hid (∀ (s : ByteArray) (X : World), Calls Tryz.prog 91 #[.string s] X fun e w' => e = .returned (.agg #[.int .i64 8, .string s, .int .i64 0, .int .i64 0, .int .i64 0, .int .i64 0, .bool false]) ∧ Below X.heap.size X w') := mark_c
  have Hk : Hid (n.kind = 28) := hk
  rw [hk] at c0 hV ⊢
  clear hn hS hc hl hnV hSV hfV hBx hx1 hx2 hx3 hk
  go_enter Tryz.func46, Tryz.ntmps46
  go_wp2_with (go_at_call 91; fail)
  refine (HMmark.out _ _).mono ?_
  rintro e wm1 ⟨rfl, hbm1⟩
  have Sm1 : Hid (TSt B bl T (c + 0) wm1 v (ts)) := S0.out.below hbm1
  have Fm1 : Hid (TFr T bl V wm1 v v) := F0.out.trans (tfr_below hbm1 v)
  have HP1 : Hid (Calls Tryz.prog 85 #[.pointer (some ⟨T, 0, none⟩), .slice (some ⟨wm1.heap.size, 0, none⟩) 1 1] (wm1.alloc (.cells #[.int .i64 8, .string ⟨#[40]⟩, .int .i64 0, .int .i64 0, .int .i64 0, .int .i64 0, .bool false] 39)) fun e W' => e = .returned (.tuple #[]) ∧ ∃ v'', TSt B bl T (c + 0) W' v'' ((ts) ++ [mkT ⟨#[40]⟩]) ∧ TFr T bl wm1 W' v v'') := put1_c B bl T (c + 0) _ v 8 ⟨#[40]⟩ 0 wm1 Sm1.out (by have := Hl.out; omega)
  clear hbm1
  go_wp2_with (go_at_call 85; fail)
  refine HP1.out.mono ?_
  rintro e w1 ⟨rfl, v1, s1, f1⟩
  have S1 : Hid (TSt B bl T (c + 0) w1 v1 ((ts) ++ [mkT ⟨#[40]⟩])) := s1
  have F1 : Hid (TFr T bl V w1 v v1) := Fm1.out.trans f1
  clear s1 f1 HP1 Sm1 Fm1 S0 F0
  clear c0 c1 c2 c3 c4 hlV
  have hBB2 : Below B V w1 := F1.out.below HSV.out
  obtain ⟨o_a, cap_a, k0, k1, k2, k3, k4, hNk⟩ := kid_in (NdAt.below hBB2 a g off Hg.out HNa.out)
  have HC2 : Hid (Calls Tryz.prog 98 #[.pointer (some ⟨T, 0, none⟩), .agg #[.int .i64 a.kind, .string (bs a.name), .int .i64 a.num, .slice o_a a.kids.length cap_a, .int .i64 a.pos]] w1 fun e W' => e = .returned (.tuple #[]) ∧ ∃ v', TSt B bl T (c + 0 + u1) W' v' (((ts) ++ [mkT ⟨#[40]⟩]) ++ o1) ∧ TFr T bl w1 W' v1 v') := HH1.out ((ts) ++ [mkT ⟨#[40]⟩]) v1 (c + 0) w1 o_a cap_a hNk S1.out (by have := HC.out; omega) (by have := Hl.out; simp only [List.length_append, List.length_cons, List.length_nil]; omega)
  have hgr : g < w1.heap.size := Nat.lt_of_lt_of_le HgV.out hBB2.size
  clear hBB2 hNk
  go_wp2_with (go_at_call 98; fail)
  refine HC2.out.mono ?_
  rintro e w2 ⟨rfl, v2, s2, f2⟩
  have S2 : Hid (TSt B bl T (c + 0 + u1) w2 v2 (((ts) ++ [mkT ⟨#[40]⟩]) ++ o1)) := s2
  have F2 : Hid (TFr T bl V w2 v v2) := F1.out.trans f2
  clear s2 f2 HC2 S1 F1 k0 k1 k2 k3 k4 hgr
  have HC3 : Hid (Calls Tryz.prog 92 #[.pointer (some ⟨T, 0, none⟩), .string (bs n.name)] w2 fun e W' => e = .returned (.tuple #[]) ∧ ∃ v', TSt B bl T (c + 0 + u1 + u2) W' v' ((((ts) ++ [mkT ⟨#[40]⟩]) ++ o1) ++ o2) ∧ TFr T bl w2 W' v2 v') := HH2.out (((ts) ++ [mkT ⟨#[40]⟩]) ++ o1) v2 (c + 0 + u1) w2 S2.out (by have := HC.out; omega) (by have := Hl.out; simp only [List.length_append, List.length_cons, List.length_nil]; omega)
  have hBk := HBx.out.tfr F2.out Hx.out.1 Hx.out.2.1 Hx.out.2.2
  have b1 := hBk.cell 1 _ rfl
  have hlb := hBk.lt
  clear hBk
  go_wp2_with (go_at_call 92; fail)
  refine HC3.out.mono ?_
  rintro e w3 ⟨rfl, v3, s3, f3⟩
  have S3 : Hid (TSt B bl T (c + 0 + u1 + u2) w3 v3 ((((ts) ++ [mkT ⟨#[40]⟩]) ++ o1) ++ o2)) := s3
  have F3 : Hid (TFr T bl V w3 v v3) := F2.out.trans f3
  clear s3 f3 HC3 S2 F2  hlb b1
  go_wp2_with (go_at_call 91; fail)
  refine (HMmark.out _ _).mono ?_
  rintro e wm4 ⟨rfl, hbm4⟩
  have Sm4 : Hid (TSt B bl T (c + 0 + u1 + u2) wm4 v3 ((((ts) ++ [mkT ⟨#[40]⟩]) ++ o1) ++ o2)) := S3.out.below hbm4
  have Fm4 : Hid (TFr T bl V wm4 v v3) := F3.out.trans (tfr_below hbm4 v3)
  have HP4 : Hid (Calls Tryz.prog 85 #[.pointer (some ⟨T, 0, none⟩), .slice (some ⟨wm4.heap.size, 0, none⟩) 1 1] (wm4.alloc (.cells #[.int .i64 8, .string ⟨#[41]⟩, .int .i64 0, .int .i64 0, .int .i64 0, .int .i64 0, .bool false] 39)) fun e W' => e = .returned (.tuple #[]) ∧ ∃ v'', TSt B bl T (c + 0 + u1 + u2) W' v'' (((((ts) ++ [mkT ⟨#[40]⟩]) ++ o1) ++ o2) ++ [mkT ⟨#[41]⟩]) ∧ TFr T bl wm4 W' v3 v'') := put1_c B bl T (c + 0 + u1 + u2) _ v3 8 ⟨#[41]⟩ 0 wm4 Sm4.out (by have := Hl.out; simp only [List.length_append, List.length_cons, List.length_nil]; omega)
  clear hbm4
  go_wp2_with (go_at_call 85; fail)
  refine HP4.out.mono ?_
  rintro e w4 ⟨rfl, v4, s4, f4⟩
  have S4 : Hid (TSt B bl T (c + 0 + u1 + u2) w4 v4 (((((ts) ++ [mkT ⟨#[40]⟩]) ++ o1) ++ o2) ++ [mkT ⟨#[41]⟩])) := s4
  have F4 : Hid (TFr T bl V w4 v v4) := Fm4.out.trans f4
  clear s4 f4 HP4 Sm4 Fm4 S3 F3
  have H3 : TSt B bl T (c + (u1 + u2)) w4 v4 (ts ++ ([mkT ⟨#[40]⟩] ++ o1 ++ o2 ++ [mkT ⟨#[41]⟩])) := by
    have h := S4.out
    simp only [Nat.add_zero, Nat.add_assoc, List.append_assoc] at h ⊢
    exact h
  have H3' : Hid (TSt B bl T (c + (u1 + u2)) w4 v4 (ts ++ ([mkT ⟨#[40]⟩] ++ o1 ++ o2 ++ [mkT ⟨#[41]⟩]))) := H3
  have FE : Hid (TFr T bl w w4 v v4) := HF.out.trans F4.out
  clear H3 S4 F4
  go_wp2
  first
    | (go_end0; exact ⟨rfl, v4, H3'.out, FE.out⟩)
    | exact bodyPost_ret (v := .tuple #[]) (by simp [results, Tryz.results46, go_sem]) rfl ⟨rfl, v4, H3'.out, FE.out⟩
set_option maxRecDepth 100000 in
set_option maxHeartbeats 4000000 in
theorem exprRight {B bl T : Nat} {n : Nd} (hk : n.kind = 29) {a : Nd} (hkids : n.kids = [a]) {o1 : List TkT} {u1 : Nat} (h1 : StrOK B bl T 92 (bs n.name) o1 u1) {o2 : List TkT} {u2 : Nat} (h2 : TellOK B bl T 98 a o2 u2) : TellOK B bl T 46 n ([mkT ⟨#[40]⟩] ++ o1 ++ o2 ++ [mkT ⟨#[41]⟩]) (u1 + u2) := by
  intro ts v c w o cap hn hS hc hl
  obtain ⟨V, hV, hnV, hSV, hfV, hBx, hx1, hx2, hx3, hx4⟩ := boxed hn hS
  have c0 : V.cell? ⟨w.heap.size, 0, none⟩ = some (.int .i64 n.kind) := hBx.cell 0 _ rfl
  have c1 : V.cell? ⟨w.heap.size, 1, none⟩ = some (.string (bs n.name)) := hBx.cell 1 _ rfl
  have c2 : V.cell? ⟨w.heap.size, 2, none⟩ = some (.int .i64 n.num) := hBx.cell 2 _ rfl
  have c3 : V.cell? ⟨w.heap.size, 3, none⟩ = some (.slice o n.kids.length cap) := hBx.cell 3 _ rfl
  have c4 : V.cell? ⟨w.heap.size, 4, none⟩ = some (.int .i64 n.pos) := hBx.cell 4 _ rfl
  have hlV := hBx.lt
  have HF : Hid (TFr T bl w V v v) := hfV
  have HC : Hid (c + (u1 + u2) ≤ 4611686018427387904) := hc
  have Hl : Hid (ts.length + (1 + o1.length + o2.length + 1) ≤ 1000000000) := by (try simp only [List.length_append, List.length_cons, List.length_nil] at hl); show _ ≤ _; omega
  have hcap1 := hnV.2.1
  have hcap2 := hnV.2.2.1
  obtain ⟨g, off, rfl, hg, hKA⟩ := hnV.1.at 0 (by rw [hkids]; simp)
  have hgV : g < V.heap.size := by have := hSV.lt; have := hSV.1; omega
  have Hg : Hid (g < B) := hg
  have HgV : Hid (g < V.heap.size) := hgV
  have hLn : n.kids.length = 1 := by rw [hkids]; rfl
  have HNa : Hid (NdAt V B a g off) := by
    have := hKA.get _ g off 0 (by rw [hLn]; decide)
    have e : n.kids[0]'(by rw [hLn]; decide) = a := by simp only [hkids]; rfl
    rw [e] at this; exact this
  rw [hLn] at c3 hV hBx ⊢
  clear hLn hcap1 hcap2
  clear hkids hKA hg
  have S0 : Hid (TSt B bl T (c + 0) V v ts) := hSV
  have HSV : Hid (TSt B bl T c V v ts) := hSV
  have F0 : Hid (TFr T bl V V v v) := TFr.refl _ _ _ _
  have HBx : Hid (Blk V w.heap.size #[.int .i64 n.kind, .string (bs n.name), .int .i64 n.num, .slice (some ⟨g, off, none⟩) 1 cap, .int .i64 n.pos] 24) := hBx
  have Hx : Hid (w.heap.size ≠ T ∧ w.heap.size ≠ bl ∧ v.ownBlock ≠ some w.heap.size) := ⟨hx1, hx2, hx3⟩
  have HNV : Hid (NdIn V B n (some ⟨g, off, none⟩) cap) := hnV
  have HH1 : Hid (StrOK B bl T 92 (bs n.name) o1 u1) := h1
  clear h1
  have HH2 : Hid (TellOK B bl T 98 a o2 u2) := h2
  clear h2
  have HMmark : Hid (∀ (s : ByteArray) (X : World), Calls Tryz.prog 91 #[.string s] X fun e w' => e = .returned (.agg #[.int .i64 8, .string s, .int .i64 0, .int .i64 0, .int .i64 0, .int .i64 0, .bool false]) ∧ Below X.heap.size X w') := mark_c
  have Hk : Hid (n.kind = 29) := hk
  rw [hk] at c0 hV ⊢
  clear hn hS hc hl hnV hSV hfV hBx hx1 hx2 hx3 hk
  go_enter Tryz.func46, Tryz.ntmps46
  go_wp2_with (go_at_call 91; fail)
  refine (HMmark.out _ _).mono ?_
  rintro e wm1 ⟨rfl, hbm1⟩
  have Sm1 : Hid (TSt B bl T (c + 0) wm1 v (ts)) := S0.out.below hbm1
  have Fm1 : Hid (TFr T bl V wm1 v v) := F0.out.trans (tfr_below hbm1 v)
  have HP1 : Hid (Calls Tryz.prog 85 #[.pointer (some ⟨T, 0, none⟩), .slice (some ⟨wm1.heap.size, 0, none⟩) 1 1] (wm1.alloc (.cells #[.int .i64 8, .string ⟨#[40]⟩, .int .i64 0, .int .i64 0, .int .i64 0, .int .i64 0, .bool false] 39)) fun e W' => e = .returned (.tuple #[]) ∧ ∃ v'', TSt B bl T (c + 0) W' v'' ((ts) ++ [mkT ⟨#[40]⟩]) ∧ TFr T bl wm1 W' v v'') := put1_c B bl T (c + 0) _ v 8 ⟨#[40]⟩ 0 wm1 Sm1.out (by have := Hl.out; omega)
  clear hbm1
  go_wp2_with (go_at_call 85; fail)
  refine HP1.out.mono ?_
  rintro e w1 ⟨rfl, v1, s1, f1⟩
  have S1 : Hid (TSt B bl T (c + 0) w1 v1 ((ts) ++ [mkT ⟨#[40]⟩])) := s1
  have F1 : Hid (TFr T bl V w1 v v1) := Fm1.out.trans f1
  clear s1 f1 HP1 Sm1 Fm1 S0 F0
  clear c0 c1 c2 c3 c4 hlV
  have HC2 : Hid (Calls Tryz.prog 92 #[.pointer (some ⟨T, 0, none⟩), .string (bs n.name)] w1 fun e W' => e = .returned (.tuple #[]) ∧ ∃ v', TSt B bl T (c + 0 + u1) W' v' (((ts) ++ [mkT ⟨#[40]⟩]) ++ o1) ∧ TFr T bl w1 W' v1 v') := HH1.out ((ts) ++ [mkT ⟨#[40]⟩]) v1 (c + 0) w1 S1.out (by have := HC.out; omega) (by have := Hl.out; simp only [List.length_append, List.length_cons, List.length_nil]; omega)
  have hBk := HBx.out.tfr F1.out Hx.out.1 Hx.out.2.1 Hx.out.2.2
  have b1 := hBk.cell 1 _ rfl
  have hlb := hBk.lt
  clear hBk
  go_wp2_with (go_at_call 92; fail)
  refine HC2.out.mono ?_
  rintro e w2 ⟨rfl, v2, s2, f2⟩
  have S2 : Hid (TSt B bl T (c + 0 + u1) w2 v2 (((ts) ++ [mkT ⟨#[40]⟩]) ++ o1)) := s2
  have F2 : Hid (TFr T bl V w2 v v2) := F1.out.trans f2
  clear s2 f2 HC2 S1 F1  hlb b1
  have hBB3 : Below B V w2 := F2.out.below HSV.out
  obtain ⟨o_a, cap_a, k0, k1, k2, k3, k4, hNk⟩ := kid_in (NdAt.below hBB3 a g off Hg.out HNa.out)
  have HC3 : Hid (Calls Tryz.prog 98 #[.pointer (some ⟨T, 0, none⟩), .agg #[.int .i64 a.kind, .string (bs a.name), .int .i64 a.num, .slice o_a a.kids.length cap_a, .int .i64 a.pos]] w2 fun e W' => e = .returned (.tuple #[]) ∧ ∃ v', TSt B bl T (c + 0 + u1 + u2) W' v' ((((ts) ++ [mkT ⟨#[40]⟩]) ++ o1) ++ o2) ∧ TFr T bl w2 W' v2 v') := HH2.out (((ts) ++ [mkT ⟨#[40]⟩]) ++ o1) v2 (c + 0 + u1) w2 o_a cap_a hNk S2.out (by have := HC.out; omega) (by have := Hl.out; simp only [List.length_append, List.length_cons, List.length_nil]; omega)
  have hgr : g < w2.heap.size := Nat.lt_of_lt_of_le HgV.out hBB3.size
  clear hBB3 hNk
  go_wp2_with (go_at_call 98; fail)
  refine HC3.out.mono ?_
  rintro e w3 ⟨rfl, v3, s3, f3⟩
  have S3 : Hid (TSt B bl T (c + 0 + u1 + u2) w3 v3 ((((ts) ++ [mkT ⟨#[40]⟩]) ++ o1) ++ o2)) := s3
  have F3 : Hid (TFr T bl V w3 v v3) := F2.out.trans f3
  clear s3 f3 HC3 S2 F2 k0 k1 k2 k3 k4 hgr
  go_wp2_with (go_at_call 91; fail)
  refine (HMmark.out _ _).mono ?_
  rintro e wm4 ⟨rfl, hbm4⟩
  have Sm4 : Hid (TSt B bl T (c + 0 + u1 + u2) wm4 v3 ((((ts) ++ [mkT ⟨#[40]⟩]) ++ o1) ++ o2)) := S3.out.below hbm4
  have Fm4 : Hid (TFr T bl V wm4 v v3) := F3.out.trans (tfr_below hbm4 v3)
  have HP4 : Hid (Calls Tryz.prog 85 #[.pointer (some ⟨T, 0, none⟩), .slice (some ⟨wm4.heap.size, 0, none⟩) 1 1] (wm4.alloc (.cells #[.int .i64 8, .string ⟨#[41]⟩, .int .i64 0, .int .i64 0, .int .i64 0, .int .i64 0, .bool false] 39)) fun e W' => e = .returned (.tuple #[]) ∧ ∃ v'', TSt B bl T (c + 0 + u1 + u2) W' v'' (((((ts) ++ [mkT ⟨#[40]⟩]) ++ o1) ++ o2) ++ [mkT ⟨#[41]⟩]) ∧ TFr T bl wm4 W' v3 v'') := put1_c B bl T (c + 0 + u1 + u2) _ v3 8 ⟨#[41]⟩ 0 wm4 Sm4.out (by have := Hl.out; simp only [List.length_append, List.length_cons, List.length_nil]; omega)
  clear hbm4
  go_wp2_with (go_at_call 85; fail)
  refine HP4.out.mono ?_
  rintro e w4 ⟨rfl, v4, s4, f4⟩
  have S4 : Hid (TSt B bl T (c + 0 + u1 + u2) w4 v4 (((((ts) ++ [mkT ⟨#[40]⟩]) ++ o1) ++ o2) ++ [mkT ⟨#[41]⟩])) := s4
  have F4 : Hid (TFr T bl V w4 v v4) := Fm4.out.trans f4
  clear s4 f4 HP4 Sm4 Fm4 S3 F3
  have H3 : TSt B bl T (c + (u1 + u2)) w4 v4 (ts ++ ([mkT ⟨#[40]⟩] ++ o1 ++ o2 ++ [mkT ⟨#[41]⟩])) := by
    have h := S4.out
    simp only [Nat.add_zero, Nat.add_assoc, List.append_assoc] at h ⊢
    exact h
  have H3' : Hid (TSt B bl T (c + (u1 + u2)) w4 v4 (ts ++ ([mkT ⟨#[40]⟩] ++ o1 ++ o2 ++ [mkT ⟨#[41]⟩]))) := H3
  have FE : Hid (TFr T bl w w4 v v4) := HF.out.trans F4.out
  clear H3 S4 F4
  go_wp2
  first
    | (go_end0; exact ⟨rfl, v4, H3'.out, FE.out⟩)
    | exact bodyPost_ret (v := .tuple #[]) (by simp [results, Tryz.results46, go_sem]) rfl ⟨rfl, v4, H3'.out, FE.out⟩
set_option maxRecDepth 100000 in
set_option maxHeartbeats 4000000 in
theorem conLet {B bl T : Nat} {n : Nd} (hk : n.kind = 20) {a : Nd} {b : Nd} (hkids : n.kids = [a, b]) {o1 : List TkT} {u1 : Nat} (h1 : TellOK B bl T 23 a o1 u1) {o3 : List TkT} {u3 : Nat} (h3 : TellOK B bl T 23 b o3 u3) : TellOK B bl T 100 n ([wdT ⟨#[108, 101, 116]⟩] ++ o1 ++ [wdT ⟨#[105, 110]⟩] ++ o3) (u1 + u3) := by
  intro ts v c w o cap hn hS hc hl
  obtain ⟨V, hV, hnV, hSV, hfV, hBx, hx1, hx2, hx3, hx4⟩ := boxed hn hS
  have c0 : V.cell? ⟨w.heap.size, 0, none⟩ = some (.int .i64 n.kind) := hBx.cell 0 _ rfl
  have c1 : V.cell? ⟨w.heap.size, 1, none⟩ = some (.string (bs n.name)) := hBx.cell 1 _ rfl
  have c2 : V.cell? ⟨w.heap.size, 2, none⟩ = some (.int .i64 n.num) := hBx.cell 2 _ rfl
  have c3 : V.cell? ⟨w.heap.size, 3, none⟩ = some (.slice o n.kids.length cap) := hBx.cell 3 _ rfl
  have c4 : V.cell? ⟨w.heap.size, 4, none⟩ = some (.int .i64 n.pos) := hBx.cell 4 _ rfl
  have hlV := hBx.lt
  have HF : Hid (TFr T bl w V v v) := hfV
  have HC : Hid (c + (u1 + u3) ≤ 4611686018427387904) := hc
  have Hl : Hid (ts.length + (1 + o1.length + 1 + o3.length) ≤ 1000000000) := by (try simp only [List.length_append, List.length_cons, List.length_nil] at hl); show _ ≤ _; omega
  have hcap1 := hnV.2.1
  have hcap2 := hnV.2.2.1
  obtain ⟨g, off, rfl, hg, hKA⟩ := hnV.1.at 0 (by rw [hkids]; simp)
  have hgV : g < V.heap.size := by have := hSV.lt; have := hSV.1; omega
  have Hg : Hid (g < B) := hg
  have HgV : Hid (g < V.heap.size) := hgV
  have hLn : n.kids.length = 2 := by rw [hkids]; rfl
  have HNa : Hid (NdAt V B a g off) := by
    have := hKA.get _ g off 0 (by rw [hLn]; decide)
    have e : n.kids[0]'(by rw [hLn]; decide) = a := by simp only [hkids]; rfl
    rw [e] at this; exact this
  have HNb : Hid (NdAt V B b g (off + 5)) := by
    have := hKA.get _ g off 1 (by rw [hLn]; decide)
    have e : n.kids[1]'(by rw [hLn]; decide) = b := by simp only [hkids]; rfl
    rw [e] at this; exact this
  rw [hLn] at c3 hV hBx ⊢
  clear hLn hcap1 hcap2
  clear hkids hKA hg
  have S0 : Hid (TSt B bl T (c + 0) V v ts) := hSV
  have HSV : Hid (TSt B bl T c V v ts) := hSV
  have F0 : Hid (TFr T bl V V v v) := TFr.refl _ _ _ _
  have HBx : Hid (Blk V w.heap.size #[.int .i64 n.kind, .string (bs n.name), .int .i64 n.num, .slice (some ⟨g, off, none⟩) 2 cap, .int .i64 n.pos] 24) := hBx
  have Hx : Hid (w.heap.size ≠ T ∧ w.heap.size ≠ bl ∧ v.ownBlock ≠ some w.heap.size) := ⟨hx1, hx2, hx3⟩
  have HNV : Hid (NdIn V B n (some ⟨g, off, none⟩) cap) := hnV
  have HH1 : Hid (TellOK B bl T 23 a o1 u1) := h1
  clear h1
  have HH3 : Hid (TellOK B bl T 23 b o3 u3) := h3
  clear h3
  have HMword : Hid (∀ (s : ByteArray) (X : World), Calls Tryz.prog 86 #[.string s] X fun e w' => e = .returned (.agg #[.int .i64 9, .string s, .int .i64 0, .int .i64 0, .int .i64 0, .int .i64 0, .bool false]) ∧ Below X.heap.size X w') := word_c
  have Hk : Hid (n.kind = 20) := hk
  rw [hk] at c0 hV ⊢
  clear hn hS hc hl hnV hSV hfV hBx hx1 hx2 hx3 hk
  go_enter Tryz.func100, Tryz.ntmps100
  go_wp2_with (go_at_call 86; fail)
  refine (HMword.out _ _).mono ?_
  rintro e wm1 ⟨rfl, hbm1⟩
  have Sm1 : Hid (TSt B bl T (c + 0) wm1 v (ts)) := S0.out.below hbm1
  have Fm1 : Hid (TFr T bl V wm1 v v) := F0.out.trans (tfr_below hbm1 v)
  have HP1 : Hid (Calls Tryz.prog 85 #[.pointer (some ⟨T, 0, none⟩), .slice (some ⟨wm1.heap.size, 0, none⟩) 1 1] (wm1.alloc (.cells #[.int .i64 9, .string ⟨#[108, 101, 116]⟩, .int .i64 0, .int .i64 0, .int .i64 0, .int .i64 0, .bool false] 39)) fun e W' => e = .returned (.tuple #[]) ∧ ∃ v'', TSt B bl T (c + 0) W' v'' ((ts) ++ [wdT ⟨#[108, 101, 116]⟩]) ∧ TFr T bl wm1 W' v v'') := put1_c B bl T (c + 0) _ v 9 ⟨#[108, 101, 116]⟩ 0 wm1 Sm1.out (by have := Hl.out; omega)
  clear hbm1
  go_wp2_with (go_at_call 85; fail)
  refine HP1.out.mono ?_
  rintro e w1 ⟨rfl, v1, s1, f1⟩
  have S1 : Hid (TSt B bl T (c + 0) w1 v1 ((ts) ++ [wdT ⟨#[108, 101, 116]⟩])) := s1
  have F1 : Hid (TFr T bl V w1 v v1) := Fm1.out.trans f1
  clear s1 f1 HP1 Sm1 Fm1 S0 F0
  clear c0 c1 c2 c3 c4 hlV
  have hBB2 : Below B V w1 := F1.out.below HSV.out
  obtain ⟨o_a, cap_a, k0, k1, k2, k3, k4, hNk⟩ := kid_in (NdAt.below hBB2 a g off Hg.out HNa.out)
  have HC2 : Hid (Calls Tryz.prog 23 #[.pointer (some ⟨T, 0, none⟩), .agg #[.int .i64 a.kind, .string (bs a.name), .int .i64 a.num, .slice o_a a.kids.length cap_a, .int .i64 a.pos]] w1 fun e W' => e = .returned (.tuple #[]) ∧ ∃ v', TSt B bl T (c + 0 + u1) W' v' (((ts) ++ [wdT ⟨#[108, 101, 116]⟩]) ++ o1) ∧ TFr T bl w1 W' v1 v') := HH1.out ((ts) ++ [wdT ⟨#[108, 101, 116]⟩]) v1 (c + 0) w1 o_a cap_a hNk S1.out (by have := HC.out; omega) (by have := Hl.out; simp only [List.length_append, List.length_cons, List.length_nil]; omega)
  have hgr : g < w1.heap.size := Nat.lt_of_lt_of_le HgV.out hBB2.size
  clear hBB2 hNk
  go_wp2_with (go_at_call 23; fail)
  refine HC2.out.mono ?_
  rintro e w2 ⟨rfl, v2, s2, f2⟩
  have S2 : Hid (TSt B bl T (c + 0 + u1) w2 v2 (((ts) ++ [wdT ⟨#[108, 101, 116]⟩]) ++ o1)) := s2
  have F2 : Hid (TFr T bl V w2 v v2) := F1.out.trans f2
  clear s2 f2 HC2 S1 F1 k0 k1 k2 k3 k4 hgr
  go_wp2_with (go_at_call 86; fail)
  refine (HMword.out _ _).mono ?_
  rintro e wm3 ⟨rfl, hbm3⟩
  have Sm3 : Hid (TSt B bl T (c + 0 + u1) wm3 v2 (((ts) ++ [wdT ⟨#[108, 101, 116]⟩]) ++ o1)) := S2.out.below hbm3
  have Fm3 : Hid (TFr T bl V wm3 v v2) := F2.out.trans (tfr_below hbm3 v2)
  have HP3 : Hid (Calls Tryz.prog 85 #[.pointer (some ⟨T, 0, none⟩), .slice (some ⟨wm3.heap.size, 0, none⟩) 1 1] (wm3.alloc (.cells #[.int .i64 9, .string ⟨#[105, 110]⟩, .int .i64 0, .int .i64 0, .int .i64 0, .int .i64 0, .bool false] 39)) fun e W' => e = .returned (.tuple #[]) ∧ ∃ v'', TSt B bl T (c + 0 + u1) W' v'' ((((ts) ++ [wdT ⟨#[108, 101, 116]⟩]) ++ o1) ++ [wdT ⟨#[105, 110]⟩]) ∧ TFr T bl wm3 W' v2 v'') := put1_c B bl T (c + 0 + u1) _ v2 9 ⟨#[105, 110]⟩ 0 wm3 Sm3.out (by have := Hl.out; simp only [List.length_append, List.length_cons, List.length_nil]; omega)
  clear hbm3
  go_wp2_with (go_at_call 85; fail)
  refine HP3.out.mono ?_
  rintro e w3 ⟨rfl, v3, s3, f3⟩
  have S3 : Hid (TSt B bl T (c + 0 + u1) w3 v3 ((((ts) ++ [wdT ⟨#[108, 101, 116]⟩]) ++ o1) ++ [wdT ⟨#[105, 110]⟩])) := s3
  have F3 : Hid (TFr T bl V w3 v v3) := Fm3.out.trans f3
  clear s3 f3 HP3 Sm3 Fm3 S2 F2
  have hBB4 : Below B V w3 := F3.out.below HSV.out
  obtain ⟨o_b, cap_b, k0, k1, k2, k3, k4, hNk⟩ := kid_in (NdAt.below hBB4 b g (off + 5) Hg.out HNb.out)
  have HC4 : Hid (Calls Tryz.prog 23 #[.pointer (some ⟨T, 0, none⟩), .agg #[.int .i64 b.kind, .string (bs b.name), .int .i64 b.num, .slice o_b b.kids.length cap_b, .int .i64 b.pos]] w3 fun e W' => e = .returned (.tuple #[]) ∧ ∃ v', TSt B bl T (c + 0 + u1 + u3) W' v' (((((ts) ++ [wdT ⟨#[108, 101, 116]⟩]) ++ o1) ++ [wdT ⟨#[105, 110]⟩]) ++ o3) ∧ TFr T bl w3 W' v3 v') := HH3.out ((((ts) ++ [wdT ⟨#[108, 101, 116]⟩]) ++ o1) ++ [wdT ⟨#[105, 110]⟩]) v3 (c + 0 + u1) w3 o_b cap_b hNk S3.out (by have := HC.out; omega) (by have := Hl.out; simp only [List.length_append, List.length_cons, List.length_nil]; omega)
  have hgr : g < w3.heap.size := Nat.lt_of_lt_of_le HgV.out hBB4.size
  clear hBB4 hNk
  go_wp2_with (go_at_call 23; fail)
  refine HC4.out.mono ?_
  rintro e w4 ⟨rfl, v4, s4, f4⟩
  have S4 : Hid (TSt B bl T (c + 0 + u1 + u3) w4 v4 (((((ts) ++ [wdT ⟨#[108, 101, 116]⟩]) ++ o1) ++ [wdT ⟨#[105, 110]⟩]) ++ o3)) := s4
  have F4 : Hid (TFr T bl V w4 v v4) := F3.out.trans f4
  clear s4 f4 HC4 S3 F3 k0 k1 k2 k3 k4 hgr
  have H3 : TSt B bl T (c + (u1 + u3)) w4 v4 (ts ++ ([wdT ⟨#[108, 101, 116]⟩] ++ o1 ++ [wdT ⟨#[105, 110]⟩] ++ o3)) := by
    have h := S4.out
    simp only [Nat.add_zero, Nat.add_assoc, List.append_assoc] at h ⊢
    exact h
  have H3' : Hid (TSt B bl T (c + (u1 + u3)) w4 v4 (ts ++ ([wdT ⟨#[108, 101, 116]⟩] ++ o1 ++ [wdT ⟨#[105, 110]⟩] ++ o3))) := H3
  have FE : Hid (TFr T bl w w4 v v4) := HF.out.trans F4.out
  clear H3 S4 F4
  go_wp2
  first
    | (go_end0; exact ⟨rfl, v4, H3'.out, FE.out⟩)
    | exact bodyPost_ret (v := .tuple #[]) (by simp [results, Tryz.results100, go_sem]) rfl ⟨rfl, v4, H3'.out, FE.out⟩
set_option maxRecDepth 100000 in
set_option maxHeartbeats 4000000 in
theorem conAlt {B bl T : Nat} {n : Nd} (hk : n.kind = 23) {a : Nd} {b : Nd} (hkids : n.kids = [a, b]) {o0 : List TkT} {u0 : Nat} (h0 : TellOK B bl T 23 a o0 u0) {o1 : List TkT} {u1 : Nat} (h1 : SignOK B bl T 94 b ⟨#[45, 62]⟩ o1 u1) : TellOK B bl T 100 n (o0 ++ o1) (u0 + u1) := by
  intro ts v c w o cap hn hS hc hl
  obtain ⟨V, hV, hnV, hSV, hfV, hBx, hx1, hx2, hx3, hx4⟩ := boxed hn hS
  have c0 : V.cell? ⟨w.heap.size, 0, none⟩ = some (.int .i64 n.kind) := hBx.cell 0 _ rfl
  have c1 : V.cell? ⟨w.heap.size, 1, none⟩ = some (.string (bs n.name)) := hBx.cell 1 _ rfl
  have c2 : V.cell? ⟨w.heap.size, 2, none⟩ = some (.int .i64 n.num) := hBx.cell 2 _ rfl
  have c3 : V.cell? ⟨w.heap.size, 3, none⟩ = some (.slice o n.kids.length cap) := hBx.cell 3 _ rfl
  have c4 : V.cell? ⟨w.heap.size, 4, none⟩ = some (.int .i64 n.pos) := hBx.cell 4 _ rfl
  have hlV := hBx.lt
  have HF : Hid (TFr T bl w V v v) := hfV
  have HC : Hid (c + (u0 + u1) ≤ 4611686018427387904) := hc
  have Hl : Hid (ts.length + (o0.length + o1.length) ≤ 1000000000) := by (try simp only [List.length_append, List.length_cons, List.length_nil] at hl); show _ ≤ _; omega
  have hcap1 := hnV.2.1
  have hcap2 := hnV.2.2.1
  obtain ⟨g, off, rfl, hg, hKA⟩ := hnV.1.at 0 (by rw [hkids]; simp)
  have hgV : g < V.heap.size := by have := hSV.lt; have := hSV.1; omega
  have Hg : Hid (g < B) := hg
  have HgV : Hid (g < V.heap.size) := hgV
  have hLn : n.kids.length = 2 := by rw [hkids]; rfl
  have HNa : Hid (NdAt V B a g off) := by
    have := hKA.get _ g off 0 (by rw [hLn]; decide)
    have e : n.kids[0]'(by rw [hLn]; decide) = a := by simp only [hkids]; rfl
    rw [e] at this; exact this
  have HNb : Hid (NdAt V B b g (off + 5)) := by
    have := hKA.get _ g off 1 (by rw [hLn]; decide)
    have e : n.kids[1]'(by rw [hLn]; decide) = b := by simp only [hkids]; rfl
    rw [e] at this; exact this
  rw [hLn] at c3 hV hBx ⊢
  clear hLn hcap1 hcap2
  clear hkids hKA hg
  have S0 : Hid (TSt B bl T (c + 0) V v ts) := hSV
  have HSV : Hid (TSt B bl T c V v ts) := hSV
  have F0 : Hid (TFr T bl V V v v) := TFr.refl _ _ _ _
  have HBx : Hid (Blk V w.heap.size #[.int .i64 n.kind, .string (bs n.name), .int .i64 n.num, .slice (some ⟨g, off, none⟩) 2 cap, .int .i64 n.pos] 24) := hBx
  have Hx : Hid (w.heap.size ≠ T ∧ w.heap.size ≠ bl ∧ v.ownBlock ≠ some w.heap.size) := ⟨hx1, hx2, hx3⟩
  have HNV : Hid (NdIn V B n (some ⟨g, off, none⟩) cap) := hnV
  have HH0 : Hid (TellOK B bl T 23 a o0 u0) := h0
  clear h0
  have HH1 : Hid (SignOK B bl T 94 b ⟨#[45, 62]⟩ o1 u1) := h1
  clear h1
  have Hk : Hid (n.kind = 23) := hk
  rw [hk] at c0 hV ⊢
  clear hn hS hc hl hnV hSV hfV hBx hx1 hx2 hx3 hk
  go_enter Tryz.func100, Tryz.ntmps100
  have hBB1 : Below B V V := F0.out.below HSV.out
  obtain ⟨o_a, cap_a, k0, k1, k2, k3, k4, hNk⟩ := kid_in (NdAt.below hBB1 a g off Hg.out HNa.out)
  have HC1 : Hid (Calls Tryz.prog 23 #[.pointer (some ⟨T, 0, none⟩), .agg #[.int .i64 a.kind, .string (bs a.name), .int .i64 a.num, .slice o_a a.kids.length cap_a, .int .i64 a.pos]] V fun e W' => e = .returned (.tuple #[]) ∧ ∃ v', TSt B bl T (c + 0 + u0) W' v' ((ts) ++ o0) ∧ TFr T bl V W' v v') := HH0.out (ts) v (c + 0) V o_a cap_a hNk S0.out (by have := HC.out; omega) (by have := Hl.out; omega)
  have hgr : g < V.heap.size := Nat.lt_of_lt_of_le HgV.out hBB1.size
  clear hBB1 hNk
  go_wp2_with (go_at_call 23; fail)
  refine HC1.out.mono ?_
  rintro e w1 ⟨rfl, v1, s1, f1⟩
  have S1 : Hid (TSt B bl T (c + 0 + u0) w1 v1 ((ts) ++ o0)) := s1
  have F1 : Hid (TFr T bl V w1 v v1) := F0.out.trans f1
  clear s1 f1 HC1 S0 F0 k0 k1 k2 k3 k4 hgr
  clear c0 c1 c2 c3 c4 hlV
  have hBB2 : Below B V w1 := F1.out.below HSV.out
  obtain ⟨o_b, cap_b, k0, k1, k2, k3, k4, hNk⟩ := kid_in (NdAt.below hBB2 b g (off + 5) Hg.out HNb.out)
  have HC2 : Hid (Calls Tryz.prog 94 #[.pointer (some ⟨T, 0, none⟩), .agg #[.int .i64 b.kind, .string (bs b.name), .int .i64 b.num, .slice o_b b.kids.length cap_b, .int .i64 b.pos], .string ⟨#[45, 62]⟩] w1 fun e W' => e = .returned (.tuple #[]) ∧ ∃ v', TSt B bl T (c + 0 + u0 + u1) W' v' (((ts) ++ o0) ++ o1) ∧ TFr T bl w1 W' v1 v') := HH1.out ((ts) ++ o0) v1 (c + 0 + u0) w1 o_b cap_b hNk S1.out (by have := HC.out; omega) (by have := Hl.out; simp only [List.length_append, List.length_cons, List.length_nil]; omega)
  have hgr : g < w1.heap.size := Nat.lt_of_lt_of_le HgV.out hBB2.size
  clear hBB2 hNk
  go_wp2_with (go_at_call 94; fail)
  refine HC2.out.mono ?_
  rintro e w2 ⟨rfl, v2, s2, f2⟩
  have S2 : Hid (TSt B bl T (c + 0 + u0 + u1) w2 v2 (((ts) ++ o0) ++ o1)) := s2
  have F2 : Hid (TFr T bl V w2 v v2) := F1.out.trans f2
  clear s2 f2 HC2 S1 F1 k0 k1 k2 k3 k4 hgr
  have H3 : TSt B bl T (c + (u0 + u1)) w2 v2 (ts ++ (o0 ++ o1)) := by
    have h := S2.out
    simp only [Nat.add_zero, Nat.add_assoc, List.append_assoc] at h ⊢
    exact h
  have H3' : Hid (TSt B bl T (c + (u0 + u1)) w2 v2 (ts ++ (o0 ++ o1))) := H3
  have FE : Hid (TFr T bl w w2 v v2) := HF.out.trans F2.out
  clear H3 S2 F2
  go_wp2
  first
    | (go_end0; exact ⟨rfl, v2, H3'.out, FE.out⟩)
    | exact bodyPost_ret (v := .tuple #[]) (by simp [results, Tryz.results100, go_sem]) rfl ⟨rfl, v2, H3'.out, FE.out⟩
set_option maxRecDepth 100000 in
set_option maxHeartbeats 4000000 in
theorem conGen {B bl T : Nat} {n : Nd} (hk : n.kind = 31) {a : Nd} {b : Nd} (hkids : n.kids = [a, b]) {o0 : List TkT} {u0 : Nat} (h0 : TellOK B bl T 23 a o0 u0) {o2 : List TkT} {u2 : Nat} (h2 : TellOK B bl T 23 b o2 u2) : TellOK B bl T 100 n (o0 ++ [sgT ⟨#[60, 45]⟩] ++ o2) (u0 + u2) := by
  intro ts v c w o cap hn hS hc hl
  obtain ⟨V, hV, hnV, hSV, hfV, hBx, hx1, hx2, hx3, hx4⟩ := boxed hn hS
  have c0 : V.cell? ⟨w.heap.size, 0, none⟩ = some (.int .i64 n.kind) := hBx.cell 0 _ rfl
  have c1 : V.cell? ⟨w.heap.size, 1, none⟩ = some (.string (bs n.name)) := hBx.cell 1 _ rfl
  have c2 : V.cell? ⟨w.heap.size, 2, none⟩ = some (.int .i64 n.num) := hBx.cell 2 _ rfl
  have c3 : V.cell? ⟨w.heap.size, 3, none⟩ = some (.slice o n.kids.length cap) := hBx.cell 3 _ rfl
  have c4 : V.cell? ⟨w.heap.size, 4, none⟩ = some (.int .i64 n.pos) := hBx.cell 4 _ rfl
  have hlV := hBx.lt
  have HF : Hid (TFr T bl w V v v) := hfV
  have HC : Hid (c + (u0 + u2) ≤ 4611686018427387904) := hc
  have Hl : Hid (ts.length + (o0.length + 1 + o2.length) ≤ 1000000000) := by (try simp only [List.length_append, List.length_cons, List.length_nil] at hl); show _ ≤ _; omega
  have hcap1 := hnV.2.1
  have hcap2 := hnV.2.2.1
  obtain ⟨g, off, rfl, hg, hKA⟩ := hnV.1.at 0 (by rw [hkids]; simp)
  have hgV : g < V.heap.size := by have := hSV.lt; have := hSV.1; omega
  have Hg : Hid (g < B) := hg
  have HgV : Hid (g < V.heap.size) := hgV
  have hLn : n.kids.length = 2 := by rw [hkids]; rfl
  have HNa : Hid (NdAt V B a g off) := by
    have := hKA.get _ g off 0 (by rw [hLn]; decide)
    have e : n.kids[0]'(by rw [hLn]; decide) = a := by simp only [hkids]; rfl
    rw [e] at this; exact this
  have HNb : Hid (NdAt V B b g (off + 5)) := by
    have := hKA.get _ g off 1 (by rw [hLn]; decide)
    have e : n.kids[1]'(by rw [hLn]; decide) = b := by simp only [hkids]; rfl
    rw [e] at this; exact this
  rw [hLn] at c3 hV hBx ⊢
  clear hLn hcap1 hcap2
  clear hkids hKA hg
  have S0 : Hid (TSt B bl T (c + 0) V v ts) := hSV
  have HSV : Hid (TSt B bl T c V v ts) := hSV
  have F0 : Hid (TFr T bl V V v v) := TFr.refl _ _ _ _
  have HBx : Hid (Blk V w.heap.size #[.int .i64 n.kind, .string (bs n.name), .int .i64 n.num, .slice (some ⟨g, off, none⟩) 2 cap, .int .i64 n.pos] 24) := hBx
  have Hx : Hid (w.heap.size ≠ T ∧ w.heap.size ≠ bl ∧ v.ownBlock ≠ some w.heap.size) := ⟨hx1, hx2, hx3⟩
  have HNV : Hid (NdIn V B n (some ⟨g, off, none⟩) cap) := hnV
  have HH0 : Hid (TellOK B bl T 23 a o0 u0) := h0
  clear h0
  have HH2 : Hid (TellOK B bl T 23 b o2 u2) := h2
  clear h2
  have HMsign : Hid (∀ (s : ByteArray) (X : World), Calls Tryz.prog 88 #[.string s] X fun e w' => e = .returned (.agg #[.int .i64 10, .string s, .int .i64 0, .int .i64 0, .int .i64 0, .int .i64 0, .bool false]) ∧ Below X.heap.size X w') := sign_c
  have Hk : Hid (n.kind = 31) := hk
  rw [hk] at c0 hV ⊢
  clear hn hS hc hl hnV hSV hfV hBx hx1 hx2 hx3 hk
  go_enter Tryz.func100, Tryz.ntmps100
  have hBB1 : Below B V V := F0.out.below HSV.out
  obtain ⟨o_a, cap_a, k0, k1, k2, k3, k4, hNk⟩ := kid_in (NdAt.below hBB1 a g off Hg.out HNa.out)
  have HC1 : Hid (Calls Tryz.prog 23 #[.pointer (some ⟨T, 0, none⟩), .agg #[.int .i64 a.kind, .string (bs a.name), .int .i64 a.num, .slice o_a a.kids.length cap_a, .int .i64 a.pos]] V fun e W' => e = .returned (.tuple #[]) ∧ ∃ v', TSt B bl T (c + 0 + u0) W' v' ((ts) ++ o0) ∧ TFr T bl V W' v v') := HH0.out (ts) v (c + 0) V o_a cap_a hNk S0.out (by have := HC.out; omega) (by have := Hl.out; omega)
  have hgr : g < V.heap.size := Nat.lt_of_lt_of_le HgV.out hBB1.size
  clear hBB1 hNk
  go_wp2_with (go_at_call 23; fail)
  refine HC1.out.mono ?_
  rintro e w1 ⟨rfl, v1, s1, f1⟩
  have S1 : Hid (TSt B bl T (c + 0 + u0) w1 v1 ((ts) ++ o0)) := s1
  have F1 : Hid (TFr T bl V w1 v v1) := F0.out.trans f1
  clear s1 f1 HC1 S0 F0 k0 k1 k2 k3 k4 hgr
  clear c0 c1 c2 c3 c4 hlV
  go_wp2_with (go_at_call 88; fail)
  refine (HMsign.out _ _).mono ?_
  rintro e wm2 ⟨rfl, hbm2⟩
  have Sm2 : Hid (TSt B bl T (c + 0 + u0) wm2 v1 ((ts) ++ o0)) := S1.out.below hbm2
  have Fm2 : Hid (TFr T bl V wm2 v v1) := F1.out.trans (tfr_below hbm2 v1)
  have HP2 : Hid (Calls Tryz.prog 85 #[.pointer (some ⟨T, 0, none⟩), .slice (some ⟨wm2.heap.size, 0, none⟩) 1 1] (wm2.alloc (.cells #[.int .i64 10, .string ⟨#[60, 45]⟩, .int .i64 0, .int .i64 0, .int .i64 0, .int .i64 0, .bool false] 39)) fun e W' => e = .returned (.tuple #[]) ∧ ∃ v'', TSt B bl T (c + 0 + u0) W' v'' (((ts) ++ o0) ++ [sgT ⟨#[60, 45]⟩]) ∧ TFr T bl wm2 W' v1 v'') := put1_c B bl T (c + 0 + u0) _ v1 10 ⟨#[60, 45]⟩ 0 wm2 Sm2.out (by have := Hl.out; simp only [List.length_append, List.length_cons, List.length_nil]; omega)
  clear hbm2
  go_wp2_with (go_at_call 85; fail)
  refine HP2.out.mono ?_
  rintro e w2 ⟨rfl, v2, s2, f2⟩
  have S2 : Hid (TSt B bl T (c + 0 + u0) w2 v2 (((ts) ++ o0) ++ [sgT ⟨#[60, 45]⟩])) := s2
  have F2 : Hid (TFr T bl V w2 v v2) := Fm2.out.trans f2
  clear s2 f2 HP2 Sm2 Fm2 S1 F1
  have hBB3 : Below B V w2 := F2.out.below HSV.out
  obtain ⟨o_b, cap_b, k0, k1, k2, k3, k4, hNk⟩ := kid_in (NdAt.below hBB3 b g (off + 5) Hg.out HNb.out)
  have HC3 : Hid (Calls Tryz.prog 23 #[.pointer (some ⟨T, 0, none⟩), .agg #[.int .i64 b.kind, .string (bs b.name), .int .i64 b.num, .slice o_b b.kids.length cap_b, .int .i64 b.pos]] w2 fun e W' => e = .returned (.tuple #[]) ∧ ∃ v', TSt B bl T (c + 0 + u0 + u2) W' v' ((((ts) ++ o0) ++ [sgT ⟨#[60, 45]⟩]) ++ o2) ∧ TFr T bl w2 W' v2 v') := HH2.out (((ts) ++ o0) ++ [sgT ⟨#[60, 45]⟩]) v2 (c + 0 + u0) w2 o_b cap_b hNk S2.out (by have := HC.out; omega) (by have := Hl.out; simp only [List.length_append, List.length_cons, List.length_nil]; omega)
  have hgr : g < w2.heap.size := Nat.lt_of_lt_of_le HgV.out hBB3.size
  clear hBB3 hNk
  go_wp2_with (go_at_call 23; fail)
  refine HC3.out.mono ?_
  rintro e w3 ⟨rfl, v3, s3, f3⟩
  have S3 : Hid (TSt B bl T (c + 0 + u0 + u2) w3 v3 ((((ts) ++ o0) ++ [sgT ⟨#[60, 45]⟩]) ++ o2)) := s3
  have F3 : Hid (TFr T bl V w3 v v3) := F2.out.trans f3
  clear s3 f3 HC3 S2 F2 k0 k1 k2 k3 k4 hgr
  have H3 : TSt B bl T (c + (u0 + u2)) w3 v3 (ts ++ (o0 ++ [sgT ⟨#[60, 45]⟩] ++ o2)) := by
    have h := S3.out
    simp only [Nat.add_zero, Nat.add_assoc, List.append_assoc] at h ⊢
    exact h
  have H3' : Hid (TSt B bl T (c + (u0 + u2)) w3 v3 (ts ++ (o0 ++ [sgT ⟨#[60, 45]⟩] ++ o2))) := H3
  have FE : Hid (TFr T bl w w3 v v3) := HF.out.trans F3.out
  clear H3 S3 F3
  go_wp2
  first
    | (go_end0; exact ⟨rfl, v3, H3'.out, FE.out⟩)
    | exact bodyPost_ret (v := .tuple #[]) (by simp [results, Tryz.results100, go_sem]) rfl ⟨rfl, v3, H3'.out, FE.out⟩
set_option maxRecDepth 100000 in
set_option maxHeartbeats 4000000 in
theorem conLets {B bl T : Nat} {n : Nd} (hk : n.kind = 32) {a : Nd} (hkids : n.kids = [a]) {o1 : List TkT} {u1 : Nat} (h1 : TellOK B bl T 23 a o1 u1) : TellOK B bl T 100 n ([wdT ⟨#[108, 101, 116]⟩] ++ o1) (u1) := by
  intro ts v c w o cap hn hS hc hl
  obtain ⟨V, hV, hnV, hSV, hfV, hBx, hx1, hx2, hx3, hx4⟩ := boxed hn hS
  have c0 : V.cell? ⟨w.heap.size, 0, none⟩ = some (.int .i64 n.kind) := hBx.cell 0 _ rfl
  have c1 : V.cell? ⟨w.heap.size, 1, none⟩ = some (.string (bs n.name)) := hBx.cell 1 _ rfl
  have c2 : V.cell? ⟨w.heap.size, 2, none⟩ = some (.int .i64 n.num) := hBx.cell 2 _ rfl
  have c3 : V.cell? ⟨w.heap.size, 3, none⟩ = some (.slice o n.kids.length cap) := hBx.cell 3 _ rfl
  have c4 : V.cell? ⟨w.heap.size, 4, none⟩ = some (.int .i64 n.pos) := hBx.cell 4 _ rfl
  have hlV := hBx.lt
  have HF : Hid (TFr T bl w V v v) := hfV
  have HC : Hid (c + (u1) ≤ 4611686018427387904) := hc
  have Hl : Hid (ts.length + (1 + o1.length) ≤ 1000000000) := by (try simp only [List.length_append, List.length_cons, List.length_nil] at hl); show _ ≤ _; omega
  have hcap1 := hnV.2.1
  have hcap2 := hnV.2.2.1
  obtain ⟨g, off, rfl, hg, hKA⟩ := hnV.1.at 0 (by rw [hkids]; simp)
  have hgV : g < V.heap.size := by have := hSV.lt; have := hSV.1; omega
  have Hg : Hid (g < B) := hg
  have HgV : Hid (g < V.heap.size) := hgV
  have hLn : n.kids.length = 1 := by rw [hkids]; rfl
  have HNa : Hid (NdAt V B a g off) := by
    have := hKA.get _ g off 0 (by rw [hLn]; decide)
    have e : n.kids[0]'(by rw [hLn]; decide) = a := by simp only [hkids]; rfl
    rw [e] at this; exact this
  rw [hLn] at c3 hV hBx ⊢
  clear hLn hcap1 hcap2
  clear hkids hKA hg
  have S0 : Hid (TSt B bl T (c + 0) V v ts) := hSV
  have HSV : Hid (TSt B bl T c V v ts) := hSV
  have F0 : Hid (TFr T bl V V v v) := TFr.refl _ _ _ _
  have HBx : Hid (Blk V w.heap.size #[.int .i64 n.kind, .string (bs n.name), .int .i64 n.num, .slice (some ⟨g, off, none⟩) 1 cap, .int .i64 n.pos] 24) := hBx
  have Hx : Hid (w.heap.size ≠ T ∧ w.heap.size ≠ bl ∧ v.ownBlock ≠ some w.heap.size) := ⟨hx1, hx2, hx3⟩
  have HNV : Hid (NdIn V B n (some ⟨g, off, none⟩) cap) := hnV
  have HH1 : Hid (TellOK B bl T 23 a o1 u1) := h1
  clear h1
  have HMword : Hid (∀ (s : ByteArray) (X : World), Calls Tryz.prog 86 #[.string s] X fun e w' => e = .returned (.agg #[.int .i64 9, .string s, .int .i64 0, .int .i64 0, .int .i64 0, .int .i64 0, .bool false]) ∧ Below X.heap.size X w') := word_c
  have Hk : Hid (n.kind = 32) := hk
  rw [hk] at c0 hV ⊢
  clear hn hS hc hl hnV hSV hfV hBx hx1 hx2 hx3 hk
  go_enter Tryz.func100, Tryz.ntmps100
  go_wp2_with (go_at_call 86; fail)
  refine (HMword.out _ _).mono ?_
  rintro e wm1 ⟨rfl, hbm1⟩
  have Sm1 : Hid (TSt B bl T (c + 0) wm1 v (ts)) := S0.out.below hbm1
  have Fm1 : Hid (TFr T bl V wm1 v v) := F0.out.trans (tfr_below hbm1 v)
  have HP1 : Hid (Calls Tryz.prog 85 #[.pointer (some ⟨T, 0, none⟩), .slice (some ⟨wm1.heap.size, 0, none⟩) 1 1] (wm1.alloc (.cells #[.int .i64 9, .string ⟨#[108, 101, 116]⟩, .int .i64 0, .int .i64 0, .int .i64 0, .int .i64 0, .bool false] 39)) fun e W' => e = .returned (.tuple #[]) ∧ ∃ v'', TSt B bl T (c + 0) W' v'' ((ts) ++ [wdT ⟨#[108, 101, 116]⟩]) ∧ TFr T bl wm1 W' v v'') := put1_c B bl T (c + 0) _ v 9 ⟨#[108, 101, 116]⟩ 0 wm1 Sm1.out (by have := Hl.out; omega)
  clear hbm1
  go_wp2_with (go_at_call 85; fail)
  refine HP1.out.mono ?_
  rintro e w1 ⟨rfl, v1, s1, f1⟩
  have S1 : Hid (TSt B bl T (c + 0) w1 v1 ((ts) ++ [wdT ⟨#[108, 101, 116]⟩])) := s1
  have F1 : Hid (TFr T bl V w1 v v1) := Fm1.out.trans f1
  clear s1 f1 HP1 Sm1 Fm1 S0 F0
  clear c0 c1 c2 c3 c4 hlV
  have hBB2 : Below B V w1 := F1.out.below HSV.out
  obtain ⟨o_a, cap_a, k0, k1, k2, k3, k4, hNk⟩ := kid_in (NdAt.below hBB2 a g off Hg.out HNa.out)
  have HC2 : Hid (Calls Tryz.prog 23 #[.pointer (some ⟨T, 0, none⟩), .agg #[.int .i64 a.kind, .string (bs a.name), .int .i64 a.num, .slice o_a a.kids.length cap_a, .int .i64 a.pos]] w1 fun e W' => e = .returned (.tuple #[]) ∧ ∃ v', TSt B bl T (c + 0 + u1) W' v' (((ts) ++ [wdT ⟨#[108, 101, 116]⟩]) ++ o1) ∧ TFr T bl w1 W' v1 v') := HH1.out ((ts) ++ [wdT ⟨#[108, 101, 116]⟩]) v1 (c + 0) w1 o_a cap_a hNk S1.out (by have := HC.out; omega) (by have := Hl.out; simp only [List.length_append, List.length_cons, List.length_nil]; omega)
  have hgr : g < w1.heap.size := Nat.lt_of_lt_of_le HgV.out hBB2.size
  clear hBB2 hNk
  go_wp2_with (go_at_call 23; fail)
  refine HC2.out.mono ?_
  rintro e w2 ⟨rfl, v2, s2, f2⟩
  have S2 : Hid (TSt B bl T (c + 0 + u1) w2 v2 (((ts) ++ [wdT ⟨#[108, 101, 116]⟩]) ++ o1)) := s2
  have F2 : Hid (TFr T bl V w2 v v2) := F1.out.trans f2
  clear s2 f2 HC2 S1 F1 k0 k1 k2 k3 k4 hgr
  have H3 : TSt B bl T (c + (u1)) w2 v2 (ts ++ ([wdT ⟨#[108, 101, 116]⟩] ++ o1)) := by
    have h := S2.out
    simp only [Nat.add_zero, Nat.add_assoc, List.append_assoc] at h ⊢
    exact h
  have H3' : Hid (TSt B bl T (c + (u1)) w2 v2 (ts ++ ([wdT ⟨#[108, 101, 116]⟩] ++ o1))) := H3
  have FE : Hid (TFr T bl w w2 v v2) := HF.out.trans F2.out
  clear H3 S2 F2
  go_wp2
  first
    | (go_end0; exact ⟨rfl, v2, H3'.out, FE.out⟩)
    | exact bodyPost_ret (v := .tuple #[]) (by simp [results, Tryz.results100, go_sem]) rfl ⟨rfl, v2, H3'.out, FE.out⟩
set_option maxRecDepth 100000 in
set_option maxHeartbeats 4000000 in
theorem conStmt {B bl T : Nat} {n : Nd} (hk : n.kind = 33) {a : Nd} (hkids : n.kids = [a]) {o0 : List TkT} {u0 : Nat} (h0 : TellOK B bl T 23 a o0 u0) : TellOK B bl T 100 n (o0) (u0) := by
  intro ts v c w o cap hn hS hc hl
  obtain ⟨V, hV, hnV, hSV, hfV, hBx, hx1, hx2, hx3, hx4⟩ := boxed hn hS
  have c0 : V.cell? ⟨w.heap.size, 0, none⟩ = some (.int .i64 n.kind) := hBx.cell 0 _ rfl
  have c1 : V.cell? ⟨w.heap.size, 1, none⟩ = some (.string (bs n.name)) := hBx.cell 1 _ rfl
  have c2 : V.cell? ⟨w.heap.size, 2, none⟩ = some (.int .i64 n.num) := hBx.cell 2 _ rfl
  have c3 : V.cell? ⟨w.heap.size, 3, none⟩ = some (.slice o n.kids.length cap) := hBx.cell 3 _ rfl
  have c4 : V.cell? ⟨w.heap.size, 4, none⟩ = some (.int .i64 n.pos) := hBx.cell 4 _ rfl
  have hlV := hBx.lt
  have HF : Hid (TFr T bl w V v v) := hfV
  have HC : Hid (c + (u0) ≤ 4611686018427387904) := hc
  have Hl : Hid (ts.length + (o0.length) ≤ 1000000000) := by (try simp only [List.length_append, List.length_cons, List.length_nil] at hl); show _ ≤ _; omega
  have hcap1 := hnV.2.1
  have hcap2 := hnV.2.2.1
  obtain ⟨g, off, rfl, hg, hKA⟩ := hnV.1.at 0 (by rw [hkids]; simp)
  have hgV : g < V.heap.size := by have := hSV.lt; have := hSV.1; omega
  have Hg : Hid (g < B) := hg
  have HgV : Hid (g < V.heap.size) := hgV
  have hLn : n.kids.length = 1 := by rw [hkids]; rfl
  have HNa : Hid (NdAt V B a g off) := by
    have := hKA.get _ g off 0 (by rw [hLn]; decide)
    have e : n.kids[0]'(by rw [hLn]; decide) = a := by simp only [hkids]; rfl
    rw [e] at this; exact this
  rw [hLn] at c3 hV hBx ⊢
  clear hLn hcap1 hcap2
  clear hkids hKA hg
  have S0 : Hid (TSt B bl T (c + 0) V v ts) := hSV
  have HSV : Hid (TSt B bl T c V v ts) := hSV
  have F0 : Hid (TFr T bl V V v v) := TFr.refl _ _ _ _
  have HBx : Hid (Blk V w.heap.size #[.int .i64 n.kind, .string (bs n.name), .int .i64 n.num, .slice (some ⟨g, off, none⟩) 1 cap, .int .i64 n.pos] 24) := hBx
  have Hx : Hid (w.heap.size ≠ T ∧ w.heap.size ≠ bl ∧ v.ownBlock ≠ some w.heap.size) := ⟨hx1, hx2, hx3⟩
  have HNV : Hid (NdIn V B n (some ⟨g, off, none⟩) cap) := hnV
  have HH0 : Hid (TellOK B bl T 23 a o0 u0) := h0
  clear h0
  have Hk : Hid (n.kind = 33) := hk
  rw [hk] at c0 hV ⊢
  clear hn hS hc hl hnV hSV hfV hBx hx1 hx2 hx3 hk
  go_enter Tryz.func100, Tryz.ntmps100
  have hBB1 : Below B V V := F0.out.below HSV.out
  obtain ⟨o_a, cap_a, k0, k1, k2, k3, k4, hNk⟩ := kid_in (NdAt.below hBB1 a g off Hg.out HNa.out)
  have HC1 : Hid (Calls Tryz.prog 23 #[.pointer (some ⟨T, 0, none⟩), .agg #[.int .i64 a.kind, .string (bs a.name), .int .i64 a.num, .slice o_a a.kids.length cap_a, .int .i64 a.pos]] V fun e W' => e = .returned (.tuple #[]) ∧ ∃ v', TSt B bl T (c + 0 + u0) W' v' ((ts) ++ o0) ∧ TFr T bl V W' v v') := HH0.out (ts) v (c + 0) V o_a cap_a hNk S0.out (by have := HC.out; omega) (by have := Hl.out; omega)
  have hgr : g < V.heap.size := Nat.lt_of_lt_of_le HgV.out hBB1.size
  clear hBB1 hNk
  go_wp2_with (go_at_call 23; fail)
  refine HC1.out.mono ?_
  rintro e w1 ⟨rfl, v1, s1, f1⟩
  have S1 : Hid (TSt B bl T (c + 0 + u0) w1 v1 ((ts) ++ o0)) := s1
  have F1 : Hid (TFr T bl V w1 v v1) := F0.out.trans f1
  clear s1 f1 HC1 S0 F0 k0 k1 k2 k3 k4 hgr
  clear c0 c1 c2 c3 c4 hlV
  have H3 : TSt B bl T (c + (u0)) w1 v1 (ts ++ (o0)) := by
    have h := S1.out
    simp only [Nat.add_zero, Nat.add_assoc, List.append_assoc] at h ⊢
    exact h
  have H3' : Hid (TSt B bl T (c + (u0)) w1 v1 (ts ++ (o0))) := H3
  have FE : Hid (TFr T bl w w1 v v1) := HF.out.trans F1.out
  clear H3 S1 F1
  go_wp2
  first
    | (go_end0; exact ⟨rfl, v1, H3'.out, FE.out⟩)
    | exact bodyPost_ret (v := .tuple #[]) (by simp [results, Tryz.results100, go_sem]) rfl ⟨rfl, v1, H3'.out, FE.out⟩
set_option maxRecDepth 100000 in
set_option maxHeartbeats 4000000 in
theorem patAny {B bl T : Nat} {n : Nd} (hk : n.kind = 35) : TellOK B bl T 47 n ([wdT ⟨#[95]⟩]) (0) := by
  intro ts v c w o cap hn hS hc hl
  obtain ⟨V, hV, hnV, hSV, hfV, hBx, hx1, hx2, hx3, hx4⟩ := boxed hn hS
  have c0 : V.cell? ⟨w.heap.size, 0, none⟩ = some (.int .i64 n.kind) := hBx.cell 0 _ rfl
  have c1 : V.cell? ⟨w.heap.size, 1, none⟩ = some (.string (bs n.name)) := hBx.cell 1 _ rfl
  have c2 : V.cell? ⟨w.heap.size, 2, none⟩ = some (.int .i64 n.num) := hBx.cell 2 _ rfl
  have c3 : V.cell? ⟨w.heap.size, 3, none⟩ = some (.slice o n.kids.length cap) := hBx.cell 3 _ rfl
  have c4 : V.cell? ⟨w.heap.size, 4, none⟩ = some (.int .i64 n.pos) := hBx.cell 4 _ rfl
  have hlV := hBx.lt
  have HF : Hid (TFr T bl w V v v) := hfV
  have HC : Hid (c + (0) ≤ 4611686018427387904) := hc
  have Hl : Hid (ts.length + (1) ≤ 1000000000) := by (try simp only [List.length_append, List.length_cons, List.length_nil] at hl); show _ ≤ _; omega
  have S0 : Hid (TSt B bl T (c + 0) V v ts) := hSV
  have HSV : Hid (TSt B bl T c V v ts) := hSV
  have F0 : Hid (TFr T bl V V v v) := TFr.refl _ _ _ _
  have HBx : Hid (Blk V w.heap.size #[.int .i64 n.kind, .string (bs n.name), .int .i64 n.num, .slice o n.kids.length cap, .int .i64 n.pos] 24) := hBx
  have Hx : Hid (w.heap.size ≠ T ∧ w.heap.size ≠ bl ∧ v.ownBlock ≠ some w.heap.size) := ⟨hx1, hx2, hx3⟩
  have HNV : Hid (NdIn V B n o cap) := hnV
  have HMword : Hid (∀ (s : ByteArray) (X : World), Calls Tryz.prog 86 #[.string s] X fun e w' => e = .returned (.agg #[.int .i64 9, .string s, .int .i64 0, .int .i64 0, .int .i64 0, .int .i64 0, .bool false]) ∧ Below X.heap.size X w') := word_c
  have Hk : Hid (n.kind = 35) := hk
  rw [hk] at c0 hV ⊢
  clear hn hS hc hl hnV hSV hfV hBx hx1 hx2 hx3 hk
  go_enter Tryz.func47, Tryz.ntmps47
  go_wp2_with (go_at_call 86; fail)
  refine (HMword.out _ _).mono ?_
  rintro e wm1 ⟨rfl, hbm1⟩
  have Sm1 : Hid (TSt B bl T (c + 0) wm1 v (ts)) := S0.out.below hbm1
  have Fm1 : Hid (TFr T bl V wm1 v v) := F0.out.trans (tfr_below hbm1 v)
  have HP1 : Hid (Calls Tryz.prog 85 #[.pointer (some ⟨T, 0, none⟩), .slice (some ⟨wm1.heap.size, 0, none⟩) 1 1] (wm1.alloc (.cells #[.int .i64 9, .string ⟨#[95]⟩, .int .i64 0, .int .i64 0, .int .i64 0, .int .i64 0, .bool false] 39)) fun e W' => e = .returned (.tuple #[]) ∧ ∃ v'', TSt B bl T (c + 0) W' v'' ((ts) ++ [wdT ⟨#[95]⟩]) ∧ TFr T bl wm1 W' v v'') := put1_c B bl T (c + 0) _ v 9 ⟨#[95]⟩ 0 wm1 Sm1.out (by have := Hl.out; omega)
  clear hbm1
  go_wp2_with (go_at_call 85; fail)
  refine HP1.out.mono ?_
  rintro e w1 ⟨rfl, v1, s1, f1⟩
  have S1 : Hid (TSt B bl T (c + 0) w1 v1 ((ts) ++ [wdT ⟨#[95]⟩])) := s1
  have F1 : Hid (TFr T bl V w1 v v1) := Fm1.out.trans f1
  clear s1 f1 HP1 Sm1 Fm1 S0 F0
  clear c0 c1 c2 c3 c4 hlV
  have H3 : TSt B bl T (c + (0)) w1 v1 (ts ++ ([wdT ⟨#[95]⟩])) := by
    have h := S1.out
    simp only [Nat.add_zero, Nat.add_assoc, List.append_assoc] at h ⊢
    exact h
  have H3' : Hid (TSt B bl T (c + (0)) w1 v1 (ts ++ ([wdT ⟨#[95]⟩]))) := H3
  have FE : Hid (TFr T bl w w1 v v1) := HF.out.trans F1.out
  clear H3 S1 F1
  go_wp2
  first
    | (go_end0; exact ⟨rfl, v1, H3'.out, FE.out⟩)
    | exact bodyPost_ret (v := .tuple #[]) (by simp [results, Tryz.results47, go_sem]) rfl ⟨rfl, v1, H3'.out, FE.out⟩
set_option maxRecDepth 100000 in
set_option maxHeartbeats 4000000 in
theorem patAs {B bl T : Nat} {n : Nd} (hk : n.kind = 42) {a : Nd} (hkids : n.kids = [a]) {o0 : List TkT} {u0 : Nat} (h0 : StrOK B bl T 87 (bs n.name) o0 u0) {o2 : List TkT} {u2 : Nat} (h2 : TellOK B bl T 98 a o2 u2) : TellOK B bl T 47 n (o0 ++ [sgT ⟨#[64]⟩] ++ o2) (u0 + u2) := by
  intro ts v c w o cap hn hS hc hl
  obtain ⟨V, hV, hnV, hSV, hfV, hBx, hx1, hx2, hx3, hx4⟩ := boxed hn hS
  have c0 : V.cell? ⟨w.heap.size, 0, none⟩ = some (.int .i64 n.kind) := hBx.cell 0 _ rfl
  have c1 : V.cell? ⟨w.heap.size, 1, none⟩ = some (.string (bs n.name)) := hBx.cell 1 _ rfl
  have c2 : V.cell? ⟨w.heap.size, 2, none⟩ = some (.int .i64 n.num) := hBx.cell 2 _ rfl
  have c3 : V.cell? ⟨w.heap.size, 3, none⟩ = some (.slice o n.kids.length cap) := hBx.cell 3 _ rfl
  have c4 : V.cell? ⟨w.heap.size, 4, none⟩ = some (.int .i64 n.pos) := hBx.cell 4 _ rfl
  have hlV := hBx.lt
  have HF : Hid (TFr T bl w V v v) := hfV
  have HC : Hid (c + (u0 + u2) ≤ 4611686018427387904) := hc
  have Hl : Hid (ts.length + (o0.length + 1 + o2.length) ≤ 1000000000) := by (try simp only [List.length_append, List.length_cons, List.length_nil] at hl); show _ ≤ _; omega
  have hcap1 := hnV.2.1
  have hcap2 := hnV.2.2.1
  obtain ⟨g, off, rfl, hg, hKA⟩ := hnV.1.at 0 (by rw [hkids]; simp)
  have hgV : g < V.heap.size := by have := hSV.lt; have := hSV.1; omega
  have Hg : Hid (g < B) := hg
  have HgV : Hid (g < V.heap.size) := hgV
  have hLn : n.kids.length = 1 := by rw [hkids]; rfl
  have HNa : Hid (NdAt V B a g off) := by
    have := hKA.get _ g off 0 (by rw [hLn]; decide)
    have e : n.kids[0]'(by rw [hLn]; decide) = a := by simp only [hkids]; rfl
    rw [e] at this; exact this
  rw [hLn] at c3 hV hBx ⊢
  clear hLn hcap1 hcap2
  clear hkids hKA hg
  have S0 : Hid (TSt B bl T (c + 0) V v ts) := hSV
  have HSV : Hid (TSt B bl T c V v ts) := hSV
  have F0 : Hid (TFr T bl V V v v) := TFr.refl _ _ _ _
  have HBx : Hid (Blk V w.heap.size #[.int .i64 n.kind, .string (bs n.name), .int .i64 n.num, .slice (some ⟨g, off, none⟩) 1 cap, .int .i64 n.pos] 24) := hBx
  have Hx : Hid (w.heap.size ≠ T ∧ w.heap.size ≠ bl ∧ v.ownBlock ≠ some w.heap.size) := ⟨hx1, hx2, hx3⟩
  have HNV : Hid (NdIn V B n (some ⟨g, off, none⟩) cap) := hnV
  have HH0 : Hid (StrOK B bl T 87 (bs n.name) o0 u0) := h0
  clear h0
  have HH2 : Hid (TellOK B bl T 98 a o2 u2) := h2
  clear h2
  have HMsign : Hid (∀ (s : ByteArray) (X : World), Calls Tryz.prog 88 #[.string s] X fun e w' => e = .returned (.agg #[.int .i64 10, .string s, .int .i64 0, .int .i64 0, .int .i64 0, .int .i64 0, .bool false]) ∧ Below X.heap.size X w') := sign_c
  have Hk : Hid (n.kind = 42) := hk
  rw [hk] at c0 hV ⊢
  clear hn hS hc hl hnV hSV hfV hBx hx1 hx2 hx3 hk
  go_enter Tryz.func47, Tryz.ntmps47
  have HC1 : Hid (Calls Tryz.prog 87 #[.pointer (some ⟨T, 0, none⟩), .string (bs n.name)] V fun e W' => e = .returned (.tuple #[]) ∧ ∃ v', TSt B bl T (c + 0 + u0) W' v' ((ts) ++ o0) ∧ TFr T bl V W' v v') := HH0.out (ts) v (c + 0) V S0.out (by have := HC.out; omega) (by have := Hl.out; omega)
  go_wp2_with (go_at_call 87; fail)
  refine HC1.out.mono ?_
  rintro e w1 ⟨rfl, v1, s1, f1⟩
  have S1 : Hid (TSt B bl T (c + 0 + u0) w1 v1 ((ts) ++ o0)) := s1
  have F1 : Hid (TFr T bl V w1 v v1) := F0.out.trans f1
  clear s1 f1 HC1 S0 F0 
  clear c0 c1 c2 c3 c4 hlV
  go_wp2_with (go_at_call 88; fail)
  refine (HMsign.out _ _).mono ?_
  rintro e wm2 ⟨rfl, hbm2⟩
  have Sm2 : Hid (TSt B bl T (c + 0 + u0) wm2 v1 ((ts) ++ o0)) := S1.out.below hbm2
  have Fm2 : Hid (TFr T bl V wm2 v v1) := F1.out.trans (tfr_below hbm2 v1)
  have HP2 : Hid (Calls Tryz.prog 85 #[.pointer (some ⟨T, 0, none⟩), .slice (some ⟨wm2.heap.size, 0, none⟩) 1 1] (wm2.alloc (.cells #[.int .i64 10, .string ⟨#[64]⟩, .int .i64 0, .int .i64 0, .int .i64 0, .int .i64 0, .bool false] 39)) fun e W' => e = .returned (.tuple #[]) ∧ ∃ v'', TSt B bl T (c + 0 + u0) W' v'' (((ts) ++ o0) ++ [sgT ⟨#[64]⟩]) ∧ TFr T bl wm2 W' v1 v'') := put1_c B bl T (c + 0 + u0) _ v1 10 ⟨#[64]⟩ 0 wm2 Sm2.out (by have := Hl.out; simp only [List.length_append, List.length_cons, List.length_nil]; omega)
  clear hbm2
  go_wp2_with (go_at_call 85; fail)
  refine HP2.out.mono ?_
  rintro e w2 ⟨rfl, v2, s2, f2⟩
  have S2 : Hid (TSt B bl T (c + 0 + u0) w2 v2 (((ts) ++ o0) ++ [sgT ⟨#[64]⟩])) := s2
  have F2 : Hid (TFr T bl V w2 v v2) := Fm2.out.trans f2
  clear s2 f2 HP2 Sm2 Fm2 S1 F1
  have hBB3 : Below B V w2 := F2.out.below HSV.out
  obtain ⟨o_a, cap_a, k0, k1, k2, k3, k4, hNk⟩ := kid_in (NdAt.below hBB3 a g off Hg.out HNa.out)
  have HC3 : Hid (Calls Tryz.prog 98 #[.pointer (some ⟨T, 0, none⟩), .agg #[.int .i64 a.kind, .string (bs a.name), .int .i64 a.num, .slice o_a a.kids.length cap_a, .int .i64 a.pos]] w2 fun e W' => e = .returned (.tuple #[]) ∧ ∃ v', TSt B bl T (c + 0 + u0 + u2) W' v' ((((ts) ++ o0) ++ [sgT ⟨#[64]⟩]) ++ o2) ∧ TFr T bl w2 W' v2 v') := HH2.out (((ts) ++ o0) ++ [sgT ⟨#[64]⟩]) v2 (c + 0 + u0) w2 o_a cap_a hNk S2.out (by have := HC.out; omega) (by have := Hl.out; simp only [List.length_append, List.length_cons, List.length_nil]; omega)
  have hgr : g < w2.heap.size := Nat.lt_of_lt_of_le HgV.out hBB3.size
  clear hBB3 hNk
  go_wp2_with (go_at_call 98; fail)
  refine HC3.out.mono ?_
  rintro e w3 ⟨rfl, v3, s3, f3⟩
  have S3 : Hid (TSt B bl T (c + 0 + u0 + u2) w3 v3 ((((ts) ++ o0) ++ [sgT ⟨#[64]⟩]) ++ o2)) := s3
  have F3 : Hid (TFr T bl V w3 v v3) := F2.out.trans f3
  clear s3 f3 HC3 S2 F2 k0 k1 k2 k3 k4 hgr
  have H3 : TSt B bl T (c + (u0 + u2)) w3 v3 (ts ++ (o0 ++ [sgT ⟨#[64]⟩] ++ o2)) := by
    have h := S3.out
    simp only [Nat.add_zero, Nat.add_assoc, List.append_assoc] at h ⊢
    exact h
  have H3' : Hid (TSt B bl T (c + (u0 + u2)) w3 v3 (ts ++ (o0 ++ [sgT ⟨#[64]⟩] ++ o2))) := H3
  have FE : Hid (TFr T bl w w3 v v3) := HF.out.trans F3.out
  clear H3 S3 F3
  go_wp2
  first
    | (go_end0; exact ⟨rfl, v3, H3'.out, FE.out⟩)
    | exact bodyPost_ret (v := .tuple #[]) (by simp [results, Tryz.results47, go_sem]) rfl ⟨rfl, v3, H3'.out, FE.out⟩
set_option maxRecDepth 100000 in
set_option maxHeartbeats 4000000 in
theorem patLazy {B bl T : Nat} {n : Nd} (hk : n.kind = 43) {a : Nd} (hkids : n.kids = [a]) {o1 : List TkT} {u1 : Nat} (h1 : TellOK B bl T 98 a o1 u1) : TellOK B bl T 47 n ([sgT ⟨#[126]⟩] ++ o1) (u1) := by
  intro ts v c w o cap hn hS hc hl
  obtain ⟨V, hV, hnV, hSV, hfV, hBx, hx1, hx2, hx3, hx4⟩ := boxed hn hS
  have c0 : V.cell? ⟨w.heap.size, 0, none⟩ = some (.int .i64 n.kind) := hBx.cell 0 _ rfl
  have c1 : V.cell? ⟨w.heap.size, 1, none⟩ = some (.string (bs n.name)) := hBx.cell 1 _ rfl
  have c2 : V.cell? ⟨w.heap.size, 2, none⟩ = some (.int .i64 n.num) := hBx.cell 2 _ rfl
  have c3 : V.cell? ⟨w.heap.size, 3, none⟩ = some (.slice o n.kids.length cap) := hBx.cell 3 _ rfl
  have c4 : V.cell? ⟨w.heap.size, 4, none⟩ = some (.int .i64 n.pos) := hBx.cell 4 _ rfl
  have hlV := hBx.lt
  have HF : Hid (TFr T bl w V v v) := hfV
  have HC : Hid (c + (u1) ≤ 4611686018427387904) := hc
  have Hl : Hid (ts.length + (1 + o1.length) ≤ 1000000000) := by (try simp only [List.length_append, List.length_cons, List.length_nil] at hl); show _ ≤ _; omega
  have hcap1 := hnV.2.1
  have hcap2 := hnV.2.2.1
  obtain ⟨g, off, rfl, hg, hKA⟩ := hnV.1.at 0 (by rw [hkids]; simp)
  have hgV : g < V.heap.size := by have := hSV.lt; have := hSV.1; omega
  have Hg : Hid (g < B) := hg
  have HgV : Hid (g < V.heap.size) := hgV
  have hLn : n.kids.length = 1 := by rw [hkids]; rfl
  have HNa : Hid (NdAt V B a g off) := by
    have := hKA.get _ g off 0 (by rw [hLn]; decide)
    have e : n.kids[0]'(by rw [hLn]; decide) = a := by simp only [hkids]; rfl
    rw [e] at this; exact this
  rw [hLn] at c3 hV hBx ⊢
  clear hLn hcap1 hcap2
  clear hkids hKA hg
  have S0 : Hid (TSt B bl T (c + 0) V v ts) := hSV
  have HSV : Hid (TSt B bl T c V v ts) := hSV
  have F0 : Hid (TFr T bl V V v v) := TFr.refl _ _ _ _
  have HBx : Hid (Blk V w.heap.size #[.int .i64 n.kind, .string (bs n.name), .int .i64 n.num, .slice (some ⟨g, off, none⟩) 1 cap, .int .i64 n.pos] 24) := hBx
  have Hx : Hid (w.heap.size ≠ T ∧ w.heap.size ≠ bl ∧ v.ownBlock ≠ some w.heap.size) := ⟨hx1, hx2, hx3⟩
  have HNV : Hid (NdIn V B n (some ⟨g, off, none⟩) cap) := hnV
  have HH1 : Hid (TellOK B bl T 98 a o1 u1) := h1
  clear h1
  have HMsign : Hid (∀ (s : ByteArray) (X : World), Calls Tryz.prog 88 #[.string s] X fun e w' => e = .returned (.agg #[.int .i64 10, .string s, .int .i64 0, .int .i64 0, .int .i64 0, .int .i64 0, .bool false]) ∧ Below X.heap.size X w') := sign_c
  have Hk : Hid (n.kind = 43) := hk
  rw [hk] at c0 hV ⊢
  clear hn hS hc hl hnV hSV hfV hBx hx1 hx2 hx3 hk
  go_enter Tryz.func47, Tryz.ntmps47
  go_wp2_with (go_at_call 88; fail)
  refine (HMsign.out _ _).mono ?_
  rintro e wm1 ⟨rfl, hbm1⟩
  have Sm1 : Hid (TSt B bl T (c + 0) wm1 v (ts)) := S0.out.below hbm1
  have Fm1 : Hid (TFr T bl V wm1 v v) := F0.out.trans (tfr_below hbm1 v)
  have HP1 : Hid (Calls Tryz.prog 85 #[.pointer (some ⟨T, 0, none⟩), .slice (some ⟨wm1.heap.size, 0, none⟩) 1 1] (wm1.alloc (.cells #[.int .i64 10, .string ⟨#[126]⟩, .int .i64 0, .int .i64 0, .int .i64 0, .int .i64 0, .bool false] 39)) fun e W' => e = .returned (.tuple #[]) ∧ ∃ v'', TSt B bl T (c + 0) W' v'' ((ts) ++ [sgT ⟨#[126]⟩]) ∧ TFr T bl wm1 W' v v'') := put1_c B bl T (c + 0) _ v 10 ⟨#[126]⟩ 0 wm1 Sm1.out (by have := Hl.out; omega)
  clear hbm1
  go_wp2_with (go_at_call 85; fail)
  refine HP1.out.mono ?_
  rintro e w1 ⟨rfl, v1, s1, f1⟩
  have S1 : Hid (TSt B bl T (c + 0) w1 v1 ((ts) ++ [sgT ⟨#[126]⟩])) := s1
  have F1 : Hid (TFr T bl V w1 v v1) := Fm1.out.trans f1
  clear s1 f1 HP1 Sm1 Fm1 S0 F0
  clear c0 c1 c2 c3 c4 hlV
  have hBB2 : Below B V w1 := F1.out.below HSV.out
  obtain ⟨o_a, cap_a, k0, k1, k2, k3, k4, hNk⟩ := kid_in (NdAt.below hBB2 a g off Hg.out HNa.out)
  have HC2 : Hid (Calls Tryz.prog 98 #[.pointer (some ⟨T, 0, none⟩), .agg #[.int .i64 a.kind, .string (bs a.name), .int .i64 a.num, .slice o_a a.kids.length cap_a, .int .i64 a.pos]] w1 fun e W' => e = .returned (.tuple #[]) ∧ ∃ v', TSt B bl T (c + 0 + u1) W' v' (((ts) ++ [sgT ⟨#[126]⟩]) ++ o1) ∧ TFr T bl w1 W' v1 v') := HH1.out ((ts) ++ [sgT ⟨#[126]⟩]) v1 (c + 0) w1 o_a cap_a hNk S1.out (by have := HC.out; omega) (by have := Hl.out; simp only [List.length_append, List.length_cons, List.length_nil]; omega)
  have hgr : g < w1.heap.size := Nat.lt_of_lt_of_le HgV.out hBB2.size
  clear hBB2 hNk
  go_wp2_with (go_at_call 98; fail)
  refine HC2.out.mono ?_
  rintro e w2 ⟨rfl, v2, s2, f2⟩
  have S2 : Hid (TSt B bl T (c + 0 + u1) w2 v2 (((ts) ++ [sgT ⟨#[126]⟩]) ++ o1)) := s2
  have F2 : Hid (TFr T bl V w2 v v2) := F1.out.trans f2
  clear s2 f2 HC2 S1 F1 k0 k1 k2 k3 k4 hgr
  have H3 : TSt B bl T (c + (u1)) w2 v2 (ts ++ ([sgT ⟨#[126]⟩] ++ o1)) := by
    have h := S2.out
    simp only [Nat.add_zero, Nat.add_assoc, List.append_assoc] at h ⊢
    exact h
  have H3' : Hid (TSt B bl T (c + (u1)) w2 v2 (ts ++ ([sgT ⟨#[126]⟩] ++ o1))) := H3
  have FE : Hid (TFr T bl w w2 v v2) := HF.out.trans F2.out
  clear H3 S2 F2
  go_wp2
  first
    | (go_end0; exact ⟨rfl, v2, H3'.out, FE.out⟩)
    | exact bodyPost_ret (v := .tuple #[]) (by simp [results, Tryz.results47, go_sem]) rfl ⟨rfl, v2, H3'.out, FE.out⟩
set_option maxRecDepth 100000 in
set_option maxHeartbeats 4000000 in
theorem exprK20 {B bl T : Nat} {n : Nd} (hk : n.kind = 20) {o0 : List TkT} {u0 : Nat} (h0 : TellOK B bl T 100 n o0 u0) : TellOK B bl T 46 n (o0) (u0) := by
  intro ts v c w o cap hn hS hc hl
  obtain ⟨V, hV, hnV, hSV, hfV, hBx, hx1, hx2, hx3, hx4⟩ := boxed hn hS
  have c0 : V.cell? ⟨w.heap.size, 0, none⟩ = some (.int .i64 n.kind) := hBx.cell 0 _ rfl
  have c1 : V.cell? ⟨w.heap.size, 1, none⟩ = some (.string (bs n.name)) := hBx.cell 1 _ rfl
  have c2 : V.cell? ⟨w.heap.size, 2, none⟩ = some (.int .i64 n.num) := hBx.cell 2 _ rfl
  have c3 : V.cell? ⟨w.heap.size, 3, none⟩ = some (.slice o n.kids.length cap) := hBx.cell 3 _ rfl
  have c4 : V.cell? ⟨w.heap.size, 4, none⟩ = some (.int .i64 n.pos) := hBx.cell 4 _ rfl
  have hlV := hBx.lt
  have HF : Hid (TFr T bl w V v v) := hfV
  have HC : Hid (c + (u0) ≤ 4611686018427387904) := hc
  have Hl : Hid (ts.length + (o0.length) ≤ 1000000000) := by (try simp only [List.length_append, List.length_cons, List.length_nil] at hl); show _ ≤ _; omega
  have S0 : Hid (TSt B bl T (c + 0) V v ts) := hSV
  have HSV : Hid (TSt B bl T c V v ts) := hSV
  have F0 : Hid (TFr T bl V V v v) := TFr.refl _ _ _ _
  have HBx : Hid (Blk V w.heap.size #[.int .i64 n.kind, .string (bs n.name), .int .i64 n.num, .slice o n.kids.length cap, .int .i64 n.pos] 24) := hBx
  have Hx : Hid (w.heap.size ≠ T ∧ w.heap.size ≠ bl ∧ v.ownBlock ≠ some w.heap.size) := ⟨hx1, hx2, hx3⟩
  have HNV : Hid (NdIn V B n o cap) := hnV
  have HH0 : Hid (TellOK B bl T 100 n o0 u0) := h0
  clear h0
  have Hk : Hid (n.kind = 20) := hk
  rw [hk] at c0 hV ⊢
  clear hn hS hc hl hnV hSV hfV hBx hx1 hx2 hx3 hk
  go_enter Tryz.func46, Tryz.ntmps46
  have hBB1 : Below B V V := F0.out.below HSV.out
  have HC1 : Hid (Calls Tryz.prog 100 #[.pointer (some ⟨T, 0, none⟩), .agg #[.int .i64 20, .string (bs n.name), .int .i64 n.num, .slice o n.kids.length cap, .int .i64 n.pos]] V fun e W' => e = .returned (.tuple #[]) ∧ ∃ v', TSt B bl T (c + 0 + u0) W' v' ((ts) ++ o0) ∧ TFr T bl V W' v v') := by rw [← Hk.out]; exact HH0.out (ts) v (c + 0) V _ cap (HNV.out.below hBB1) S0.out (by have := HC.out; omega) (by have := Hl.out; omega)
  clear hBB1
  go_wp2_with (go_at_call 100; fail)
  refine HC1.out.mono ?_
  rintro e w1 ⟨rfl, v1, s1, f1⟩
  have S1 : Hid (TSt B bl T (c + 0 + u0) w1 v1 ((ts) ++ o0)) := s1
  have F1 : Hid (TFr T bl V w1 v v1) := F0.out.trans f1
  clear s1 f1 HC1 S0 F0 
  clear c0 c1 c2 c3 c4 hlV
  have H3 : TSt B bl T (c + (u0)) w1 v1 (ts ++ (o0)) := by
    have h := S1.out
    simp only [Nat.add_zero, Nat.add_assoc, List.append_assoc] at h ⊢
    exact h
  have H3' : Hid (TSt B bl T (c + (u0)) w1 v1 (ts ++ (o0))) := H3
  have FE : Hid (TFr T bl w w1 v v1) := HF.out.trans F1.out
  clear H3 S1 F1
  go_wp2
  first
    | (go_end0; exact ⟨rfl, v1, H3'.out, FE.out⟩)
    | exact bodyPost_ret (v := .tuple #[]) (by simp [results, Tryz.results46, go_sem]) rfl ⟨rfl, v1, H3'.out, FE.out⟩
set_option maxRecDepth 100000 in
set_option maxHeartbeats 4000000 in
theorem exprK21 {B bl T : Nat} {n : Nd} (hk : n.kind = 21) {o0 : List TkT} {u0 : Nat} (h0 : TellOK B bl T 100 n o0 u0) : TellOK B bl T 46 n (o0) (u0) := by
  intro ts v c w o cap hn hS hc hl
  obtain ⟨V, hV, hnV, hSV, hfV, hBx, hx1, hx2, hx3, hx4⟩ := boxed hn hS
  have c0 : V.cell? ⟨w.heap.size, 0, none⟩ = some (.int .i64 n.kind) := hBx.cell 0 _ rfl
  have c1 : V.cell? ⟨w.heap.size, 1, none⟩ = some (.string (bs n.name)) := hBx.cell 1 _ rfl
  have c2 : V.cell? ⟨w.heap.size, 2, none⟩ = some (.int .i64 n.num) := hBx.cell 2 _ rfl
  have c3 : V.cell? ⟨w.heap.size, 3, none⟩ = some (.slice o n.kids.length cap) := hBx.cell 3 _ rfl
  have c4 : V.cell? ⟨w.heap.size, 4, none⟩ = some (.int .i64 n.pos) := hBx.cell 4 _ rfl
  have hlV := hBx.lt
  have HF : Hid (TFr T bl w V v v) := hfV
  have HC : Hid (c + (u0) ≤ 4611686018427387904) := hc
  have Hl : Hid (ts.length + (o0.length) ≤ 1000000000) := by (try simp only [List.length_append, List.length_cons, List.length_nil] at hl); show _ ≤ _; omega
  have S0 : Hid (TSt B bl T (c + 0) V v ts) := hSV
  have HSV : Hid (TSt B bl T c V v ts) := hSV
  have F0 : Hid (TFr T bl V V v v) := TFr.refl _ _ _ _
  have HBx : Hid (Blk V w.heap.size #[.int .i64 n.kind, .string (bs n.name), .int .i64 n.num, .slice o n.kids.length cap, .int .i64 n.pos] 24) := hBx
  have Hx : Hid (w.heap.size ≠ T ∧ w.heap.size ≠ bl ∧ v.ownBlock ≠ some w.heap.size) := ⟨hx1, hx2, hx3⟩
  have HNV : Hid (NdIn V B n o cap) := hnV
  have HH0 : Hid (TellOK B bl T 100 n o0 u0) := h0
  clear h0
  have Hk : Hid (n.kind = 21) := hk
  rw [hk] at c0 hV ⊢
  clear hn hS hc hl hnV hSV hfV hBx hx1 hx2 hx3 hk
  go_enter Tryz.func46, Tryz.ntmps46
  have hBB1 : Below B V V := F0.out.below HSV.out
  have HC1 : Hid (Calls Tryz.prog 100 #[.pointer (some ⟨T, 0, none⟩), .agg #[.int .i64 21, .string (bs n.name), .int .i64 n.num, .slice o n.kids.length cap, .int .i64 n.pos]] V fun e W' => e = .returned (.tuple #[]) ∧ ∃ v', TSt B bl T (c + 0 + u0) W' v' ((ts) ++ o0) ∧ TFr T bl V W' v v') := by rw [← Hk.out]; exact HH0.out (ts) v (c + 0) V _ cap (HNV.out.below hBB1) S0.out (by have := HC.out; omega) (by have := Hl.out; omega)
  clear hBB1
  go_wp2_with (go_at_call 100; fail)
  refine HC1.out.mono ?_
  rintro e w1 ⟨rfl, v1, s1, f1⟩
  have S1 : Hid (TSt B bl T (c + 0 + u0) w1 v1 ((ts) ++ o0)) := s1
  have F1 : Hid (TFr T bl V w1 v v1) := F0.out.trans f1
  clear s1 f1 HC1 S0 F0 
  clear c0 c1 c2 c3 c4 hlV
  have H3 : TSt B bl T (c + (u0)) w1 v1 (ts ++ (o0)) := by
    have h := S1.out
    simp only [Nat.add_zero, Nat.add_assoc, List.append_assoc] at h ⊢
    exact h
  have H3' : Hid (TSt B bl T (c + (u0)) w1 v1 (ts ++ (o0))) := H3
  have FE : Hid (TFr T bl w w1 v v1) := HF.out.trans F1.out
  clear H3 S1 F1
  go_wp2
  first
    | (go_end0; exact ⟨rfl, v1, H3'.out, FE.out⟩)
    | exact bodyPost_ret (v := .tuple #[]) (by simp [results, Tryz.results46, go_sem]) rfl ⟨rfl, v1, H3'.out, FE.out⟩
set_option maxRecDepth 100000 in
set_option maxHeartbeats 4000000 in
theorem exprK22 {B bl T : Nat} {n : Nd} (hk : n.kind = 22) {o0 : List TkT} {u0 : Nat} (h0 : TellOK B bl T 100 n o0 u0) : TellOK B bl T 46 n (o0) (u0) := by
  intro ts v c w o cap hn hS hc hl
  obtain ⟨V, hV, hnV, hSV, hfV, hBx, hx1, hx2, hx3, hx4⟩ := boxed hn hS
  have c0 : V.cell? ⟨w.heap.size, 0, none⟩ = some (.int .i64 n.kind) := hBx.cell 0 _ rfl
  have c1 : V.cell? ⟨w.heap.size, 1, none⟩ = some (.string (bs n.name)) := hBx.cell 1 _ rfl
  have c2 : V.cell? ⟨w.heap.size, 2, none⟩ = some (.int .i64 n.num) := hBx.cell 2 _ rfl
  have c3 : V.cell? ⟨w.heap.size, 3, none⟩ = some (.slice o n.kids.length cap) := hBx.cell 3 _ rfl
  have c4 : V.cell? ⟨w.heap.size, 4, none⟩ = some (.int .i64 n.pos) := hBx.cell 4 _ rfl
  have hlV := hBx.lt
  have HF : Hid (TFr T bl w V v v) := hfV
  have HC : Hid (c + (u0) ≤ 4611686018427387904) := hc
  have Hl : Hid (ts.length + (o0.length) ≤ 1000000000) := by (try simp only [List.length_append, List.length_cons, List.length_nil] at hl); show _ ≤ _; omega
  have S0 : Hid (TSt B bl T (c + 0) V v ts) := hSV
  have HSV : Hid (TSt B bl T c V v ts) := hSV
  have F0 : Hid (TFr T bl V V v v) := TFr.refl _ _ _ _
  have HBx : Hid (Blk V w.heap.size #[.int .i64 n.kind, .string (bs n.name), .int .i64 n.num, .slice o n.kids.length cap, .int .i64 n.pos] 24) := hBx
  have Hx : Hid (w.heap.size ≠ T ∧ w.heap.size ≠ bl ∧ v.ownBlock ≠ some w.heap.size) := ⟨hx1, hx2, hx3⟩
  have HNV : Hid (NdIn V B n o cap) := hnV
  have HH0 : Hid (TellOK B bl T 100 n o0 u0) := h0
  clear h0
  have Hk : Hid (n.kind = 22) := hk
  rw [hk] at c0 hV ⊢
  clear hn hS hc hl hnV hSV hfV hBx hx1 hx2 hx3 hk
  go_enter Tryz.func46, Tryz.ntmps46
  have hBB1 : Below B V V := F0.out.below HSV.out
  have HC1 : Hid (Calls Tryz.prog 100 #[.pointer (some ⟨T, 0, none⟩), .agg #[.int .i64 22, .string (bs n.name), .int .i64 n.num, .slice o n.kids.length cap, .int .i64 n.pos]] V fun e W' => e = .returned (.tuple #[]) ∧ ∃ v', TSt B bl T (c + 0 + u0) W' v' ((ts) ++ o0) ∧ TFr T bl V W' v v') := by rw [← Hk.out]; exact HH0.out (ts) v (c + 0) V _ cap (HNV.out.below hBB1) S0.out (by have := HC.out; omega) (by have := Hl.out; omega)
  clear hBB1
  go_wp2_with (go_at_call 100; fail)
  refine HC1.out.mono ?_
  rintro e w1 ⟨rfl, v1, s1, f1⟩
  have S1 : Hid (TSt B bl T (c + 0 + u0) w1 v1 ((ts) ++ o0)) := s1
  have F1 : Hid (TFr T bl V w1 v v1) := F0.out.trans f1
  clear s1 f1 HC1 S0 F0 
  clear c0 c1 c2 c3 c4 hlV
  have H3 : TSt B bl T (c + (u0)) w1 v1 (ts ++ (o0)) := by
    have h := S1.out
    simp only [Nat.add_zero, Nat.add_assoc, List.append_assoc] at h ⊢
    exact h
  have H3' : Hid (TSt B bl T (c + (u0)) w1 v1 (ts ++ (o0))) := H3
  have FE : Hid (TFr T bl w w1 v v1) := HF.out.trans F1.out
  clear H3 S1 F1
  go_wp2
  first
    | (go_end0; exact ⟨rfl, v1, H3'.out, FE.out⟩)
    | exact bodyPost_ret (v := .tuple #[]) (by simp [results, Tryz.results46, go_sem]) rfl ⟨rfl, v1, H3'.out, FE.out⟩
set_option maxRecDepth 100000 in
set_option maxHeartbeats 4000000 in
theorem exprK23 {B bl T : Nat} {n : Nd} (hk : n.kind = 23) {o0 : List TkT} {u0 : Nat} (h0 : TellOK B bl T 100 n o0 u0) : TellOK B bl T 46 n (o0) (u0) := by
  intro ts v c w o cap hn hS hc hl
  obtain ⟨V, hV, hnV, hSV, hfV, hBx, hx1, hx2, hx3, hx4⟩ := boxed hn hS
  have c0 : V.cell? ⟨w.heap.size, 0, none⟩ = some (.int .i64 n.kind) := hBx.cell 0 _ rfl
  have c1 : V.cell? ⟨w.heap.size, 1, none⟩ = some (.string (bs n.name)) := hBx.cell 1 _ rfl
  have c2 : V.cell? ⟨w.heap.size, 2, none⟩ = some (.int .i64 n.num) := hBx.cell 2 _ rfl
  have c3 : V.cell? ⟨w.heap.size, 3, none⟩ = some (.slice o n.kids.length cap) := hBx.cell 3 _ rfl
  have c4 : V.cell? ⟨w.heap.size, 4, none⟩ = some (.int .i64 n.pos) := hBx.cell 4 _ rfl
  have hlV := hBx.lt
  have HF : Hid (TFr T bl w V v v) := hfV
  have HC : Hid (c + (u0) ≤ 4611686018427387904) := hc
  have Hl : Hid (ts.length + (o0.length) ≤ 1000000000) := by (try simp only [List.length_append, List.length_cons, List.length_nil] at hl); show _ ≤ _; omega
  have S0 : Hid (TSt B bl T (c + 0) V v ts) := hSV
  have HSV : Hid (TSt B bl T c V v ts) := hSV
  have F0 : Hid (TFr T bl V V v v) := TFr.refl _ _ _ _
  have HBx : Hid (Blk V w.heap.size #[.int .i64 n.kind, .string (bs n.name), .int .i64 n.num, .slice o n.kids.length cap, .int .i64 n.pos] 24) := hBx
  have Hx : Hid (w.heap.size ≠ T ∧ w.heap.size ≠ bl ∧ v.ownBlock ≠ some w.heap.size) := ⟨hx1, hx2, hx3⟩
  have HNV : Hid (NdIn V B n o cap) := hnV
  have HH0 : Hid (TellOK B bl T 100 n o0 u0) := h0
  clear h0
  have Hk : Hid (n.kind = 23) := hk
  rw [hk] at c0 hV ⊢
  clear hn hS hc hl hnV hSV hfV hBx hx1 hx2 hx3 hk
  go_enter Tryz.func46, Tryz.ntmps46
  have hBB1 : Below B V V := F0.out.below HSV.out
  have HC1 : Hid (Calls Tryz.prog 100 #[.pointer (some ⟨T, 0, none⟩), .agg #[.int .i64 23, .string (bs n.name), .int .i64 n.num, .slice o n.kids.length cap, .int .i64 n.pos]] V fun e W' => e = .returned (.tuple #[]) ∧ ∃ v', TSt B bl T (c + 0 + u0) W' v' ((ts) ++ o0) ∧ TFr T bl V W' v v') := by rw [← Hk.out]; exact HH0.out (ts) v (c + 0) V _ cap (HNV.out.below hBB1) S0.out (by have := HC.out; omega) (by have := Hl.out; omega)
  clear hBB1
  go_wp2_with (go_at_call 100; fail)
  refine HC1.out.mono ?_
  rintro e w1 ⟨rfl, v1, s1, f1⟩
  have S1 : Hid (TSt B bl T (c + 0 + u0) w1 v1 ((ts) ++ o0)) := s1
  have F1 : Hid (TFr T bl V w1 v v1) := F0.out.trans f1
  clear s1 f1 HC1 S0 F0 
  clear c0 c1 c2 c3 c4 hlV
  have H3 : TSt B bl T (c + (u0)) w1 v1 (ts ++ (o0)) := by
    have h := S1.out
    simp only [Nat.add_zero, Nat.add_assoc, List.append_assoc] at h ⊢
    exact h
  have H3' : Hid (TSt B bl T (c + (u0)) w1 v1 (ts ++ (o0))) := H3
  have FE : Hid (TFr T bl w w1 v v1) := HF.out.trans F1.out
  clear H3 S1 F1
  go_wp2
  first
    | (go_end0; exact ⟨rfl, v1, H3'.out, FE.out⟩)
    | exact bodyPost_ret (v := .tuple #[]) (by simp [results, Tryz.results46, go_sem]) rfl ⟨rfl, v1, H3'.out, FE.out⟩
set_option maxRecDepth 100000 in
set_option maxHeartbeats 4000000 in
theorem exprK24 {B bl T : Nat} {n : Nd} (hk : n.kind = 24) {o0 : List TkT} {u0 : Nat} (h0 : TellOK B bl T 100 n o0 u0) : TellOK B bl T 46 n (o0) (u0) := by
  intro ts v c w o cap hn hS hc hl
  obtain ⟨V, hV, hnV, hSV, hfV, hBx, hx1, hx2, hx3, hx4⟩ := boxed hn hS
  have c0 : V.cell? ⟨w.heap.size, 0, none⟩ = some (.int .i64 n.kind) := hBx.cell 0 _ rfl
  have c1 : V.cell? ⟨w.heap.size, 1, none⟩ = some (.string (bs n.name)) := hBx.cell 1 _ rfl
  have c2 : V.cell? ⟨w.heap.size, 2, none⟩ = some (.int .i64 n.num) := hBx.cell 2 _ rfl
  have c3 : V.cell? ⟨w.heap.size, 3, none⟩ = some (.slice o n.kids.length cap) := hBx.cell 3 _ rfl
  have c4 : V.cell? ⟨w.heap.size, 4, none⟩ = some (.int .i64 n.pos) := hBx.cell 4 _ rfl
  have hlV := hBx.lt
  have HF : Hid (TFr T bl w V v v) := hfV
  have HC : Hid (c + (u0) ≤ 4611686018427387904) := hc
  have Hl : Hid (ts.length + (o0.length) ≤ 1000000000) := by (try simp only [List.length_append, List.length_cons, List.length_nil] at hl); show _ ≤ _; omega
  have S0 : Hid (TSt B bl T (c + 0) V v ts) := hSV
  have HSV : Hid (TSt B bl T c V v ts) := hSV
  have F0 : Hid (TFr T bl V V v v) := TFr.refl _ _ _ _
  have HBx : Hid (Blk V w.heap.size #[.int .i64 n.kind, .string (bs n.name), .int .i64 n.num, .slice o n.kids.length cap, .int .i64 n.pos] 24) := hBx
  have Hx : Hid (w.heap.size ≠ T ∧ w.heap.size ≠ bl ∧ v.ownBlock ≠ some w.heap.size) := ⟨hx1, hx2, hx3⟩
  have HNV : Hid (NdIn V B n o cap) := hnV
  have HH0 : Hid (TellOK B bl T 100 n o0 u0) := h0
  clear h0
  have Hk : Hid (n.kind = 24) := hk
  rw [hk] at c0 hV ⊢
  clear hn hS hc hl hnV hSV hfV hBx hx1 hx2 hx3 hk
  go_enter Tryz.func46, Tryz.ntmps46
  have hBB1 : Below B V V := F0.out.below HSV.out
  have HC1 : Hid (Calls Tryz.prog 100 #[.pointer (some ⟨T, 0, none⟩), .agg #[.int .i64 24, .string (bs n.name), .int .i64 n.num, .slice o n.kids.length cap, .int .i64 n.pos]] V fun e W' => e = .returned (.tuple #[]) ∧ ∃ v', TSt B bl T (c + 0 + u0) W' v' ((ts) ++ o0) ∧ TFr T bl V W' v v') := by rw [← Hk.out]; exact HH0.out (ts) v (c + 0) V _ cap (HNV.out.below hBB1) S0.out (by have := HC.out; omega) (by have := Hl.out; omega)
  clear hBB1
  go_wp2_with (go_at_call 100; fail)
  refine HC1.out.mono ?_
  rintro e w1 ⟨rfl, v1, s1, f1⟩
  have S1 : Hid (TSt B bl T (c + 0 + u0) w1 v1 ((ts) ++ o0)) := s1
  have F1 : Hid (TFr T bl V w1 v v1) := F0.out.trans f1
  clear s1 f1 HC1 S0 F0 
  clear c0 c1 c2 c3 c4 hlV
  have H3 : TSt B bl T (c + (u0)) w1 v1 (ts ++ (o0)) := by
    have h := S1.out
    simp only [Nat.add_zero, Nat.add_assoc, List.append_assoc] at h ⊢
    exact h
  have H3' : Hid (TSt B bl T (c + (u0)) w1 v1 (ts ++ (o0))) := H3
  have FE : Hid (TFr T bl w w1 v v1) := HF.out.trans F1.out
  clear H3 S1 F1
  go_wp2
  first
    | (go_end0; exact ⟨rfl, v1, H3'.out, FE.out⟩)
    | exact bodyPost_ret (v := .tuple #[]) (by simp [results, Tryz.results46, go_sem]) rfl ⟨rfl, v1, H3'.out, FE.out⟩
set_option maxRecDepth 100000 in
set_option maxHeartbeats 4000000 in
theorem exprK27 {B bl T : Nat} {n : Nd} (hk : n.kind = 27) {o0 : List TkT} {u0 : Nat} (h0 : TellOK B bl T 100 n o0 u0) : TellOK B bl T 46 n (o0) (u0) := by
  intro ts v c w o cap hn hS hc hl
  obtain ⟨V, hV, hnV, hSV, hfV, hBx, hx1, hx2, hx3, hx4⟩ := boxed hn hS
  have c0 : V.cell? ⟨w.heap.size, 0, none⟩ = some (.int .i64 n.kind) := hBx.cell 0 _ rfl
  have c1 : V.cell? ⟨w.heap.size, 1, none⟩ = some (.string (bs n.name)) := hBx.cell 1 _ rfl
  have c2 : V.cell? ⟨w.heap.size, 2, none⟩ = some (.int .i64 n.num) := hBx.cell 2 _ rfl
  have c3 : V.cell? ⟨w.heap.size, 3, none⟩ = some (.slice o n.kids.length cap) := hBx.cell 3 _ rfl
  have c4 : V.cell? ⟨w.heap.size, 4, none⟩ = some (.int .i64 n.pos) := hBx.cell 4 _ rfl
  have hlV := hBx.lt
  have HF : Hid (TFr T bl w V v v) := hfV
  have HC : Hid (c + (u0) ≤ 4611686018427387904) := hc
  have Hl : Hid (ts.length + (o0.length) ≤ 1000000000) := by (try simp only [List.length_append, List.length_cons, List.length_nil] at hl); show _ ≤ _; omega
  have S0 : Hid (TSt B bl T (c + 0) V v ts) := hSV
  have HSV : Hid (TSt B bl T c V v ts) := hSV
  have F0 : Hid (TFr T bl V V v v) := TFr.refl _ _ _ _
  have HBx : Hid (Blk V w.heap.size #[.int .i64 n.kind, .string (bs n.name), .int .i64 n.num, .slice o n.kids.length cap, .int .i64 n.pos] 24) := hBx
  have Hx : Hid (w.heap.size ≠ T ∧ w.heap.size ≠ bl ∧ v.ownBlock ≠ some w.heap.size) := ⟨hx1, hx2, hx3⟩
  have HNV : Hid (NdIn V B n o cap) := hnV
  have HH0 : Hid (TellOK B bl T 100 n o0 u0) := h0
  clear h0
  have Hk : Hid (n.kind = 27) := hk
  rw [hk] at c0 hV ⊢
  clear hn hS hc hl hnV hSV hfV hBx hx1 hx2 hx3 hk
  go_enter Tryz.func46, Tryz.ntmps46
  have hBB1 : Below B V V := F0.out.below HSV.out
  have HC1 : Hid (Calls Tryz.prog 100 #[.pointer (some ⟨T, 0, none⟩), .agg #[.int .i64 27, .string (bs n.name), .int .i64 n.num, .slice o n.kids.length cap, .int .i64 n.pos]] V fun e W' => e = .returned (.tuple #[]) ∧ ∃ v', TSt B bl T (c + 0 + u0) W' v' ((ts) ++ o0) ∧ TFr T bl V W' v v') := by rw [← Hk.out]; exact HH0.out (ts) v (c + 0) V _ cap (HNV.out.below hBB1) S0.out (by have := HC.out; omega) (by have := Hl.out; omega)
  clear hBB1
  go_wp2_with (go_at_call 100; fail)
  refine HC1.out.mono ?_
  rintro e w1 ⟨rfl, v1, s1, f1⟩
  have S1 : Hid (TSt B bl T (c + 0 + u0) w1 v1 ((ts) ++ o0)) := s1
  have F1 : Hid (TFr T bl V w1 v v1) := F0.out.trans f1
  clear s1 f1 HC1 S0 F0 
  clear c0 c1 c2 c3 c4 hlV
  have H3 : TSt B bl T (c + (u0)) w1 v1 (ts ++ (o0)) := by
    have h := S1.out
    simp only [Nat.add_zero, Nat.add_assoc, List.append_assoc] at h ⊢
    exact h
  have H3' : Hid (TSt B bl T (c + (u0)) w1 v1 (ts ++ (o0))) := H3
  have FE : Hid (TFr T bl w w1 v v1) := HF.out.trans F1.out
  clear H3 S1 F1
  go_wp2
  first
    | (go_end0; exact ⟨rfl, v1, H3'.out, FE.out⟩)
    | exact bodyPost_ret (v := .tuple #[]) (by simp [results, Tryz.results46, go_sem]) rfl ⟨rfl, v1, H3'.out, FE.out⟩
set_option maxRecDepth 100000 in
set_option maxHeartbeats 4000000 in
theorem exprK31 {B bl T : Nat} {n : Nd} (hk : n.kind = 31) {o0 : List TkT} {u0 : Nat} (h0 : TellOK B bl T 100 n o0 u0) : TellOK B bl T 46 n (o0) (u0) := by
  intro ts v c w o cap hn hS hc hl
  obtain ⟨V, hV, hnV, hSV, hfV, hBx, hx1, hx2, hx3, hx4⟩ := boxed hn hS
  have c0 : V.cell? ⟨w.heap.size, 0, none⟩ = some (.int .i64 n.kind) := hBx.cell 0 _ rfl
  have c1 : V.cell? ⟨w.heap.size, 1, none⟩ = some (.string (bs n.name)) := hBx.cell 1 _ rfl
  have c2 : V.cell? ⟨w.heap.size, 2, none⟩ = some (.int .i64 n.num) := hBx.cell 2 _ rfl
  have c3 : V.cell? ⟨w.heap.size, 3, none⟩ = some (.slice o n.kids.length cap) := hBx.cell 3 _ rfl
  have c4 : V.cell? ⟨w.heap.size, 4, none⟩ = some (.int .i64 n.pos) := hBx.cell 4 _ rfl
  have hlV := hBx.lt
  have HF : Hid (TFr T bl w V v v) := hfV
  have HC : Hid (c + (u0) ≤ 4611686018427387904) := hc
  have Hl : Hid (ts.length + (o0.length) ≤ 1000000000) := by (try simp only [List.length_append, List.length_cons, List.length_nil] at hl); show _ ≤ _; omega
  have S0 : Hid (TSt B bl T (c + 0) V v ts) := hSV
  have HSV : Hid (TSt B bl T c V v ts) := hSV
  have F0 : Hid (TFr T bl V V v v) := TFr.refl _ _ _ _
  have HBx : Hid (Blk V w.heap.size #[.int .i64 n.kind, .string (bs n.name), .int .i64 n.num, .slice o n.kids.length cap, .int .i64 n.pos] 24) := hBx
  have Hx : Hid (w.heap.size ≠ T ∧ w.heap.size ≠ bl ∧ v.ownBlock ≠ some w.heap.size) := ⟨hx1, hx2, hx3⟩
  have HNV : Hid (NdIn V B n o cap) := hnV
  have HH0 : Hid (TellOK B bl T 100 n o0 u0) := h0
  clear h0
  have Hk : Hid (n.kind = 31) := hk
  rw [hk] at c0 hV ⊢
  clear hn hS hc hl hnV hSV hfV hBx hx1 hx2 hx3 hk
  go_enter Tryz.func46, Tryz.ntmps46
  have hBB1 : Below B V V := F0.out.below HSV.out
  have HC1 : Hid (Calls Tryz.prog 100 #[.pointer (some ⟨T, 0, none⟩), .agg #[.int .i64 31, .string (bs n.name), .int .i64 n.num, .slice o n.kids.length cap, .int .i64 n.pos]] V fun e W' => e = .returned (.tuple #[]) ∧ ∃ v', TSt B bl T (c + 0 + u0) W' v' ((ts) ++ o0) ∧ TFr T bl V W' v v') := by rw [← Hk.out]; exact HH0.out (ts) v (c + 0) V _ cap (HNV.out.below hBB1) S0.out (by have := HC.out; omega) (by have := Hl.out; omega)
  clear hBB1
  go_wp2_with (go_at_call 100; fail)
  refine HC1.out.mono ?_
  rintro e w1 ⟨rfl, v1, s1, f1⟩
  have S1 : Hid (TSt B bl T (c + 0 + u0) w1 v1 ((ts) ++ o0)) := s1
  have F1 : Hid (TFr T bl V w1 v v1) := F0.out.trans f1
  clear s1 f1 HC1 S0 F0 
  clear c0 c1 c2 c3 c4 hlV
  have H3 : TSt B bl T (c + (u0)) w1 v1 (ts ++ (o0)) := by
    have h := S1.out
    simp only [Nat.add_zero, Nat.add_assoc, List.append_assoc] at h ⊢
    exact h
  have H3' : Hid (TSt B bl T (c + (u0)) w1 v1 (ts ++ (o0))) := H3
  have FE : Hid (TFr T bl w w1 v v1) := HF.out.trans F1.out
  clear H3 S1 F1
  go_wp2
  first
    | (go_end0; exact ⟨rfl, v1, H3'.out, FE.out⟩)
    | exact bodyPost_ret (v := .tuple #[]) (by simp [results, Tryz.results46, go_sem]) rfl ⟨rfl, v1, H3'.out, FE.out⟩
set_option maxRecDepth 100000 in
set_option maxHeartbeats 4000000 in
theorem exprK32 {B bl T : Nat} {n : Nd} (hk : n.kind = 32) {o0 : List TkT} {u0 : Nat} (h0 : TellOK B bl T 100 n o0 u0) : TellOK B bl T 46 n (o0) (u0) := by
  intro ts v c w o cap hn hS hc hl
  obtain ⟨V, hV, hnV, hSV, hfV, hBx, hx1, hx2, hx3, hx4⟩ := boxed hn hS
  have c0 : V.cell? ⟨w.heap.size, 0, none⟩ = some (.int .i64 n.kind) := hBx.cell 0 _ rfl
  have c1 : V.cell? ⟨w.heap.size, 1, none⟩ = some (.string (bs n.name)) := hBx.cell 1 _ rfl
  have c2 : V.cell? ⟨w.heap.size, 2, none⟩ = some (.int .i64 n.num) := hBx.cell 2 _ rfl
  have c3 : V.cell? ⟨w.heap.size, 3, none⟩ = some (.slice o n.kids.length cap) := hBx.cell 3 _ rfl
  have c4 : V.cell? ⟨w.heap.size, 4, none⟩ = some (.int .i64 n.pos) := hBx.cell 4 _ rfl
  have hlV := hBx.lt
  have HF : Hid (TFr T bl w V v v) := hfV
  have HC : Hid (c + (u0) ≤ 4611686018427387904) := hc
  have Hl : Hid (ts.length + (o0.length) ≤ 1000000000) := by (try simp only [List.length_append, List.length_cons, List.length_nil] at hl); show _ ≤ _; omega
  have S0 : Hid (TSt B bl T (c + 0) V v ts) := hSV
  have HSV : Hid (TSt B bl T c V v ts) := hSV
  have F0 : Hid (TFr T bl V V v v) := TFr.refl _ _ _ _
  have HBx : Hid (Blk V w.heap.size #[.int .i64 n.kind, .string (bs n.name), .int .i64 n.num, .slice o n.kids.length cap, .int .i64 n.pos] 24) := hBx
  have Hx : Hid (w.heap.size ≠ T ∧ w.heap.size ≠ bl ∧ v.ownBlock ≠ some w.heap.size) := ⟨hx1, hx2, hx3⟩
  have HNV : Hid (NdIn V B n o cap) := hnV
  have HH0 : Hid (TellOK B bl T 100 n o0 u0) := h0
  clear h0
  have Hk : Hid (n.kind = 32) := hk
  rw [hk] at c0 hV ⊢
  clear hn hS hc hl hnV hSV hfV hBx hx1 hx2 hx3 hk
  go_enter Tryz.func46, Tryz.ntmps46
  have hBB1 : Below B V V := F0.out.below HSV.out
  have HC1 : Hid (Calls Tryz.prog 100 #[.pointer (some ⟨T, 0, none⟩), .agg #[.int .i64 32, .string (bs n.name), .int .i64 n.num, .slice o n.kids.length cap, .int .i64 n.pos]] V fun e W' => e = .returned (.tuple #[]) ∧ ∃ v', TSt B bl T (c + 0 + u0) W' v' ((ts) ++ o0) ∧ TFr T bl V W' v v') := by rw [← Hk.out]; exact HH0.out (ts) v (c + 0) V _ cap (HNV.out.below hBB1) S0.out (by have := HC.out; omega) (by have := Hl.out; omega)
  clear hBB1
  go_wp2_with (go_at_call 100; fail)
  refine HC1.out.mono ?_
  rintro e w1 ⟨rfl, v1, s1, f1⟩
  have S1 : Hid (TSt B bl T (c + 0 + u0) w1 v1 ((ts) ++ o0)) := s1
  have F1 : Hid (TFr T bl V w1 v v1) := F0.out.trans f1
  clear s1 f1 HC1 S0 F0 
  clear c0 c1 c2 c3 c4 hlV
  have H3 : TSt B bl T (c + (u0)) w1 v1 (ts ++ (o0)) := by
    have h := S1.out
    simp only [Nat.add_zero, Nat.add_assoc, List.append_assoc] at h ⊢
    exact h
  have H3' : Hid (TSt B bl T (c + (u0)) w1 v1 (ts ++ (o0))) := H3
  have FE : Hid (TFr T bl w w1 v v1) := HF.out.trans F1.out
  clear H3 S1 F1
  go_wp2
  first
    | (go_end0; exact ⟨rfl, v1, H3'.out, FE.out⟩)
    | exact bodyPost_ret (v := .tuple #[]) (by simp [results, Tryz.results46, go_sem]) rfl ⟨rfl, v1, H3'.out, FE.out⟩
set_option maxRecDepth 100000 in
set_option maxHeartbeats 4000000 in
theorem exprK33 {B bl T : Nat} {n : Nd} (hk : n.kind = 33) {o0 : List TkT} {u0 : Nat} (h0 : TellOK B bl T 100 n o0 u0) : TellOK B bl T 46 n (o0) (u0) := by
  intro ts v c w o cap hn hS hc hl
  obtain ⟨V, hV, hnV, hSV, hfV, hBx, hx1, hx2, hx3, hx4⟩ := boxed hn hS
  have c0 : V.cell? ⟨w.heap.size, 0, none⟩ = some (.int .i64 n.kind) := hBx.cell 0 _ rfl
  have c1 : V.cell? ⟨w.heap.size, 1, none⟩ = some (.string (bs n.name)) := hBx.cell 1 _ rfl
  have c2 : V.cell? ⟨w.heap.size, 2, none⟩ = some (.int .i64 n.num) := hBx.cell 2 _ rfl
  have c3 : V.cell? ⟨w.heap.size, 3, none⟩ = some (.slice o n.kids.length cap) := hBx.cell 3 _ rfl
  have c4 : V.cell? ⟨w.heap.size, 4, none⟩ = some (.int .i64 n.pos) := hBx.cell 4 _ rfl
  have hlV := hBx.lt
  have HF : Hid (TFr T bl w V v v) := hfV
  have HC : Hid (c + (u0) ≤ 4611686018427387904) := hc
  have Hl : Hid (ts.length + (o0.length) ≤ 1000000000) := by (try simp only [List.length_append, List.length_cons, List.length_nil] at hl); show _ ≤ _; omega
  have S0 : Hid (TSt B bl T (c + 0) V v ts) := hSV
  have HSV : Hid (TSt B bl T c V v ts) := hSV
  have F0 : Hid (TFr T bl V V v v) := TFr.refl _ _ _ _
  have HBx : Hid (Blk V w.heap.size #[.int .i64 n.kind, .string (bs n.name), .int .i64 n.num, .slice o n.kids.length cap, .int .i64 n.pos] 24) := hBx
  have Hx : Hid (w.heap.size ≠ T ∧ w.heap.size ≠ bl ∧ v.ownBlock ≠ some w.heap.size) := ⟨hx1, hx2, hx3⟩
  have HNV : Hid (NdIn V B n o cap) := hnV
  have HH0 : Hid (TellOK B bl T 100 n o0 u0) := h0
  clear h0
  have Hk : Hid (n.kind = 33) := hk
  rw [hk] at c0 hV ⊢
  clear hn hS hc hl hnV hSV hfV hBx hx1 hx2 hx3 hk
  go_enter Tryz.func46, Tryz.ntmps46
  have hBB1 : Below B V V := F0.out.below HSV.out
  have HC1 : Hid (Calls Tryz.prog 100 #[.pointer (some ⟨T, 0, none⟩), .agg #[.int .i64 33, .string (bs n.name), .int .i64 n.num, .slice o n.kids.length cap, .int .i64 n.pos]] V fun e W' => e = .returned (.tuple #[]) ∧ ∃ v', TSt B bl T (c + 0 + u0) W' v' ((ts) ++ o0) ∧ TFr T bl V W' v v') := by rw [← Hk.out]; exact HH0.out (ts) v (c + 0) V _ cap (HNV.out.below hBB1) S0.out (by have := HC.out; omega) (by have := Hl.out; omega)
  clear hBB1
  go_wp2_with (go_at_call 100; fail)
  refine HC1.out.mono ?_
  rintro e w1 ⟨rfl, v1, s1, f1⟩
  have S1 : Hid (TSt B bl T (c + 0 + u0) w1 v1 ((ts) ++ o0)) := s1
  have F1 : Hid (TFr T bl V w1 v v1) := F0.out.trans f1
  clear s1 f1 HC1 S0 F0 
  clear c0 c1 c2 c3 c4 hlV
  have H3 : TSt B bl T (c + (u0)) w1 v1 (ts ++ (o0)) := by
    have h := S1.out
    simp only [Nat.add_zero, Nat.add_assoc, List.append_assoc] at h ⊢
    exact h
  have H3' : Hid (TSt B bl T (c + (u0)) w1 v1 (ts ++ (o0))) := H3
  have FE : Hid (TFr T bl w w1 v v1) := HF.out.trans F1.out
  clear H3 S1 F1
  go_wp2
  first
    | (go_end0; exact ⟨rfl, v1, H3'.out, FE.out⟩)
    | exact bodyPost_ret (v := .tuple #[]) (by simp [results, Tryz.results46, go_sem]) rfl ⟨rfl, v1, H3'.out, FE.out⟩
set_option maxRecDepth 100000 in
set_option maxHeartbeats 4000000 in
theorem guardS {B bl T : Nat} {n : Nd} (sg : ByteArray) {a : Nd} {b : Nd} (hkids : n.kids = [a, b]) {o1 : List TkT} {u1 : Nat} (h1 : TellOK B bl T 23 a o1 u1) {o3 : List TkT} {u3 : Nat} (h3 : TellOK B bl T 23 b o3 u3) : SignOK B bl T 95 n sg ([sgT ⟨#[124]⟩] ++ o1 ++ [sgT sg] ++ o3) (u1 + u3) := by
  intro ts v c w o cap hn hS hc hl
  obtain ⟨V, hV, hnV, hSV, hfV, hBx, hx1, hx2, hx3, hx4⟩ := boxed hn hS
  have c0 : V.cell? ⟨w.heap.size, 0, none⟩ = some (.int .i64 n.kind) := hBx.cell 0 _ rfl
  have c1 : V.cell? ⟨w.heap.size, 1, none⟩ = some (.string (bs n.name)) := hBx.cell 1 _ rfl
  have c2 : V.cell? ⟨w.heap.size, 2, none⟩ = some (.int .i64 n.num) := hBx.cell 2 _ rfl
  have c3 : V.cell? ⟨w.heap.size, 3, none⟩ = some (.slice o n.kids.length cap) := hBx.cell 3 _ rfl
  have c4 : V.cell? ⟨w.heap.size, 4, none⟩ = some (.int .i64 n.pos) := hBx.cell 4 _ rfl
  have hlV := hBx.lt
  have HF : Hid (TFr T bl w V v v) := hfV
  have HC : Hid (c + (u1 + u3) ≤ 4611686018427387904) := hc
  have Hl : Hid (ts.length + (1 + o1.length + 1 + o3.length) ≤ 1000000000) := by (try simp only [List.length_append, List.length_cons, List.length_nil] at hl); show _ ≤ _; omega
  have hcap1 := hnV.2.1
  have hcap2 := hnV.2.2.1
  obtain ⟨g, off, rfl, hg, hKA⟩ := hnV.1.at 0 (by rw [hkids]; simp)
  have hgV : g < V.heap.size := by have := hSV.lt; have := hSV.1; omega
  have Hg : Hid (g < B) := hg
  have HgV : Hid (g < V.heap.size) := hgV
  have hLn : n.kids.length = 2 := by rw [hkids]; rfl
  have HNa : Hid (NdAt V B a g off) := by
    have := hKA.get _ g off 0 (by rw [hLn]; decide)
    have e : n.kids[0]'(by rw [hLn]; decide) = a := by simp only [hkids]; rfl
    rw [e] at this; exact this
  have HNb : Hid (NdAt V B b g (off + 5)) := by
    have := hKA.get _ g off 1 (by rw [hLn]; decide)
    have e : n.kids[1]'(by rw [hLn]; decide) = b := by simp only [hkids]; rfl
    rw [e] at this; exact this
  rw [hLn] at c3 hV hBx ⊢
  clear hLn hcap1 hcap2
  clear hkids hKA hg
  have S0 : Hid (TSt B bl T (c + 0) V v ts) := hSV
  have HSV : Hid (TSt B bl T c V v ts) := hSV
  have F0 : Hid (TFr T bl V V v v) := TFr.refl _ _ _ _
  have HBx : Hid (Blk V w.heap.size #[.int .i64 n.kind, .string (bs n.name), .int .i64 n.num, .slice (some ⟨g, off, none⟩) 2 cap, .int .i64 n.pos] 24) := hBx
  have Hx : Hid (w.heap.size ≠ T ∧ w.heap.size ≠ bl ∧ v.ownBlock ≠ some w.heap.size) := ⟨hx1, hx2, hx3⟩
  have HNV : Hid (NdIn V B n (some ⟨g, off, none⟩) cap) := hnV
  have HH1 : Hid (TellOK B bl T 23 a o1 u1) := h1
  clear h1
  have HH3 : Hid (TellOK B bl T 23 b o3 u3) := h3
  clear h3
  have HMsign : Hid (∀ (s : ByteArray) (X : World), Calls Tryz.prog 88 #[.string s] X fun e w' => e = .returned (.agg #[.int .i64 10, .string s, .int .i64 0, .int .i64 0, .int .i64 0, .int .i64 0, .bool false]) ∧ Below X.heap.size X w') := sign_c
  clear hn hS hc hl hnV hSV hfV hBx hx1 hx2 hx3
  go_enter Tryz.func95, Tryz.ntmps95
  go_wp2_with (go_at_call 88; fail)
  refine (HMsign.out _ _).mono ?_
  rintro e wm1 ⟨rfl, hbm1⟩
  have Sm1 : Hid (TSt B bl T (c + 0) wm1 v (ts)) := S0.out.below hbm1
  have Fm1 : Hid (TFr T bl V wm1 v v) := F0.out.trans (tfr_below hbm1 v)
  have HP1 : Hid (Calls Tryz.prog 85 #[.pointer (some ⟨T, 0, none⟩), .slice (some ⟨wm1.heap.size, 0, none⟩) 1 1] (wm1.alloc (.cells #[.int .i64 10, .string ⟨#[124]⟩, .int .i64 0, .int .i64 0, .int .i64 0, .int .i64 0, .bool false] 39)) fun e W' => e = .returned (.tuple #[]) ∧ ∃ v'', TSt B bl T (c + 0) W' v'' ((ts) ++ [sgT ⟨#[124]⟩]) ∧ TFr T bl wm1 W' v v'') := put1_c B bl T (c + 0) _ v 10 ⟨#[124]⟩ 0 wm1 Sm1.out (by have := Hl.out; omega)
  clear hbm1
  go_wp2_with (go_at_call 85; fail)
  refine HP1.out.mono ?_
  rintro e w1 ⟨rfl, v1, s1, f1⟩
  have S1 : Hid (TSt B bl T (c + 0) w1 v1 ((ts) ++ [sgT ⟨#[124]⟩])) := s1
  have F1 : Hid (TFr T bl V w1 v v1) := Fm1.out.trans f1
  clear s1 f1 HP1 Sm1 Fm1 S0 F0
  clear c0 c1 c2 c3 c4 hlV
  have hBB2 : Below B V w1 := F1.out.below HSV.out
  obtain ⟨o_a, cap_a, k0, k1, k2, k3, k4, hNk⟩ := kid_in (NdAt.below hBB2 a g off Hg.out HNa.out)
  have HC2 : Hid (Calls Tryz.prog 23 #[.pointer (some ⟨T, 0, none⟩), .agg #[.int .i64 a.kind, .string (bs a.name), .int .i64 a.num, .slice o_a a.kids.length cap_a, .int .i64 a.pos]] w1 fun e W' => e = .returned (.tuple #[]) ∧ ∃ v', TSt B bl T (c + 0 + u1) W' v' (((ts) ++ [sgT ⟨#[124]⟩]) ++ o1) ∧ TFr T bl w1 W' v1 v') := HH1.out ((ts) ++ [sgT ⟨#[124]⟩]) v1 (c + 0) w1 o_a cap_a hNk S1.out (by have := HC.out; omega) (by have := Hl.out; simp only [List.length_append, List.length_cons, List.length_nil]; omega)
  have hgr : g < w1.heap.size := Nat.lt_of_lt_of_le HgV.out hBB2.size
  clear hBB2 hNk
  have hBk := HBx.out.tfr F1.out Hx.out.1 Hx.out.2.1 Hx.out.2.2
  have b3 := hBk.cell 3 _ rfl
  have hlb := hBk.lt
  clear hBk
  go_wp2_with (go_at_call 23; fail)
  refine HC2.out.mono ?_
  rintro e w2 ⟨rfl, v2, s2, f2⟩
  have S2 : Hid (TSt B bl T (c + 0 + u1) w2 v2 (((ts) ++ [sgT ⟨#[124]⟩]) ++ o1)) := s2
  have F2 : Hid (TFr T bl V w2 v v2) := F1.out.trans f2
  clear s2 f2 HC2 S1 F1 k0 k1 k2 k3 k4 hgr hlb b3
  go_wp2_with (go_at_call 88; fail)
  refine (HMsign.out _ _).mono ?_
  rintro e wm3 ⟨rfl, hbm3⟩
  have Sm3 : Hid (TSt B bl T (c + 0 + u1) wm3 v2 (((ts) ++ [sgT ⟨#[124]⟩]) ++ o1)) := S2.out.below hbm3
  have Fm3 : Hid (TFr T bl V wm3 v v2) := F2.out.trans (tfr_below hbm3 v2)
  have HP3 : Hid (Calls Tryz.prog 85 #[.pointer (some ⟨T, 0, none⟩), .slice (some ⟨wm3.heap.size, 0, none⟩) 1 1] (wm3.alloc (.cells #[.int .i64 10, .string sg, .int .i64 0, .int .i64 0, .int .i64 0, .int .i64 0, .bool false] 39)) fun e W' => e = .returned (.tuple #[]) ∧ ∃ v'', TSt B bl T (c + 0 + u1) W' v'' ((((ts) ++ [sgT ⟨#[124]⟩]) ++ o1) ++ [sgT sg]) ∧ TFr T bl wm3 W' v2 v'') := put1_c B bl T (c + 0 + u1) _ v2 10 sg 0 wm3 Sm3.out (by have := Hl.out; simp only [List.length_append, List.length_cons, List.length_nil]; omega)
  clear hbm3
  go_wp2_with (go_at_call 85; fail)
  refine HP3.out.mono ?_
  rintro e w3 ⟨rfl, v3, s3, f3⟩
  have S3 : Hid (TSt B bl T (c + 0 + u1) w3 v3 ((((ts) ++ [sgT ⟨#[124]⟩]) ++ o1) ++ [sgT sg])) := s3
  have F3 : Hid (TFr T bl V w3 v v3) := Fm3.out.trans f3
  clear s3 f3 HP3 Sm3 Fm3 S2 F2
  have hBB4 : Below B V w3 := F3.out.below HSV.out
  obtain ⟨o_b, cap_b, k0, k1, k2, k3, k4, hNk⟩ := kid_in (NdAt.below hBB4 b g (off + 5) Hg.out HNb.out)
  have HC4 : Hid (Calls Tryz.prog 23 #[.pointer (some ⟨T, 0, none⟩), .agg #[.int .i64 b.kind, .string (bs b.name), .int .i64 b.num, .slice o_b b.kids.length cap_b, .int .i64 b.pos]] w3 fun e W' => e = .returned (.tuple #[]) ∧ ∃ v', TSt B bl T (c + 0 + u1 + u3) W' v' (((((ts) ++ [sgT ⟨#[124]⟩]) ++ o1) ++ [sgT sg]) ++ o3) ∧ TFr T bl w3 W' v3 v') := HH3.out ((((ts) ++ [sgT ⟨#[124]⟩]) ++ o1) ++ [sgT sg]) v3 (c + 0 + u1) w3 o_b cap_b hNk S3.out (by have := HC.out; omega) (by have := Hl.out; simp only [List.length_append, List.length_cons, List.length_nil]; omega)
  have hgr : g < w3.heap.size := Nat.lt_of_lt_of_le HgV.out hBB4.size
  clear hBB4 hNk
  have hBk := HBx.out.tfr F3.out Hx.out.1 Hx.out.2.1 Hx.out.2.2
  have b3 := hBk.cell 3 _ rfl
  have hlb := hBk.lt
  clear hBk
  go_wp2_with (go_at_call 23; fail)
  refine HC4.out.mono ?_
  rintro e w4 ⟨rfl, v4, s4, f4⟩
  have S4 : Hid (TSt B bl T (c + 0 + u1 + u3) w4 v4 (((((ts) ++ [sgT ⟨#[124]⟩]) ++ o1) ++ [sgT sg]) ++ o3)) := s4
  have F4 : Hid (TFr T bl V w4 v v4) := F3.out.trans f4
  clear s4 f4 HC4 S3 F3 k0 k1 k2 k3 k4 hgr hlb b3
  have H3 : TSt B bl T (c + (u1 + u3)) w4 v4 (ts ++ ([sgT ⟨#[124]⟩] ++ o1 ++ [sgT sg] ++ o3)) := by
    have h := S4.out
    simp only [Nat.add_zero, Nat.add_assoc, List.append_assoc] at h ⊢
    exact h
  have H3' : Hid (TSt B bl T (c + (u1 + u3)) w4 v4 (ts ++ ([sgT ⟨#[124]⟩] ++ o1 ++ [sgT sg] ++ o3))) := H3
  have FE : Hid (TFr T bl w w4 v v4) := HF.out.trans F4.out
  clear H3 S4 F4
  go_wp2
  first
    | (go_end0; exact ⟨rfl, v4, H3'.out, FE.out⟩)
    | exact bodyPost_ret (v := .tuple #[]) (by simp [results, Tryz.results95, go_sem]) rfl ⟨rfl, v4, H3'.out, FE.out⟩
end Go.Proofs.YtndpebkiiemfpaaGreatDoor

namespace Go.Proofs.YtndpebkiiemfpaaGreatDoor
open Go.RowKit Go.Shelf Go.Maps
set_option linter.unusedVariables false
set_option linter.unusedSimpArgs false

theorem namePOK {B bl T : Nat} {s : ByteArray} (hs : s.size ≤ 9223372036854775807) (hsym : isSymB (lkM s) = true) : StrOK B bl T 87 s (nmP s) 1 := fun ts v c w h hc hl => nameP_t B bl T c ts v s hs hsym (by omega) w h hl
theorem operQOK {B bl T : Nat} {s : ByteArray} (hs : s.size ≤ 9223372036854775807) (hsym : isSymB (lkM s) = false) : StrOK B bl T 92 s (opQ s) 1 := fun ts v c w h hc hl => operQ_t B bl T c ts v s hs hsym (by omega) w h hl
set_option maxRecDepth 100000 in
set_option maxHeartbeats 4000000 in
theorem exprTuple {B bl T : Nat} {n : Nd} (hk : n.kind = 25) {o0 : List TkT} {u0 : Nat} (h0 : EnclOK B bl T ⟨#[40]⟩ ⟨#[41]⟩ n.kids o0 u0) : TellOK B bl T 46 n (o0) (u0) := by
  intro ts v c w o cap hn hS hc hl
  obtain ⟨V, hV, hnV, hSV, hfV, hBx, hx1, hx2, hx3, hx4⟩ := boxed hn hS
  have c0 : V.cell? ⟨w.heap.size, 0, none⟩ = some (.int .i64 n.kind) := hBx.cell 0 _ rfl
  have c1 : V.cell? ⟨w.heap.size, 1, none⟩ = some (.string (bs n.name)) := hBx.cell 1 _ rfl
  have c2 : V.cell? ⟨w.heap.size, 2, none⟩ = some (.int .i64 n.num) := hBx.cell 2 _ rfl
  have c3 : V.cell? ⟨w.heap.size, 3, none⟩ = some (.slice o n.kids.length cap) := hBx.cell 3 _ rfl
  have c4 : V.cell? ⟨w.heap.size, 4, none⟩ = some (.int .i64 n.pos) := hBx.cell 4 _ rfl
  have hlV := hBx.lt
  have HF : Hid (TFr T bl w V v v) := hfV
  have HC : Hid (c + (u0) ≤ 4611686018427387904) := hc
  have Hl : Hid (ts.length + (o0.length) ≤ 1000000000) := by (try simp only [List.length_append, List.length_cons, List.length_nil] at hl); show _ ≤ _; omega
  have S0 : Hid (TSt B bl T (c + 0) V v ts) := hSV
  have HSV : Hid (TSt B bl T c V v ts) := hSV
  have F0 : Hid (TFr T bl V V v v) := TFr.refl _ _ _ _
  have HBx : Hid (Blk V w.heap.size #[.int .i64 n.kind, .string (bs n.name), .int .i64 n.num, .slice o n.kids.length cap, .int .i64 n.pos] 24) := hBx
  have Hx : Hid (w.heap.size ≠ T ∧ w.heap.size ≠ bl ∧ v.ownBlock ≠ some w.heap.size) := ⟨hx1, hx2, hx3⟩
  have HNV : Hid (NdIn V B n o cap) := hnV
  have HH0 : Hid (EnclOK B bl T ⟨#[40]⟩ ⟨#[41]⟩ n.kids o0 u0) := h0
  clear h0
  have Hk : Hid (n.kind = 25) := hk
  rw [hk] at c0 hV ⊢
  clear hn hS hc hl hnV hSV hfV hBx hx1 hx2 hx3 hk
  go_enter Tryz.func46, Tryz.ntmps46
  have hBB1 : Below B V V := F0.out.below HSV.out
  have HC1 : Hid (Calls Tryz.prog 99 #[.pointer (some ⟨T, 0, none⟩), .string ⟨#[40]⟩, .slice o n.kids.length cap, .string ⟨#[41]⟩] V fun e W' => e = .returned (.tuple #[]) ∧ ∃ v', TSt B bl T (c + 0 + u0) W' v' ((ts) ++ o0) ∧ TFr T bl V W' v v') := HH0.out (ts) v (c + 0) V o cap (HNV.out.1.below hBB1) HNV.out.2.1 HNV.out.2.2.1 S0.out (by have := HC.out; omega) (by have := Hl.out; omega)
  clear hBB1
  go_wp2_with (go_at_call 99; fail)
  refine HC1.out.mono ?_
  rintro e w1 ⟨rfl, v1, s1, f1⟩
  have S1 : Hid (TSt B bl T (c + 0 + u0) w1 v1 ((ts) ++ o0)) := s1
  have F1 : Hid (TFr T bl V w1 v v1) := F0.out.trans f1
  clear s1 f1 HC1 S0 F0 
  clear c0 c1 c2 c3 c4 hlV
  have H3 : TSt B bl T (c + (u0)) w1 v1 (ts ++ (o0)) := by
    have h := S1.out
    simp only [Nat.add_zero, Nat.add_assoc, List.append_assoc] at h ⊢
    exact h
  have H3' : Hid (TSt B bl T (c + (u0)) w1 v1 (ts ++ (o0))) := H3
  have FE : Hid (TFr T bl w w1 v v1) := HF.out.trans F1.out
  clear H3 S1 F1
  go_wp2
  first
    | (go_end0; exact ⟨rfl, v1, H3'.out, FE.out⟩)
    | exact bodyPost_ret (v := .tuple #[]) (by simp [results, Tryz.results46, go_sem]) rfl ⟨rfl, v1, H3'.out, FE.out⟩
set_option maxRecDepth 100000 in
set_option maxHeartbeats 4000000 in
theorem exprList {B bl T : Nat} {n : Nd} (hk : n.kind = 26) {o0 : List TkT} {u0 : Nat} (h0 : EnclOK B bl T ⟨#[91]⟩ ⟨#[93]⟩ n.kids o0 u0) : TellOK B bl T 46 n (o0) (u0) := by
  intro ts v c w o cap hn hS hc hl
  obtain ⟨V, hV, hnV, hSV, hfV, hBx, hx1, hx2, hx3, hx4⟩ := boxed hn hS
  have c0 : V.cell? ⟨w.heap.size, 0, none⟩ = some (.int .i64 n.kind) := hBx.cell 0 _ rfl
  have c1 : V.cell? ⟨w.heap.size, 1, none⟩ = some (.string (bs n.name)) := hBx.cell 1 _ rfl
  have c2 : V.cell? ⟨w.heap.size, 2, none⟩ = some (.int .i64 n.num) := hBx.cell 2 _ rfl
  have c3 : V.cell? ⟨w.heap.size, 3, none⟩ = some (.slice o n.kids.length cap) := hBx.cell 3 _ rfl
  have c4 : V.cell? ⟨w.heap.size, 4, none⟩ = some (.int .i64 n.pos) := hBx.cell 4 _ rfl
  have hlV := hBx.lt
  have HF : Hid (TFr T bl w V v v) := hfV
  have HC : Hid (c + (u0) ≤ 4611686018427387904) := hc
  have Hl : Hid (ts.length + (o0.length) ≤ 1000000000) := by (try simp only [List.length_append, List.length_cons, List.length_nil] at hl); show _ ≤ _; omega
  have S0 : Hid (TSt B bl T (c + 0) V v ts) := hSV
  have HSV : Hid (TSt B bl T c V v ts) := hSV
  have F0 : Hid (TFr T bl V V v v) := TFr.refl _ _ _ _
  have HBx : Hid (Blk V w.heap.size #[.int .i64 n.kind, .string (bs n.name), .int .i64 n.num, .slice o n.kids.length cap, .int .i64 n.pos] 24) := hBx
  have Hx : Hid (w.heap.size ≠ T ∧ w.heap.size ≠ bl ∧ v.ownBlock ≠ some w.heap.size) := ⟨hx1, hx2, hx3⟩
  have HNV : Hid (NdIn V B n o cap) := hnV
  have HH0 : Hid (EnclOK B bl T ⟨#[91]⟩ ⟨#[93]⟩ n.kids o0 u0) := h0
  clear h0
  have Hk : Hid (n.kind = 26) := hk
  rw [hk] at c0 hV ⊢
  clear hn hS hc hl hnV hSV hfV hBx hx1 hx2 hx3 hk
  go_enter Tryz.func46, Tryz.ntmps46
  have hBB1 : Below B V V := F0.out.below HSV.out
  have HC1 : Hid (Calls Tryz.prog 99 #[.pointer (some ⟨T, 0, none⟩), .string ⟨#[91]⟩, .slice o n.kids.length cap, .string ⟨#[93]⟩] V fun e W' => e = .returned (.tuple #[]) ∧ ∃ v', TSt B bl T (c + 0 + u0) W' v' ((ts) ++ o0) ∧ TFr T bl V W' v v') := HH0.out (ts) v (c + 0) V o cap (HNV.out.1.below hBB1) HNV.out.2.1 HNV.out.2.2.1 S0.out (by have := HC.out; omega) (by have := Hl.out; omega)
  clear hBB1
  go_wp2_with (go_at_call 99; fail)
  refine HC1.out.mono ?_
  rintro e w1 ⟨rfl, v1, s1, f1⟩
  have S1 : Hid (TSt B bl T (c + 0 + u0) w1 v1 ((ts) ++ o0)) := s1
  have F1 : Hid (TFr T bl V w1 v v1) := F0.out.trans f1
  clear s1 f1 HC1 S0 F0 
  clear c0 c1 c2 c3 c4 hlV
  have H3 : TSt B bl T (c + (u0)) w1 v1 (ts ++ (o0)) := by
    have h := S1.out
    simp only [Nat.add_zero, Nat.add_assoc, List.append_assoc] at h ⊢
    exact h
  have H3' : Hid (TSt B bl T (c + (u0)) w1 v1 (ts ++ (o0))) := H3
  have FE : Hid (TFr T bl w w1 v v1) := HF.out.trans F1.out
  clear H3 S1 F1
  go_wp2
  first
    | (go_end0; exact ⟨rfl, v1, H3'.out, FE.out⟩)
    | exact bodyPost_ret (v := .tuple #[]) (by simp [results, Tryz.results46, go_sem]) rfl ⟨rfl, v1, H3'.out, FE.out⟩
set_option maxRecDepth 100000 in
set_option maxHeartbeats 4000000 in
theorem exprParen {B bl T : Nat} {n : Nd} (hk : n.kind = 30) {o0 : List TkT} {u0 : Nat} (h0 : EnclOK B bl T ⟨#[40]⟩ ⟨#[41]⟩ n.kids o0 u0) : TellOK B bl T 46 n (o0) (u0) := by
  intro ts v c w o cap hn hS hc hl
  obtain ⟨V, hV, hnV, hSV, hfV, hBx, hx1, hx2, hx3, hx4⟩ := boxed hn hS
  have c0 : V.cell? ⟨w.heap.size, 0, none⟩ = some (.int .i64 n.kind) := hBx.cell 0 _ rfl
  have c1 : V.cell? ⟨w.heap.size, 1, none⟩ = some (.string (bs n.name)) := hBx.cell 1 _ rfl
  have c2 : V.cell? ⟨w.heap.size, 2, none⟩ = some (.int .i64 n.num) := hBx.cell 2 _ rfl
  have c3 : V.cell? ⟨w.heap.size, 3, none⟩ = some (.slice o n.kids.length cap) := hBx.cell 3 _ rfl
  have c4 : V.cell? ⟨w.heap.size, 4, none⟩ = some (.int .i64 n.pos) := hBx.cell 4 _ rfl
  have hlV := hBx.lt
  have HF : Hid (TFr T bl w V v v) := hfV
  have HC : Hid (c + (u0) ≤ 4611686018427387904) := hc
  have Hl : Hid (ts.length + (o0.length) ≤ 1000000000) := by (try simp only [List.length_append, List.length_cons, List.length_nil] at hl); show _ ≤ _; omega
  have S0 : Hid (TSt B bl T (c + 0) V v ts) := hSV
  have HSV : Hid (TSt B bl T c V v ts) := hSV
  have F0 : Hid (TFr T bl V V v v) := TFr.refl _ _ _ _
  have HBx : Hid (Blk V w.heap.size #[.int .i64 n.kind, .string (bs n.name), .int .i64 n.num, .slice o n.kids.length cap, .int .i64 n.pos] 24) := hBx
  have Hx : Hid (w.heap.size ≠ T ∧ w.heap.size ≠ bl ∧ v.ownBlock ≠ some w.heap.size) := ⟨hx1, hx2, hx3⟩
  have HNV : Hid (NdIn V B n o cap) := hnV
  have HH0 : Hid (EnclOK B bl T ⟨#[40]⟩ ⟨#[41]⟩ n.kids o0 u0) := h0
  clear h0
  have Hk : Hid (n.kind = 30) := hk
  rw [hk] at c0 hV ⊢
  clear hn hS hc hl hnV hSV hfV hBx hx1 hx2 hx3 hk
  go_enter Tryz.func46, Tryz.ntmps46
  have hBB1 : Below B V V := F0.out.below HSV.out
  have HC1 : Hid (Calls Tryz.prog 99 #[.pointer (some ⟨T, 0, none⟩), .string ⟨#[40]⟩, .slice o n.kids.length cap, .string ⟨#[41]⟩] V fun e W' => e = .returned (.tuple #[]) ∧ ∃ v', TSt B bl T (c + 0 + u0) W' v' ((ts) ++ o0) ∧ TFr T bl V W' v v') := HH0.out (ts) v (c + 0) V o cap (HNV.out.1.below hBB1) HNV.out.2.1 HNV.out.2.2.1 S0.out (by have := HC.out; omega) (by have := Hl.out; omega)
  clear hBB1
  go_wp2_with (go_at_call 99; fail)
  refine HC1.out.mono ?_
  rintro e w1 ⟨rfl, v1, s1, f1⟩
  have S1 : Hid (TSt B bl T (c + 0 + u0) w1 v1 ((ts) ++ o0)) := s1
  have F1 : Hid (TFr T bl V w1 v v1) := F0.out.trans f1
  clear s1 f1 HC1 S0 F0 
  clear c0 c1 c2 c3 c4 hlV
  have H3 : TSt B bl T (c + (u0)) w1 v1 (ts ++ (o0)) := by
    have h := S1.out
    simp only [Nat.add_zero, Nat.add_assoc, List.append_assoc] at h ⊢
    exact h
  have H3' : Hid (TSt B bl T (c + (u0)) w1 v1 (ts ++ (o0))) := H3
  have FE : Hid (TFr T bl w w1 v v1) := HF.out.trans F1.out
  clear H3 S1 F1
  go_wp2
  first
    | (go_end0; exact ⟨rfl, v1, H3'.out, FE.out⟩)
    | exact bodyPost_ret (v := .tuple #[]) (by simp [results, Tryz.results46, go_sem]) rfl ⟨rfl, v1, H3'.out, FE.out⟩
set_option maxRecDepth 100000 in
set_option maxHeartbeats 4000000 in
theorem patTuple {B bl T : Nat} {n : Nd} (hk : n.kind = 40) {o0 : List TkT} {u0 : Nat} (h0 : EnclOK B bl T ⟨#[40]⟩ ⟨#[41]⟩ n.kids o0 u0) : TellOK B bl T 47 n (o0) (u0) := by
  intro ts v c w o cap hn hS hc hl
  obtain ⟨V, hV, hnV, hSV, hfV, hBx, hx1, hx2, hx3, hx4⟩ := boxed hn hS
  have c0 : V.cell? ⟨w.heap.size, 0, none⟩ = some (.int .i64 n.kind) := hBx.cell 0 _ rfl
  have c1 : V.cell? ⟨w.heap.size, 1, none⟩ = some (.string (bs n.name)) := hBx.cell 1 _ rfl
  have c2 : V.cell? ⟨w.heap.size, 2, none⟩ = some (.int .i64 n.num) := hBx.cell 2 _ rfl
  have c3 : V.cell? ⟨w.heap.size, 3, none⟩ = some (.slice o n.kids.length cap) := hBx.cell 3 _ rfl
  have c4 : V.cell? ⟨w.heap.size, 4, none⟩ = some (.int .i64 n.pos) := hBx.cell 4 _ rfl
  have hlV := hBx.lt
  have HF : Hid (TFr T bl w V v v) := hfV
  have HC : Hid (c + (u0) ≤ 4611686018427387904) := hc
  have Hl : Hid (ts.length + (o0.length) ≤ 1000000000) := by (try simp only [List.length_append, List.length_cons, List.length_nil] at hl); show _ ≤ _; omega
  have S0 : Hid (TSt B bl T (c + 0) V v ts) := hSV
  have HSV : Hid (TSt B bl T c V v ts) := hSV
  have F0 : Hid (TFr T bl V V v v) := TFr.refl _ _ _ _
  have HBx : Hid (Blk V w.heap.size #[.int .i64 n.kind, .string (bs n.name), .int .i64 n.num, .slice o n.kids.length cap, .int .i64 n.pos] 24) := hBx
  have Hx : Hid (w.heap.size ≠ T ∧ w.heap.size ≠ bl ∧ v.ownBlock ≠ some w.heap.size) := ⟨hx1, hx2, hx3⟩
  have HNV : Hid (NdIn V B n o cap) := hnV
  have HH0 : Hid (EnclOK B bl T ⟨#[40]⟩ ⟨#[41]⟩ n.kids o0 u0) := h0
  clear h0
  have Hk : Hid (n.kind = 40) := hk
  rw [hk] at c0 hV ⊢
  clear hn hS hc hl hnV hSV hfV hBx hx1 hx2 hx3 hk
  go_enter Tryz.func47, Tryz.ntmps47
  have hBB1 : Below B V V := F0.out.below HSV.out
  have HC1 : Hid (Calls Tryz.prog 99 #[.pointer (some ⟨T, 0, none⟩), .string ⟨#[40]⟩, .slice o n.kids.length cap, .string ⟨#[41]⟩] V fun e W' => e = .returned (.tuple #[]) ∧ ∃ v', TSt B bl T (c + 0 + u0) W' v' ((ts) ++ o0) ∧ TFr T bl V W' v v') := HH0.out (ts) v (c + 0) V o cap (HNV.out.1.below hBB1) HNV.out.2.1 HNV.out.2.2.1 S0.out (by have := HC.out; omega) (by have := Hl.out; omega)
  clear hBB1
  go_wp2_with (go_at_call 99; fail)
  refine HC1.out.mono ?_
  rintro e w1 ⟨rfl, v1, s1, f1⟩
  have S1 : Hid (TSt B bl T (c + 0 + u0) w1 v1 ((ts) ++ o0)) := s1
  have F1 : Hid (TFr T bl V w1 v v1) := F0.out.trans f1
  clear s1 f1 HC1 S0 F0 
  clear c0 c1 c2 c3 c4 hlV
  have H3 : TSt B bl T (c + (u0)) w1 v1 (ts ++ (o0)) := by
    have h := S1.out
    simp only [Nat.add_zero, Nat.add_assoc, List.append_assoc] at h ⊢
    exact h
  have H3' : Hid (TSt B bl T (c + (u0)) w1 v1 (ts ++ (o0))) := H3
  have FE : Hid (TFr T bl w w1 v v1) := HF.out.trans F1.out
  clear H3 S1 F1
  go_wp2
  first
    | (go_end0; exact ⟨rfl, v1, H3'.out, FE.out⟩)
    | exact bodyPost_ret (v := .tuple #[]) (by simp [results, Tryz.results47, go_sem]) rfl ⟨rfl, v1, H3'.out, FE.out⟩
set_option maxRecDepth 100000 in
set_option maxHeartbeats 4000000 in
theorem patList {B bl T : Nat} {n : Nd} (hk : n.kind = 41) {o0 : List TkT} {u0 : Nat} (h0 : EnclOK B bl T ⟨#[91]⟩ ⟨#[93]⟩ n.kids o0 u0) : TellOK B bl T 47 n (o0) (u0) := by
  intro ts v c w o cap hn hS hc hl
  obtain ⟨V, hV, hnV, hSV, hfV, hBx, hx1, hx2, hx3, hx4⟩ := boxed hn hS
  have c0 : V.cell? ⟨w.heap.size, 0, none⟩ = some (.int .i64 n.kind) := hBx.cell 0 _ rfl
  have c1 : V.cell? ⟨w.heap.size, 1, none⟩ = some (.string (bs n.name)) := hBx.cell 1 _ rfl
  have c2 : V.cell? ⟨w.heap.size, 2, none⟩ = some (.int .i64 n.num) := hBx.cell 2 _ rfl
  have c3 : V.cell? ⟨w.heap.size, 3, none⟩ = some (.slice o n.kids.length cap) := hBx.cell 3 _ rfl
  have c4 : V.cell? ⟨w.heap.size, 4, none⟩ = some (.int .i64 n.pos) := hBx.cell 4 _ rfl
  have hlV := hBx.lt
  have HF : Hid (TFr T bl w V v v) := hfV
  have HC : Hid (c + (u0) ≤ 4611686018427387904) := hc
  have Hl : Hid (ts.length + (o0.length) ≤ 1000000000) := by (try simp only [List.length_append, List.length_cons, List.length_nil] at hl); show _ ≤ _; omega
  have S0 : Hid (TSt B bl T (c + 0) V v ts) := hSV
  have HSV : Hid (TSt B bl T c V v ts) := hSV
  have F0 : Hid (TFr T bl V V v v) := TFr.refl _ _ _ _
  have HBx : Hid (Blk V w.heap.size #[.int .i64 n.kind, .string (bs n.name), .int .i64 n.num, .slice o n.kids.length cap, .int .i64 n.pos] 24) := hBx
  have Hx : Hid (w.heap.size ≠ T ∧ w.heap.size ≠ bl ∧ v.ownBlock ≠ some w.heap.size) := ⟨hx1, hx2, hx3⟩
  have HNV : Hid (NdIn V B n o cap) := hnV
  have HH0 : Hid (EnclOK B bl T ⟨#[91]⟩ ⟨#[93]⟩ n.kids o0 u0) := h0
  clear h0
  have Hk : Hid (n.kind = 41) := hk
  rw [hk] at c0 hV ⊢
  clear hn hS hc hl hnV hSV hfV hBx hx1 hx2 hx3 hk
  go_enter Tryz.func47, Tryz.ntmps47
  have hBB1 : Below B V V := F0.out.below HSV.out
  have HC1 : Hid (Calls Tryz.prog 99 #[.pointer (some ⟨T, 0, none⟩), .string ⟨#[91]⟩, .slice o n.kids.length cap, .string ⟨#[93]⟩] V fun e W' => e = .returned (.tuple #[]) ∧ ∃ v', TSt B bl T (c + 0 + u0) W' v' ((ts) ++ o0) ∧ TFr T bl V W' v v') := HH0.out (ts) v (c + 0) V o cap (HNV.out.1.below hBB1) HNV.out.2.1 HNV.out.2.2.1 S0.out (by have := HC.out; omega) (by have := Hl.out; omega)
  clear hBB1
  go_wp2_with (go_at_call 99; fail)
  refine HC1.out.mono ?_
  rintro e w1 ⟨rfl, v1, s1, f1⟩
  have S1 : Hid (TSt B bl T (c + 0 + u0) w1 v1 ((ts) ++ o0)) := s1
  have F1 : Hid (TFr T bl V w1 v v1) := F0.out.trans f1
  clear s1 f1 HC1 S0 F0 
  clear c0 c1 c2 c3 c4 hlV
  have H3 : TSt B bl T (c + (u0)) w1 v1 (ts ++ (o0)) := by
    have h := S1.out
    simp only [Nat.add_zero, Nat.add_assoc, List.append_assoc] at h ⊢
    exact h
  have H3' : Hid (TSt B bl T (c + (u0)) w1 v1 (ts ++ (o0))) := H3
  have FE : Hid (TFr T bl w w1 v v1) := HF.out.trans F1.out
  clear H3 S1 F1
  go_wp2
  first
    | (go_end0; exact ⟨rfl, v1, H3'.out, FE.out⟩)
    | exact bodyPost_ret (v := .tuple #[]) (by simp [results, Tryz.results47, go_sem]) rfl ⟨rfl, v1, H3'.out, FE.out⟩
set_option maxRecDepth 100000 in
set_option maxHeartbeats 4000000 in
theorem patCon {B bl T : Nat} {n : Nd} (hk : n.kind = 39) {o0 : List TkT} {u0 : Nat} (h0 : StrOK B bl T 87 (bs n.name) o0 u0) {o1 : List TkT} {u1 : Nat} (h1 : ListOK B bl T 93 n.kids o1 u1) : TellOK B bl T 47 n (o0 ++ o1) (u0 + u1) := by
  intro ts v c w o cap hn hS hc hl
  obtain ⟨V, hV, hnV, hSV, hfV, hBx, hx1, hx2, hx3, hx4⟩ := boxed hn hS
  have c0 : V.cell? ⟨w.heap.size, 0, none⟩ = some (.int .i64 n.kind) := hBx.cell 0 _ rfl
  have c1 : V.cell? ⟨w.heap.size, 1, none⟩ = some (.string (bs n.name)) := hBx.cell 1 _ rfl
  have c2 : V.cell? ⟨w.heap.size, 2, none⟩ = some (.int .i64 n.num) := hBx.cell 2 _ rfl
  have c3 : V.cell? ⟨w.heap.size, 3, none⟩ = some (.slice o n.kids.length cap) := hBx.cell 3 _ rfl
  have c4 : V.cell? ⟨w.heap.size, 4, none⟩ = some (.int .i64 n.pos) := hBx.cell 4 _ rfl
  have hlV := hBx.lt
  have HF : Hid (TFr T bl w V v v) := hfV
  have HC : Hid (c + (u0 + u1) ≤ 4611686018427387904) := hc
  have Hl : Hid (ts.length + (o0.length + o1.length) ≤ 1000000000) := by (try simp only [List.length_append, List.length_cons, List.length_nil] at hl); show _ ≤ _; omega
  have S0 : Hid (TSt B bl T (c + 0) V v ts) := hSV
  have HSV : Hid (TSt B bl T c V v ts) := hSV
  have F0 : Hid (TFr T bl V V v v) := TFr.refl _ _ _ _
  have HBx : Hid (Blk V w.heap.size #[.int .i64 n.kind, .string (bs n.name), .int .i64 n.num, .slice o n.kids.length cap, .int .i64 n.pos] 24) := hBx
  have Hx : Hid (w.heap.size ≠ T ∧ w.heap.size ≠ bl ∧ v.ownBlock ≠ some w.heap.size) := ⟨hx1, hx2, hx3⟩
  have HNV : Hid (NdIn V B n o cap) := hnV
  have HH0 : Hid (StrOK B bl T 87 (bs n.name) o0 u0) := h0
  clear h0
  have HH1 : Hid (ListOK B bl T 93 n.kids o1 u1) := h1
  clear h1
  have Hk : Hid (n.kind = 39) := hk
  rw [hk] at c0 hV ⊢
  clear hn hS hc hl hnV hSV hfV hBx hx1 hx2 hx3 hk
  go_enter Tryz.func47, Tryz.ntmps47
  have HC1 : Hid (Calls Tryz.prog 87 #[.pointer (some ⟨T, 0, none⟩), .string (bs n.name)] V fun e W' => e = .returned (.tuple #[]) ∧ ∃ v', TSt B bl T (c + 0 + u0) W' v' ((ts) ++ o0) ∧ TFr T bl V W' v v') := HH0.out (ts) v (c + 0) V S0.out (by have := HC.out; omega) (by have := Hl.out; omega)
  go_wp2_with (go_at_call 87; fail)
  refine HC1.out.mono ?_
  rintro e w1 ⟨rfl, v1, s1, f1⟩
  have S1 : Hid (TSt B bl T (c + 0 + u0) w1 v1 ((ts) ++ o0)) := s1
  have F1 : Hid (TFr T bl V w1 v v1) := F0.out.trans f1
  clear s1 f1 HC1 S0 F0 
  clear c0 c1 c2 c3 c4 hlV
  have hBB2 : Below B V w1 := F1.out.below HSV.out
  have HC2 : Hid (Calls Tryz.prog 93 #[.pointer (some ⟨T, 0, none⟩), .slice o n.kids.length cap] w1 fun e W' => e = .returned (.tuple #[]) ∧ ∃ v', TSt B bl T (c + 0 + u0 + u1) W' v' (((ts) ++ o0) ++ o1) ∧ TFr T bl w1 W' v1 v') := HH1.out ((ts) ++ o0) v1 (c + 0 + u0) w1 o cap (HNV.out.1.below hBB2) HNV.out.2.1 HNV.out.2.2.1 S1.out (by have := HC.out; omega) (by have := Hl.out; simp only [List.length_append, List.length_cons, List.length_nil]; omega)
  clear hBB2
  go_wp2_with (go_at_call 93; fail)
  refine HC2.out.mono ?_
  rintro e w2 ⟨rfl, v2, s2, f2⟩
  have S2 : Hid (TSt B bl T (c + 0 + u0 + u1) w2 v2 (((ts) ++ o0) ++ o1)) := s2
  have F2 : Hid (TFr T bl V w2 v v2) := F1.out.trans f2
  clear s2 f2 HC2 S1 F1 
  have H3 : TSt B bl T (c + (u0 + u1)) w2 v2 (ts ++ (o0 ++ o1)) := by
    have h := S2.out
    simp only [Nat.add_zero, Nat.add_assoc, List.append_assoc] at h ⊢
    exact h
  have H3' : Hid (TSt B bl T (c + (u0 + u1)) w2 v2 (ts ++ (o0 ++ o1))) := H3
  have FE : Hid (TFr T bl w w2 v v2) := HF.out.trans F2.out
  clear H3 S2 F2
  go_wp2
  first
    | (go_end0; exact ⟨rfl, v2, H3'.out, FE.out⟩)
    | exact bodyPost_ret (v := .tuple #[]) (by simp [results, Tryz.results47, go_sem]) rfl ⟨rfl, v2, H3'.out, FE.out⟩
set_option maxRecDepth 100000 in
set_option maxHeartbeats 4000000 in
theorem patOps {B bl T : Nat} {n : Nd} (hk : n.kind = 44) {o0 : List TkT} {u0 : Nat} (h0 : ListOK B bl T 97 n.kids o0 u0) : TellOK B bl T 47 n (o0) (u0) := by
  intro ts v c w o cap hn hS hc hl
  obtain ⟨V, hV, hnV, hSV, hfV, hBx, hx1, hx2, hx3, hx4⟩ := boxed hn hS
  have c0 : V.cell? ⟨w.heap.size, 0, none⟩ = some (.int .i64 n.kind) := hBx.cell 0 _ rfl
  have c1 : V.cell? ⟨w.heap.size, 1, none⟩ = some (.string (bs n.name)) := hBx.cell 1 _ rfl
  have c2 : V.cell? ⟨w.heap.size, 2, none⟩ = some (.int .i64 n.num) := hBx.cell 2 _ rfl
  have c3 : V.cell? ⟨w.heap.size, 3, none⟩ = some (.slice o n.kids.length cap) := hBx.cell 3 _ rfl
  have c4 : V.cell? ⟨w.heap.size, 4, none⟩ = some (.int .i64 n.pos) := hBx.cell 4 _ rfl
  have hlV := hBx.lt
  have HF : Hid (TFr T bl w V v v) := hfV
  have HC : Hid (c + (u0) ≤ 4611686018427387904) := hc
  have Hl : Hid (ts.length + (o0.length) ≤ 1000000000) := by (try simp only [List.length_append, List.length_cons, List.length_nil] at hl); show _ ≤ _; omega
  have S0 : Hid (TSt B bl T (c + 0) V v ts) := hSV
  have HSV : Hid (TSt B bl T c V v ts) := hSV
  have F0 : Hid (TFr T bl V V v v) := TFr.refl _ _ _ _
  have HBx : Hid (Blk V w.heap.size #[.int .i64 n.kind, .string (bs n.name), .int .i64 n.num, .slice o n.kids.length cap, .int .i64 n.pos] 24) := hBx
  have Hx : Hid (w.heap.size ≠ T ∧ w.heap.size ≠ bl ∧ v.ownBlock ≠ some w.heap.size) := ⟨hx1, hx2, hx3⟩
  have HNV : Hid (NdIn V B n o cap) := hnV
  have HH0 : Hid (ListOK B bl T 97 n.kids o0 u0) := h0
  clear h0
  have Hk : Hid (n.kind = 44) := hk
  rw [hk] at c0 hV ⊢
  clear hn hS hc hl hnV hSV hfV hBx hx1 hx2 hx3 hk
  go_enter Tryz.func47, Tryz.ntmps47
  have hBB1 : Below B V V := F0.out.below HSV.out
  have HC1 : Hid (Calls Tryz.prog 97 #[.pointer (some ⟨T, 0, none⟩), .slice o n.kids.length cap] V fun e W' => e = .returned (.tuple #[]) ∧ ∃ v', TSt B bl T (c + 0 + u0) W' v' ((ts) ++ o0) ∧ TFr T bl V W' v v') := HH0.out (ts) v (c + 0) V o cap (HNV.out.1.below hBB1) HNV.out.2.1 HNV.out.2.2.1 S0.out (by have := HC.out; omega) (by have := Hl.out; omega)
  clear hBB1
  go_wp2_with (go_at_call 97; fail)
  refine HC1.out.mono ?_
  rintro e w1 ⟨rfl, v1, s1, f1⟩
  have S1 : Hid (TSt B bl T (c + 0 + u0) w1 v1 ((ts) ++ o0)) := s1
  have F1 : Hid (TFr T bl V w1 v v1) := F0.out.trans f1
  clear s1 f1 HC1 S0 F0 
  clear c0 c1 c2 c3 c4 hlV
  have H3 : TSt B bl T (c + (u0)) w1 v1 (ts ++ (o0)) := by
    have h := S1.out
    simp only [Nat.add_zero, Nat.add_assoc, List.append_assoc] at h ⊢
    exact h
  have H3' : Hid (TSt B bl T (c + (u0)) w1 v1 (ts ++ (o0))) := H3
  have FE : Hid (TFr T bl w w1 v v1) := HF.out.trans F1.out
  clear H3 S1 F1
  go_wp2
  first
    | (go_end0; exact ⟨rfl, v1, H3'.out, FE.out⟩)
    | exact bodyPost_ret (v := .tuple #[]) (by simp [results, Tryz.results47, go_sem]) rfl ⟨rfl, v1, H3'.out, FE.out⟩
set_option maxRecDepth 100000 in
set_option maxHeartbeats 4000000 in
theorem conDo {B bl T : Nat} {n : Nd} (hk : n.kind = 24) {o1 : List TkT} {u1 : Nat} (h1 : ListOK B bl T 84 n.kids o1 u1) : TellOK B bl T 100 n ([wdT ⟨#[100, 111]⟩] ++ o1) (u1) := by
  intro ts v c w o cap hn hS hc hl
  obtain ⟨V, hV, hnV, hSV, hfV, hBx, hx1, hx2, hx3, hx4⟩ := boxed hn hS
  have c0 : V.cell? ⟨w.heap.size, 0, none⟩ = some (.int .i64 n.kind) := hBx.cell 0 _ rfl
  have c1 : V.cell? ⟨w.heap.size, 1, none⟩ = some (.string (bs n.name)) := hBx.cell 1 _ rfl
  have c2 : V.cell? ⟨w.heap.size, 2, none⟩ = some (.int .i64 n.num) := hBx.cell 2 _ rfl
  have c3 : V.cell? ⟨w.heap.size, 3, none⟩ = some (.slice o n.kids.length cap) := hBx.cell 3 _ rfl
  have c4 : V.cell? ⟨w.heap.size, 4, none⟩ = some (.int .i64 n.pos) := hBx.cell 4 _ rfl
  have hlV := hBx.lt
  have HF : Hid (TFr T bl w V v v) := hfV
  have HC : Hid (c + (u1) ≤ 4611686018427387904) := hc
  have Hl : Hid (ts.length + (1 + o1.length) ≤ 1000000000) := by (try simp only [List.length_append, List.length_cons, List.length_nil] at hl); show _ ≤ _; omega
  have S0 : Hid (TSt B bl T (c + 0) V v ts) := hSV
  have HSV : Hid (TSt B bl T c V v ts) := hSV
  have F0 : Hid (TFr T bl V V v v) := TFr.refl _ _ _ _
  have HBx : Hid (Blk V w.heap.size #[.int .i64 n.kind, .string (bs n.name), .int .i64 n.num, .slice o n.kids.length cap, .int .i64 n.pos] 24) := hBx
  have Hx : Hid (w.heap.size ≠ T ∧ w.heap.size ≠ bl ∧ v.ownBlock ≠ some w.heap.size) := ⟨hx1, hx2, hx3⟩
  have HNV : Hid (NdIn V B n o cap) := hnV
  have HH1 : Hid (ListOK B bl T 84 n.kids o1 u1) := h1
  clear h1
  have HMword : Hid (∀ (s : ByteArray) (X : World), Calls Tryz.prog 86 #[.string s] X fun e w' => e = .returned (.agg #[.int .i64 9, .string s, .int .i64 0, .int .i64 0, .int .i64 0, .int .i64 0, .bool false]) ∧ Below X.heap.size X w') := word_c
  have Hk : Hid (n.kind = 24) := hk
  rw [hk] at c0 hV ⊢
  clear hn hS hc hl hnV hSV hfV hBx hx1 hx2 hx3 hk
  go_enter Tryz.func100, Tryz.ntmps100
  go_wp2_with (go_at_call 86; fail)
  refine (HMword.out _ _).mono ?_
  rintro e wm1 ⟨rfl, hbm1⟩
  have Sm1 : Hid (TSt B bl T (c + 0) wm1 v (ts)) := S0.out.below hbm1
  have Fm1 : Hid (TFr T bl V wm1 v v) := F0.out.trans (tfr_below hbm1 v)
  have HP1 : Hid (Calls Tryz.prog 85 #[.pointer (some ⟨T, 0, none⟩), .slice (some ⟨wm1.heap.size, 0, none⟩) 1 1] (wm1.alloc (.cells #[.int .i64 9, .string ⟨#[100, 111]⟩, .int .i64 0, .int .i64 0, .int .i64 0, .int .i64 0, .bool false] 39)) fun e W' => e = .returned (.tuple #[]) ∧ ∃ v'', TSt B bl T (c + 0) W' v'' ((ts) ++ [wdT ⟨#[100, 111]⟩]) ∧ TFr T bl wm1 W' v v'') := put1_c B bl T (c + 0) _ v 9 ⟨#[100, 111]⟩ 0 wm1 Sm1.out (by have := Hl.out; omega)
  clear hbm1
  go_wp2_with (go_at_call 85; fail)
  refine HP1.out.mono ?_
  rintro e w1 ⟨rfl, v1, s1, f1⟩
  have S1 : Hid (TSt B bl T (c + 0) w1 v1 ((ts) ++ [wdT ⟨#[100, 111]⟩])) := s1
  have F1 : Hid (TFr T bl V w1 v v1) := Fm1.out.trans f1
  clear s1 f1 HP1 Sm1 Fm1 S0 F0
  clear c0 c1 c2 c3 c4 hlV
  have hBB2 : Below B V w1 := F1.out.below HSV.out
  have HC2 : Hid (Calls Tryz.prog 84 #[.pointer (some ⟨T, 0, none⟩), .slice o n.kids.length cap] w1 fun e W' => e = .returned (.tuple #[]) ∧ ∃ v', TSt B bl T (c + 0 + u1) W' v' (((ts) ++ [wdT ⟨#[100, 111]⟩]) ++ o1) ∧ TFr T bl w1 W' v1 v') := HH1.out ((ts) ++ [wdT ⟨#[100, 111]⟩]) v1 (c + 0) w1 o cap (HNV.out.1.below hBB2) HNV.out.2.1 HNV.out.2.2.1 S1.out (by have := HC.out; omega) (by have := Hl.out; simp only [List.length_append, List.length_cons, List.length_nil]; omega)
  clear hBB2
  go_wp2_with (go_at_call 84; fail)
  refine HC2.out.mono ?_
  rintro e w2 ⟨rfl, v2, s2, f2⟩
  have S2 : Hid (TSt B bl T (c + 0 + u1) w2 v2 (((ts) ++ [wdT ⟨#[100, 111]⟩]) ++ o1)) := s2
  have F2 : Hid (TFr T bl V w2 v v2) := F1.out.trans f2
  clear s2 f2 HC2 S1 F1 
  have H3 : TSt B bl T (c + (u1)) w2 v2 (ts ++ ([wdT ⟨#[100, 111]⟩] ++ o1)) := by
    have h := S2.out
    simp only [Nat.add_zero, Nat.add_assoc, List.append_assoc] at h ⊢
    exact h
  have H3' : Hid (TSt B bl T (c + (u1)) w2 v2 (ts ++ ([wdT ⟨#[100, 111]⟩] ++ o1))) := H3
  have FE : Hid (TFr T bl w w2 v v2) := HF.out.trans F2.out
  clear H3 S2 F2
  go_wp2
  first
    | (go_end0; exact ⟨rfl, v2, H3'.out, FE.out⟩)
    | exact bodyPost_ret (v := .tuple #[]) (by simp [results, Tryz.results100, go_sem]) rfl ⟨rfl, v2, H3'.out, FE.out⟩
set_option maxRecDepth 100000 in
set_option maxHeartbeats 4000000 in
theorem declWhere {B bl T : Nat} {n : Nd} (hk : n.kind = 10) {o0 : List TkT} {u0 : Nat} (h0 : ListOK B bl T 84 n.kids o0 u0) : TellOK B bl T 45 n (o0) (u0) := by
  intro ts v c w o cap hn hS hc hl
  obtain ⟨V, hV, hnV, hSV, hfV, hBx, hx1, hx2, hx3, hx4⟩ := boxed hn hS
  have c0 : V.cell? ⟨w.heap.size, 0, none⟩ = some (.int .i64 n.kind) := hBx.cell 0 _ rfl
  have c1 : V.cell? ⟨w.heap.size, 1, none⟩ = some (.string (bs n.name)) := hBx.cell 1 _ rfl
  have c2 : V.cell? ⟨w.heap.size, 2, none⟩ = some (.int .i64 n.num) := hBx.cell 2 _ rfl
  have c3 : V.cell? ⟨w.heap.size, 3, none⟩ = some (.slice o n.kids.length cap) := hBx.cell 3 _ rfl
  have c4 : V.cell? ⟨w.heap.size, 4, none⟩ = some (.int .i64 n.pos) := hBx.cell 4 _ rfl
  have hlV := hBx.lt
  have HF : Hid (TFr T bl w V v v) := hfV
  have HC : Hid (c + (u0) ≤ 4611686018427387904) := hc
  have Hl : Hid (ts.length + (o0.length) ≤ 1000000000) := by (try simp only [List.length_append, List.length_cons, List.length_nil] at hl); show _ ≤ _; omega
  have S0 : Hid (TSt B bl T (c + 0) V v ts) := hSV
  have HSV : Hid (TSt B bl T c V v ts) := hSV
  have F0 : Hid (TFr T bl V V v v) := TFr.refl _ _ _ _
  have HBx : Hid (Blk V w.heap.size #[.int .i64 n.kind, .string (bs n.name), .int .i64 n.num, .slice o n.kids.length cap, .int .i64 n.pos] 24) := hBx
  have Hx : Hid (w.heap.size ≠ T ∧ w.heap.size ≠ bl ∧ v.ownBlock ≠ some w.heap.size) := ⟨hx1, hx2, hx3⟩
  have HNV : Hid (NdIn V B n o cap) := hnV
  have HH0 : Hid (ListOK B bl T 84 n.kids o0 u0) := h0
  clear h0
  have Hk : Hid (n.kind = 10) := hk
  rw [hk] at c0 hV ⊢
  clear hn hS hc hl hnV hSV hfV hBx hx1 hx2 hx3 hk
  go_enter Tryz.func45, Tryz.ntmps45
  have hBB1 : Below B V V := F0.out.below HSV.out
  have HC1 : Hid (Calls Tryz.prog 84 #[.pointer (some ⟨T, 0, none⟩), .slice o n.kids.length cap] V fun e W' => e = .returned (.tuple #[]) ∧ ∃ v', TSt B bl T (c + 0 + u0) W' v' ((ts) ++ o0) ∧ TFr T bl V W' v v') := HH0.out (ts) v (c + 0) V o cap (HNV.out.1.below hBB1) HNV.out.2.1 HNV.out.2.2.1 S0.out (by have := HC.out; omega) (by have := Hl.out; omega)
  clear hBB1
  go_wp2_with (go_at_call 84; fail)
  refine HC1.out.mono ?_
  rintro e w1 ⟨rfl, v1, s1, f1⟩
  have S1 : Hid (TSt B bl T (c + 0 + u0) w1 v1 ((ts) ++ o0)) := s1
  have F1 : Hid (TFr T bl V w1 v v1) := F0.out.trans f1
  clear s1 f1 HC1 S0 F0 
  clear c0 c1 c2 c3 c4 hlV
  have H3 : TSt B bl T (c + (u0)) w1 v1 (ts ++ (o0)) := by
    have h := S1.out
    simp only [Nat.add_zero, Nat.add_assoc, List.append_assoc] at h ⊢
    exact h
  have H3' : Hid (TSt B bl T (c + (u0)) w1 v1 (ts ++ (o0))) := H3
  have FE : Hid (TFr T bl w w1 v v1) := HF.out.trans F1.out
  clear H3 S1 F1
  go_wp2
  first
    | (go_end0; exact ⟨rfl, v1, H3'.out, FE.out⟩)
    | exact bodyPost_ret (v := .tuple #[]) (by simp [results, Tryz.results45, go_sem]) rfl ⟨rfl, v1, H3'.out, FE.out⟩
set_option maxRecDepth 100000 in
set_option maxHeartbeats 4000000 in
theorem declData {B bl T : Nat} {n : Nd} (hk : n.kind = 2) {o1 : List TkT} {u1 : Nat} (h1 : StrOK B bl T 87 (bs n.name) o1 u1) {o3 : List TkT} {u3 : Nat} (h3 : PartOK B bl T n.kids (sgT ⟨#[124]⟩) o3 u3) : TellOK B bl T 45 n ([wdT ⟨#[100, 97, 116, 97]⟩] ++ o1 ++ [sgT ⟨#[61]⟩] ++ o3) (u1 + u3) := by
  intro ts v c w o cap hn hS hc hl
  obtain ⟨V, hV, hnV, hSV, hfV, hBx, hx1, hx2, hx3, hx4⟩ := boxed hn hS
  have c0 : V.cell? ⟨w.heap.size, 0, none⟩ = some (.int .i64 n.kind) := hBx.cell 0 _ rfl
  have c1 : V.cell? ⟨w.heap.size, 1, none⟩ = some (.string (bs n.name)) := hBx.cell 1 _ rfl
  have c2 : V.cell? ⟨w.heap.size, 2, none⟩ = some (.int .i64 n.num) := hBx.cell 2 _ rfl
  have c3 : V.cell? ⟨w.heap.size, 3, none⟩ = some (.slice o n.kids.length cap) := hBx.cell 3 _ rfl
  have c4 : V.cell? ⟨w.heap.size, 4, none⟩ = some (.int .i64 n.pos) := hBx.cell 4 _ rfl
  have hlV := hBx.lt
  have HF : Hid (TFr T bl w V v v) := hfV
  have HC : Hid (c + (u1 + u3) ≤ 4611686018427387904) := hc
  have Hl : Hid (ts.length + (1 + o1.length + 1 + o3.length) ≤ 1000000000) := by (try simp only [List.length_append, List.length_cons, List.length_nil] at hl); show _ ≤ _; omega
  have S0 : Hid (TSt B bl T (c + 0) V v ts) := hSV
  have HSV : Hid (TSt B bl T c V v ts) := hSV
  have F0 : Hid (TFr T bl V V v v) := TFr.refl _ _ _ _
  have HBx : Hid (Blk V w.heap.size #[.int .i64 n.kind, .string (bs n.name), .int .i64 n.num, .slice o n.kids.length cap, .int .i64 n.pos] 24) := hBx
  have Hx : Hid (w.heap.size ≠ T ∧ w.heap.size ≠ bl ∧ v.ownBlock ≠ some w.heap.size) := ⟨hx1, hx2, hx3⟩
  have HNV : Hid (NdIn V B n o cap) := hnV
  have HH1 : Hid (StrOK B bl T 87 (bs n.name) o1 u1) := h1
  clear h1
  have HH3 : Hid (PartOK B bl T n.kids (sgT ⟨#[124]⟩) o3 u3) := h3
  clear h3
  have HMsign : Hid (∀ (s : ByteArray) (X : World), Calls Tryz.prog 88 #[.string s] X fun e w' => e = .returned (.agg #[.int .i64 10, .string s, .int .i64 0, .int .i64 0, .int .i64 0, .int .i64 0, .bool false]) ∧ Below X.heap.size X w') := sign_c
  have HMword : Hid (∀ (s : ByteArray) (X : World), Calls Tryz.prog 86 #[.string s] X fun e w' => e = .returned (.agg #[.int .i64 9, .string s, .int .i64 0, .int .i64 0, .int .i64 0, .int .i64 0, .bool false]) ∧ Below X.heap.size X w') := word_c
  have Hk : Hid (n.kind = 2) := hk
  rw [hk] at c0 hV ⊢
  clear hn hS hc hl hnV hSV hfV hBx hx1 hx2 hx3 hk
  go_enter Tryz.func45, Tryz.ntmps45
  go_wp2_with (go_at_call 86; fail)
  refine (HMword.out _ _).mono ?_
  rintro e wm1 ⟨rfl, hbm1⟩
  have Sm1 : Hid (TSt B bl T (c + 0) wm1 v (ts)) := S0.out.below hbm1
  have Fm1 : Hid (TFr T bl V wm1 v v) := F0.out.trans (tfr_below hbm1 v)
  have HP1 : Hid (Calls Tryz.prog 85 #[.pointer (some ⟨T, 0, none⟩), .slice (some ⟨wm1.heap.size, 0, none⟩) 1 1] (wm1.alloc (.cells #[.int .i64 9, .string ⟨#[100, 97, 116, 97]⟩, .int .i64 0, .int .i64 0, .int .i64 0, .int .i64 0, .bool false] 39)) fun e W' => e = .returned (.tuple #[]) ∧ ∃ v'', TSt B bl T (c + 0) W' v'' ((ts) ++ [wdT ⟨#[100, 97, 116, 97]⟩]) ∧ TFr T bl wm1 W' v v'') := put1_c B bl T (c + 0) _ v 9 ⟨#[100, 97, 116, 97]⟩ 0 wm1 Sm1.out (by have := Hl.out; omega)
  clear hbm1
  go_wp2_with (go_at_call 85; fail)
  refine HP1.out.mono ?_
  rintro e w1 ⟨rfl, v1, s1, f1⟩
  have S1 : Hid (TSt B bl T (c + 0) w1 v1 ((ts) ++ [wdT ⟨#[100, 97, 116, 97]⟩])) := s1
  have F1 : Hid (TFr T bl V w1 v v1) := Fm1.out.trans f1
  clear s1 f1 HP1 Sm1 Fm1 S0 F0
  clear c0 c1 c2 c3 c4 hlV
  have HC2 : Hid (Calls Tryz.prog 87 #[.pointer (some ⟨T, 0, none⟩), .string (bs n.name)] w1 fun e W' => e = .returned (.tuple #[]) ∧ ∃ v', TSt B bl T (c + 0 + u1) W' v' (((ts) ++ [wdT ⟨#[100, 97, 116, 97]⟩]) ++ o1) ∧ TFr T bl w1 W' v1 v') := HH1.out ((ts) ++ [wdT ⟨#[100, 97, 116, 97]⟩]) v1 (c + 0) w1 S1.out (by have := HC.out; omega) (by have := Hl.out; simp only [List.length_append, List.length_cons, List.length_nil]; omega)
  have hBk := HBx.out.tfr F1.out Hx.out.1 Hx.out.2.1 Hx.out.2.2
  have b1 := hBk.cell 1 _ rfl
  have hlb := hBk.lt
  clear hBk
  go_wp2_with (go_at_call 87; fail)
  refine HC2.out.mono ?_
  rintro e w2 ⟨rfl, v2, s2, f2⟩
  have S2 : Hid (TSt B bl T (c + 0 + u1) w2 v2 (((ts) ++ [wdT ⟨#[100, 97, 116, 97]⟩]) ++ o1)) := s2
  have F2 : Hid (TFr T bl V w2 v v2) := F1.out.trans f2
  clear s2 f2 HC2 S1 F1  hlb b1
  go_wp2_with (go_at_call 88; fail)
  refine (HMsign.out _ _).mono ?_
  rintro e wm3 ⟨rfl, hbm3⟩
  have Sm3 : Hid (TSt B bl T (c + 0 + u1) wm3 v2 (((ts) ++ [wdT ⟨#[100, 97, 116, 97]⟩]) ++ o1)) := S2.out.below hbm3
  have Fm3 : Hid (TFr T bl V wm3 v v2) := F2.out.trans (tfr_below hbm3 v2)
  have HP3 : Hid (Calls Tryz.prog 85 #[.pointer (some ⟨T, 0, none⟩), .slice (some ⟨wm3.heap.size, 0, none⟩) 1 1] (wm3.alloc (.cells #[.int .i64 10, .string ⟨#[61]⟩, .int .i64 0, .int .i64 0, .int .i64 0, .int .i64 0, .bool false] 39)) fun e W' => e = .returned (.tuple #[]) ∧ ∃ v'', TSt B bl T (c + 0 + u1) W' v'' ((((ts) ++ [wdT ⟨#[100, 97, 116, 97]⟩]) ++ o1) ++ [sgT ⟨#[61]⟩]) ∧ TFr T bl wm3 W' v2 v'') := put1_c B bl T (c + 0 + u1) _ v2 10 ⟨#[61]⟩ 0 wm3 Sm3.out (by have := Hl.out; simp only [List.length_append, List.length_cons, List.length_nil]; omega)
  clear hbm3
  go_wp2_with (go_at_call 85; fail)
  refine HP3.out.mono ?_
  rintro e w3 ⟨rfl, v3, s3, f3⟩
  have S3 : Hid (TSt B bl T (c + 0 + u1) w3 v3 ((((ts) ++ [wdT ⟨#[100, 97, 116, 97]⟩]) ++ o1) ++ [sgT ⟨#[61]⟩])) := s3
  have F3 : Hid (TFr T bl V w3 v v3) := Fm3.out.trans f3
  clear s3 f3 HP3 Sm3 Fm3 S2 F2
  go_wp2_with (go_at_call 88; fail)
  refine (HMsign.out _ _).mono ?_
  rintro e wm4 ⟨rfl, hbm4⟩
  have Sm4 : Hid (TSt B bl T (c + 0 + u1) wm4 v3 ((((ts) ++ [wdT ⟨#[100, 97, 116, 97]⟩]) ++ o1) ++ [sgT ⟨#[61]⟩])) := S3.out.below hbm4
  have Fm4 : Hid (TFr T bl V wm4 v v3) := F3.out.trans (tfr_below hbm4 v3)
  have hBB4 : Below B V wm4 := Fm4.out.below HSV.out
  have HC4 : Hid (Calls Tryz.prog 89 #[.pointer (some ⟨T, 0, none⟩), .slice o n.kids.length cap, .agg #[.int .i64 10, .string ⟨#[124]⟩, .int .i64 0, .int .i64 0, .int .i64 0, .int .i64 0, .bool false]] wm4 fun e W' => e = .returned (.tuple #[]) ∧ ∃ v', TSt B bl T (c + 0 + u1 + u3) W' v' (((((ts) ++ [wdT ⟨#[100, 97, 116, 97]⟩]) ++ o1) ++ [sgT ⟨#[61]⟩]) ++ o3) ∧ TFr T bl wm4 W' v3 v') := HH3.out ((((ts) ++ [wdT ⟨#[100, 97, 116, 97]⟩]) ++ o1) ++ [sgT ⟨#[61]⟩]) v3 (c + 0 + u1) wm4 o cap (HNV.out.1.below hBB4) HNV.out.2.1 HNV.out.2.2.1 Sm4.out (by have := HC.out; omega) (by have := Hl.out; simp only [List.length_append, List.length_cons, List.length_nil]; omega)
  clear hBB4 hbm4
  go_wp2_with (go_at_call 89; fail)
  refine HC4.out.mono ?_
  rintro e w4 ⟨rfl, v4, s4, f4⟩
  have S4 : Hid (TSt B bl T (c + 0 + u1 + u3) w4 v4 (((((ts) ++ [wdT ⟨#[100, 97, 116, 97]⟩]) ++ o1) ++ [sgT ⟨#[61]⟩]) ++ o3)) := s4
  have F4 : Hid (TFr T bl V w4 v v4) := Fm4.out.trans f4
  clear s4 f4 HC4 S3 F3 
  have H3 : TSt B bl T (c + (u1 + u3)) w4 v4 (ts ++ ([wdT ⟨#[100, 97, 116, 97]⟩] ++ o1 ++ [sgT ⟨#[61]⟩] ++ o3)) := by
    have h := S4.out
    simp only [Nat.add_zero, Nat.add_assoc, List.append_assoc] at h ⊢
    exact h
  have H3' : Hid (TSt B bl T (c + (u1 + u3)) w4 v4 (ts ++ ([wdT ⟨#[100, 97, 116, 97]⟩] ++ o1 ++ [sgT ⟨#[61]⟩] ++ o3))) := H3
  have FE : Hid (TFr T bl w w4 v v4) := HF.out.trans F4.out
  clear H3 S4 F4
  go_wp2
  first
    | (go_end0; exact ⟨rfl, v4, H3'.out, FE.out⟩)
    | exact bodyPost_ret (v := .tuple #[]) (by simp [results, Tryz.results45, go_sem]) rfl ⟨rfl, v4, H3'.out, FE.out⟩
set_option maxRecDepth 100000 in
set_option maxHeartbeats 4000000 in
theorem exprVarN {B bl T : Nat} {n : Nd} (hk : n.kind = 11) {o0 : List TkT} {u0 : Nat} (h0 : StrOK B bl T 87 (bs n.name) o0 u0) : TellOK B bl T 46 n (o0) (u0) := by
  intro ts v c w o cap hn hS hc hl
  obtain ⟨V, hV, hnV, hSV, hfV, hBx, hx1, hx2, hx3, hx4⟩ := boxed hn hS
  have c0 : V.cell? ⟨w.heap.size, 0, none⟩ = some (.int .i64 n.kind) := hBx.cell 0 _ rfl
  have c1 : V.cell? ⟨w.heap.size, 1, none⟩ = some (.string (bs n.name)) := hBx.cell 1 _ rfl
  have c2 : V.cell? ⟨w.heap.size, 2, none⟩ = some (.int .i64 n.num) := hBx.cell 2 _ rfl
  have c3 : V.cell? ⟨w.heap.size, 3, none⟩ = some (.slice o n.kids.length cap) := hBx.cell 3 _ rfl
  have c4 : V.cell? ⟨w.heap.size, 4, none⟩ = some (.int .i64 n.pos) := hBx.cell 4 _ rfl
  have hlV := hBx.lt
  have HF : Hid (TFr T bl w V v v) := hfV
  have HC : Hid (c + (u0) ≤ 4611686018427387904) := hc
  have Hl : Hid (ts.length + (o0.length) ≤ 1000000000) := by (try simp only [List.length_append, List.length_cons, List.length_nil] at hl); show _ ≤ _; omega
  have S0 : Hid (TSt B bl T (c + 0) V v ts) := hSV
  have HSV : Hid (TSt B bl T c V v ts) := hSV
  have F0 : Hid (TFr T bl V V v v) := TFr.refl _ _ _ _
  have HBx : Hid (Blk V w.heap.size #[.int .i64 n.kind, .string (bs n.name), .int .i64 n.num, .slice o n.kids.length cap, .int .i64 n.pos] 24) := hBx
  have Hx : Hid (w.heap.size ≠ T ∧ w.heap.size ≠ bl ∧ v.ownBlock ≠ some w.heap.size) := ⟨hx1, hx2, hx3⟩
  have HNV : Hid (NdIn V B n o cap) := hnV
  have HH0 : Hid (StrOK B bl T 87 (bs n.name) o0 u0) := h0
  clear h0
  have Hk : Hid (n.kind = 11) := hk
  rw [hk] at c0 hV ⊢
  clear hn hS hc hl hnV hSV hfV hBx hx1 hx2 hx3 hk
  go_enter Tryz.func46, Tryz.ntmps46
  have HC1 : Hid (Calls Tryz.prog 87 #[.pointer (some ⟨T, 0, none⟩), .string (bs n.name)] V fun e W' => e = .returned (.tuple #[]) ∧ ∃ v', TSt B bl T (c + 0 + u0) W' v' ((ts) ++ o0) ∧ TFr T bl V W' v v') := HH0.out (ts) v (c + 0) V S0.out (by have := HC.out; omega) (by have := Hl.out; omega)
  go_wp2_with (go_at_call 87; fail)
  refine HC1.out.mono ?_
  rintro e w1 ⟨rfl, v1, s1, f1⟩
  have S1 : Hid (TSt B bl T (c + 0 + u0) w1 v1 ((ts) ++ o0)) := s1
  have F1 : Hid (TFr T bl V w1 v v1) := F0.out.trans f1
  clear s1 f1 HC1 S0 F0 
  clear c0 c1 c2 c3 c4 hlV
  have H3 : TSt B bl T (c + (u0)) w1 v1 (ts ++ (o0)) := by
    have h := S1.out
    simp only [Nat.add_zero, Nat.add_assoc, List.append_assoc] at h ⊢
    exact h
  have H3' : Hid (TSt B bl T (c + (u0)) w1 v1 (ts ++ (o0))) := H3
  have FE : Hid (TFr T bl w w1 v v1) := HF.out.trans F1.out
  clear H3 S1 F1
  go_wp2
  first
    | (go_end0; exact ⟨rfl, v1, H3'.out, FE.out⟩)
    | exact bodyPost_ret (v := .tuple #[]) (by simp [results, Tryz.results46, go_sem]) rfl ⟨rfl, v1, H3'.out, FE.out⟩
set_option maxRecDepth 100000 in
set_option maxHeartbeats 4000000 in
theorem patVarN {B bl T : Nat} {n : Nd} (hk : n.kind = 34) {o0 : List TkT} {u0 : Nat} (h0 : StrOK B bl T 87 (bs n.name) o0 u0) : TellOK B bl T 47 n (o0) (u0) := by
  intro ts v c w o cap hn hS hc hl
  obtain ⟨V, hV, hnV, hSV, hfV, hBx, hx1, hx2, hx3, hx4⟩ := boxed hn hS
  have c0 : V.cell? ⟨w.heap.size, 0, none⟩ = some (.int .i64 n.kind) := hBx.cell 0 _ rfl
  have c1 : V.cell? ⟨w.heap.size, 1, none⟩ = some (.string (bs n.name)) := hBx.cell 1 _ rfl
  have c2 : V.cell? ⟨w.heap.size, 2, none⟩ = some (.int .i64 n.num) := hBx.cell 2 _ rfl
  have c3 : V.cell? ⟨w.heap.size, 3, none⟩ = some (.slice o n.kids.length cap) := hBx.cell 3 _ rfl
  have c4 : V.cell? ⟨w.heap.size, 4, none⟩ = some (.int .i64 n.pos) := hBx.cell 4 _ rfl
  have hlV := hBx.lt
  have HF : Hid (TFr T bl w V v v) := hfV
  have HC : Hid (c + (u0) ≤ 4611686018427387904) := hc
  have Hl : Hid (ts.length + (o0.length) ≤ 1000000000) := by (try simp only [List.length_append, List.length_cons, List.length_nil] at hl); show _ ≤ _; omega
  have S0 : Hid (TSt B bl T (c + 0) V v ts) := hSV
  have HSV : Hid (TSt B bl T c V v ts) := hSV
  have F0 : Hid (TFr T bl V V v v) := TFr.refl _ _ _ _
  have HBx : Hid (Blk V w.heap.size #[.int .i64 n.kind, .string (bs n.name), .int .i64 n.num, .slice o n.kids.length cap, .int .i64 n.pos] 24) := hBx
  have Hx : Hid (w.heap.size ≠ T ∧ w.heap.size ≠ bl ∧ v.ownBlock ≠ some w.heap.size) := ⟨hx1, hx2, hx3⟩
  have HNV : Hid (NdIn V B n o cap) := hnV
  have HH0 : Hid (StrOK B bl T 87 (bs n.name) o0 u0) := h0
  clear h0
  have Hk : Hid (n.kind = 34) := hk
  rw [hk] at c0 hV ⊢
  clear hn hS hc hl hnV hSV hfV hBx hx1 hx2 hx3 hk
  go_enter Tryz.func47, Tryz.ntmps47
  have HC1 : Hid (Calls Tryz.prog 87 #[.pointer (some ⟨T, 0, none⟩), .string (bs n.name)] V fun e W' => e = .returned (.tuple #[]) ∧ ∃ v', TSt B bl T (c + 0 + u0) W' v' ((ts) ++ o0) ∧ TFr T bl V W' v v') := HH0.out (ts) v (c + 0) V S0.out (by have := HC.out; omega) (by have := Hl.out; omega)
  go_wp2_with (go_at_call 87; fail)
  refine HC1.out.mono ?_
  rintro e w1 ⟨rfl, v1, s1, f1⟩
  have S1 : Hid (TSt B bl T (c + 0 + u0) w1 v1 ((ts) ++ o0)) := s1
  have F1 : Hid (TFr T bl V w1 v v1) := F0.out.trans f1
  clear s1 f1 HC1 S0 F0 
  clear c0 c1 c2 c3 c4 hlV
  have H3 : TSt B bl T (c + (u0)) w1 v1 (ts ++ (o0)) := by
    have h := S1.out
    simp only [Nat.add_zero, Nat.add_assoc, List.append_assoc] at h ⊢
    exact h
  have H3' : Hid (TSt B bl T (c + (u0)) w1 v1 (ts ++ (o0))) := H3
  have FE : Hid (TFr T bl w w1 v v1) := HF.out.trans F1.out
  clear H3 S1 F1
  go_wp2
  first
    | (go_end0; exact ⟨rfl, v1, H3'.out, FE.out⟩)
    | exact bodyPost_ret (v := .tuple #[]) (by simp [results, Tryz.results47, go_sem]) rfl ⟨rfl, v1, H3'.out, FE.out⟩
set_option maxRecDepth 100000 in
set_option maxHeartbeats 4000000 in
theorem declOpN {B bl T : Nat} {n : Nd} (hk : n.kind = 5) {o0 : List TkT} {u0 : Nat} (h0 : StrOK B bl T 92 (bs n.name) o0 u0) : TellOK B bl T 45 n (o0) (u0) := by
  intro ts v c w o cap hn hS hc hl
  obtain ⟨V, hV, hnV, hSV, hfV, hBx, hx1, hx2, hx3, hx4⟩ := boxed hn hS
  have c0 : V.cell? ⟨w.heap.size, 0, none⟩ = some (.int .i64 n.kind) := hBx.cell 0 _ rfl
  have c1 : V.cell? ⟨w.heap.size, 1, none⟩ = some (.string (bs n.name)) := hBx.cell 1 _ rfl
  have c2 : V.cell? ⟨w.heap.size, 2, none⟩ = some (.int .i64 n.num) := hBx.cell 2 _ rfl
  have c3 : V.cell? ⟨w.heap.size, 3, none⟩ = some (.slice o n.kids.length cap) := hBx.cell 3 _ rfl
  have c4 : V.cell? ⟨w.heap.size, 4, none⟩ = some (.int .i64 n.pos) := hBx.cell 4 _ rfl
  have hlV := hBx.lt
  have HF : Hid (TFr T bl w V v v) := hfV
  have HC : Hid (c + (u0) ≤ 4611686018427387904) := hc
  have Hl : Hid (ts.length + (o0.length) ≤ 1000000000) := by (try simp only [List.length_append, List.length_cons, List.length_nil] at hl); show _ ≤ _; omega
  have S0 : Hid (TSt B bl T (c + 0) V v ts) := hSV
  have HSV : Hid (TSt B bl T c V v ts) := hSV
  have F0 : Hid (TFr T bl V V v v) := TFr.refl _ _ _ _
  have HBx : Hid (Blk V w.heap.size #[.int .i64 n.kind, .string (bs n.name), .int .i64 n.num, .slice o n.kids.length cap, .int .i64 n.pos] 24) := hBx
  have Hx : Hid (w.heap.size ≠ T ∧ w.heap.size ≠ bl ∧ v.ownBlock ≠ some w.heap.size) := ⟨hx1, hx2, hx3⟩
  have HNV : Hid (NdIn V B n o cap) := hnV
  have HH0 : Hid (StrOK B bl T 92 (bs n.name) o0 u0) := h0
  clear h0
  have Hk : Hid (n.kind = 5) := hk
  rw [hk] at c0 hV ⊢
  clear hn hS hc hl hnV hSV hfV hBx hx1 hx2 hx3 hk
  go_enter Tryz.func45, Tryz.ntmps45
  have HC1 : Hid (Calls Tryz.prog 92 #[.pointer (some ⟨T, 0, none⟩), .string (bs n.name)] V fun e W' => e = .returned (.tuple #[]) ∧ ∃ v', TSt B bl T (c + 0 + u0) W' v' ((ts) ++ o0) ∧ TFr T bl V W' v v') := HH0.out (ts) v (c + 0) V S0.out (by have := HC.out; omega) (by have := Hl.out; omega)
  go_wp2_with (go_at_call 92; fail)
  refine HC1.out.mono ?_
  rintro e w1 ⟨rfl, v1, s1, f1⟩
  have S1 : Hid (TSt B bl T (c + 0 + u0) w1 v1 ((ts) ++ o0)) := s1
  have F1 : Hid (TFr T bl V w1 v v1) := F0.out.trans f1
  clear s1 f1 HC1 S0 F0 
  clear c0 c1 c2 c3 c4 hlV
  have H3 : TSt B bl T (c + (u0)) w1 v1 (ts ++ (o0)) := by
    have h := S1.out
    simp only [Nat.add_zero, Nat.add_assoc, List.append_assoc] at h ⊢
    exact h
  have H3' : Hid (TSt B bl T (c + (u0)) w1 v1 (ts ++ (o0))) := H3
  have FE : Hid (TFr T bl w w1 v v1) := HF.out.trans F1.out
  clear H3 S1 F1
  go_wp2
  first
    | (go_end0; exact ⟨rfl, v1, H3'.out, FE.out⟩)
    | exact bodyPost_ret (v := .tuple #[]) (by simp [results, Tryz.results45, go_sem]) rfl ⟨rfl, v1, H3'.out, FE.out⟩
end Go.Proofs.YtndpebkiiemfpaaGreatDoor
