/-
  Telling rows of operands and operators, blocks, and the nodes that are made of them.
  Telling blocks.
  Telling right sides and guards.
  Telling nodes that are told part by part.
-/
import Derived.Test.YtppnhaacmhfenaaGreatDoorTellA
namespace Go.Proofs.YtppnhaacmhfenaaGreatDoor
open Go.RowKit Go.Shelf Go.Maps
set_option linter.unusedVariables false

set_option maxRecDepth 100000 in
set_option maxHeartbeats 4000000 in
theorem exprApp {B bl T : Nat} {n : Nd} {out : List TkT} {k : Nat} (hk : n.kind = 16) (h : ListOK B bl T 145 n.kids out k) : TellOK B bl T 85 n out k := by
  intro ts v c w o cap hn hS hc hl
  obtain ⟨V, hV, hnV, hSV, hfV, hBx, hx1, hx2, hx3, hx4⟩ := boxed hn hS
  have c0 : V.cell? ⟨w.heap.size, 0, none⟩ = some (.int .i64 n.kind) := hBx.cell 0 _ rfl
  have c1 : V.cell? ⟨w.heap.size, 1, none⟩ = some (.string (bs n.name)) := hBx.cell 1 _ rfl
  have c2 : V.cell? ⟨w.heap.size, 2, none⟩ = some (.int .i64 n.num) := hBx.cell 2 _ rfl
  have c3 : V.cell? ⟨w.heap.size, 3, none⟩ = some (.slice o n.kids.length cap) := hBx.cell 3 _ rfl
  have c4 : V.cell? ⟨w.heap.size, 4, none⟩ = some (.int .i64 n.pos) := hBx.cell 4 _ rfl
  have hlV := hBx.lt
  have HF : Hid (TFr T bl w V v v) := hfV
  have HC : Hid (Calls Tryz.prog 145 #[.pointer (some ⟨T, 0, none⟩), .slice o n.kids.length cap] V fun e W' => e = .returned (.tuple #[]) ∧ ∃ v', TSt B bl T (c + k) W' v' (ts ++ out) ∧ TFr T bl V W' v v') := h ts v c V o cap hnV.1 hnV.2.1 hnV.2.2.1 hSV hc hl
  rw [hk] at c0 hV ⊢
  clear hn hS hc hl hnV hSV hfV hBx h
  go_enter Tryz.func85, Tryz.ntmps85
  go_wp2_with (go_at_call 145; fail)
  refine HC.out.mono ?_
  rintro e w3 ⟨rfl, v', h3, f3⟩
  have H3 : Hid (TSt B bl T (c + k) w3 v' (ts ++ out)) := h3
  have F3 : Hid (TFr T bl w w3 v v') := HF.out.trans f3
  clear h3 f3
  go_wp2
  first
    | (go_end0; exact ⟨rfl, v', H3.out, F3.out⟩)
    | exact bodyPost_ret (v := .tuple #[]) (by simp [results, Tryz.results85, go_sem]) rfl ⟨rfl, v', H3.out, F3.out⟩
set_option maxRecDepth 100000 in
set_option maxHeartbeats 4000000 in
theorem exprOps {B bl T : Nat} {n : Nd} {out : List TkT} {k : Nat} (hk : n.kind = 17) (h : ListOK B bl T 149 n.kids out k) : TellOK B bl T 85 n out k := by
  intro ts v c w o cap hn hS hc hl
  obtain ⟨V, hV, hnV, hSV, hfV, hBx, hx1, hx2, hx3, hx4⟩ := boxed hn hS
  have c0 : V.cell? ⟨w.heap.size, 0, none⟩ = some (.int .i64 n.kind) := hBx.cell 0 _ rfl
  have c1 : V.cell? ⟨w.heap.size, 1, none⟩ = some (.string (bs n.name)) := hBx.cell 1 _ rfl
  have c2 : V.cell? ⟨w.heap.size, 2, none⟩ = some (.int .i64 n.num) := hBx.cell 2 _ rfl
  have c3 : V.cell? ⟨w.heap.size, 3, none⟩ = some (.slice o n.kids.length cap) := hBx.cell 3 _ rfl
  have c4 : V.cell? ⟨w.heap.size, 4, none⟩ = some (.int .i64 n.pos) := hBx.cell 4 _ rfl
  have hlV := hBx.lt
  have HF : Hid (TFr T bl w V v v) := hfV
  have HC : Hid (Calls Tryz.prog 149 #[.pointer (some ⟨T, 0, none⟩), .slice o n.kids.length cap] V fun e W' => e = .returned (.tuple #[]) ∧ ∃ v', TSt B bl T (c + k) W' v' (ts ++ out) ∧ TFr T bl V W' v v') := h ts v c V o cap hnV.1 hnV.2.1 hnV.2.2.1 hSV hc hl
  rw [hk] at c0 hV ⊢
  clear hn hS hc hl hnV hSV hfV hBx h
  go_enter Tryz.func85, Tryz.ntmps85
  go_wp2_with (go_at_call 149; fail)
  refine HC.out.mono ?_
  rintro e w3 ⟨rfl, v', h3, f3⟩
  have H3 : Hid (TSt B bl T (c + k) w3 v' (ts ++ out)) := h3
  have F3 : Hid (TFr T bl w w3 v v') := HF.out.trans f3
  clear h3 f3
  go_wp2
  first
    | (go_end0; exact ⟨rfl, v', H3.out, F3.out⟩)
    | exact bodyPost_ret (v := .tuple #[]) (by simp [results, Tryz.results85, go_sem]) rfl ⟨rfl, v', H3.out, F3.out⟩
set_option maxRecDepth 100000 in
set_option maxHeartbeats 4000000 in
theorem declProgram {B bl T : Nat} {n : Nd} {out : List TkT} {k : Nat} (hk : n.kind = 1) (h : ListOK B bl T 136 n.kids out k) : TellOK B bl T 84 n out k := by
  intro ts v c w o cap hn hS hc hl
  obtain ⟨V, hV, hnV, hSV, hfV, hBx, hx1, hx2, hx3, hx4⟩ := boxed hn hS
  have c0 : V.cell? ⟨w.heap.size, 0, none⟩ = some (.int .i64 n.kind) := hBx.cell 0 _ rfl
  have c1 : V.cell? ⟨w.heap.size, 1, none⟩ = some (.string (bs n.name)) := hBx.cell 1 _ rfl
  have c2 : V.cell? ⟨w.heap.size, 2, none⟩ = some (.int .i64 n.num) := hBx.cell 2 _ rfl
  have c3 : V.cell? ⟨w.heap.size, 3, none⟩ = some (.slice o n.kids.length cap) := hBx.cell 3 _ rfl
  have c4 : V.cell? ⟨w.heap.size, 4, none⟩ = some (.int .i64 n.pos) := hBx.cell 4 _ rfl
  have hlV := hBx.lt
  have HF : Hid (TFr T bl w V v v) := hfV
  have HC : Hid (Calls Tryz.prog 136 #[.pointer (some ⟨T, 0, none⟩), .slice o n.kids.length cap] V fun e W' => e = .returned (.tuple #[]) ∧ ∃ v', TSt B bl T (c + k) W' v' (ts ++ out) ∧ TFr T bl V W' v v') := h ts v c V o cap hnV.1 hnV.2.1 hnV.2.2.1 hSV hc hl
  rw [hk] at c0 hV ⊢
  clear hn hS hc hl hnV hSV hfV hBx h
  go_enter Tryz.func84, Tryz.ntmps84
  go_wp2_with (go_at_call 136; fail)
  refine HC.out.mono ?_
  rintro e w3 ⟨rfl, v', h3, f3⟩
  have H3 : Hid (TSt B bl T (c + k) w3 v' (ts ++ out)) := h3
  have F3 : Hid (TFr T bl w w3 v v') := HF.out.trans f3
  clear h3 f3
  go_wp2
  first
    | (go_end0; exact ⟨rfl, v', H3.out, F3.out⟩)
    | exact bodyPost_ret (v := .tuple #[]) (by simp [results, Tryz.results84, go_sem]) rfl ⟨rfl, v', H3.out, F3.out⟩
set_option maxRecDepth 100000 in
set_option maxHeartbeats 4000000 in
theorem turns_ok {B bl T : Nat} {l : List Nd} (outF : Nd → List TkT) (kF : Nd → Nat) (h : ∀ x ∈ l, (x.kind = 5 → TellOK B bl T 46 x (outF x) (kF x)) ∧ (x.kind ≠ 5 → TellOK B bl T 150 x (outF x) (kF x))) : ListOK B bl T 149 l (l.flatMap outF) ((l.map kF).sum) := by
  intro ts v c w o cap hK hc1 hc2 hS hc hl
  obtain ⟨L, hL⟩ : ∃ L, l.length = L := ⟨_, rfl⟩
  have HL : Hid (l.length = L) := hL
  have HH : Hid (∀ x ∈ l, (x.kind = 5 → TellOK B bl T 46 x (outF x) (kF x)) ∧ (x.kind ≠ 5 → TellOK B bl T 150 x (outF x) (kF x))) := h
  have HK : Hid (KIn w B o l) := hK
  have HS : Hid (TSt B bl T c w v ts) := hS
  have HC : Hid (c + (l.map kF).sum ≤ 4611686018427387904) := hc
  have Hl : Hid (ts.length + (l.flatMap outF).length ≤ 1000000000) := hl
  have hLi : (L : Int) ≤ 9223372036854775807 := by omega
  rw [hL]
  clear h hK hS hc hl hc1 hc2 hL
  go_enter Tryz.func149, Tryz.ntmps149
  go_wp2
  go_loopw [8] (fun i wr => ∃ (k : Nat) (v1 : Value), k ≤ L ∧ i = .int .i64 k ∧ Hid (TSt B bl T (c + ((l.take k).map kF).sum) wr v1 (ts ++ (l.take k).flatMap outF)) ∧ Hid (TFr T bl w wr v v1)) (fun i _ => L - (intOf i).toNat)
  case atStart => exact ⟨0, v, Nat.zero_le _, rfl, by show TSt _ _ _ _ _ _ _; simpa using HS.out, TFr.refl _ _ _ _⟩
  case round =>
    obtain ⟨k, v1, hk, rfl, hS1, hF1⟩ := hrel
    by_cases hlt : k < L
    · have hkL : k < l.length := by rw [HL.out]; exact hlt
      have hki : (k : Int) < (L : Int) := by omega
      have hBw : Below B w wr := hF1.out.below HS.out
      obtain ⟨g, off, rfl, hg, hKA⟩ := (HK.out.below hBw).at k hkL
      obtain ⟨o2, cap2, k0, k1, k2, k3, k4, hNk⟩ := kid_in (hKA.get l g off k hkL)
      have hgr : g < wr.heap.size := by have := hS1.out.lt; have := hS1.out.1; omega
      have hA : ∀ ob : Obj, Below wr.heap.size wr (wr.alloc ob) := fun ob => (Below.refl _ _).alloc (Nat.le_refl _) _
      have hst := sum_take kF l k hkL
      have hsl := sum_take_le kF l (k + 1)
      have hft := flat_take outF l k hkL
      have hfl := flat_take_le outF l (k + 1)
      by_cases hx : l[k].kind = 5
      · skip
        have HCk : Hid (∀ ob : Obj, Calls Tryz.prog 46 #[.pointer (some ⟨T, 0, none⟩), .agg #[.int .i64 l[k].kind, .string (bs l[k].name), .int .i64 l[k].num, .slice o2 l[k].kids.length cap2, .int .i64 l[k].pos]] (wr.alloc ob) fun e W' => e = .returned (.tuple #[]) ∧ ∃ v', TSt B bl T (c + ((l.take (k + 1)).map kF).sum) W' v' (ts ++ (l.take (k + 1)).flatMap outF) ∧ TFr T bl (wr.alloc ob) W' v1 v') := by
          intro ob
          have h1 := hS1.out.lt
          have h2 := hS1.out.1
          have := ((HH.out l[k] (List.getElem_mem hkL)).1 hx) _ v1 _ (wr.alloc ob) o2 cap2 (hNk.below ((hA ob).mono (by omega))) (hS1.out.below (hA ob)) (by have := HC.out; omega) (by
            have h3 := Hl.out
            rw [hft] at hfl
            rw [List.length_append] at hfl ⊢
            omega)
          rw [hst, hft, ← Nat.add_assoc, ← List.append_assoc]
          exact this
        have HFb : Hid (∀ (ob : Obj) (W' : World) (v' : Value), TFr T bl (wr.alloc ob) W' v1 v' → TFr T bl w W' v v') := fun ob W' v' hf => (hF1.out.trans (tfr_below (hA ob) v1)).trans hf
        generalize l[k] = nd at k0 k1 k2 k3 k4 HCk hx
        rw [hx] at k0 HCk
        clear hBw hKA hNk hA hst hsl hft hfl hkL hS1 hF1
        go_wp2_with (go_at_call 46; fail)
        refine (HCk.out _).mono ?_
        rintro e w2 ⟨rfl, v2, s2, f2⟩
        have S2 : Hid (TSt B bl T (c + ((l.take (k + 1)).map kF).sum) w2 v2 (ts ++ (l.take (k + 1)).flatMap outF)) := s2
        have F2 : Hid (TFr T bl w w2 v v2) := HFb.out _ _ _ f2
        clear s2 f2 k0 k1 k2 k3 k4 HCk HFb
        go_wp2
        go_roundw
        case rel => exact ⟨k + 1, v2, by omega, by go_num, S2, F2⟩
        case measure => simp [intOf]; omega
      · skip
        have HCk : Hid (∀ ob : Obj, Calls Tryz.prog 150 #[.pointer (some ⟨T, 0, none⟩), .agg #[.int .i64 l[k].kind, .string (bs l[k].name), .int .i64 l[k].num, .slice o2 l[k].kids.length cap2, .int .i64 l[k].pos]] (wr.alloc ob) fun e W' => e = .returned (.tuple #[]) ∧ ∃ v', TSt B bl T (c + ((l.take (k + 1)).map kF).sum) W' v' (ts ++ (l.take (k + 1)).flatMap outF) ∧ TFr T bl (wr.alloc ob) W' v1 v') := by
          intro ob
          have h1 := hS1.out.lt
          have h2 := hS1.out.1
          have := ((HH.out l[k] (List.getElem_mem hkL)).2 hx) _ v1 _ (wr.alloc ob) o2 cap2 (hNk.below ((hA ob).mono (by omega))) (hS1.out.below (hA ob)) (by have := HC.out; omega) (by
            have h3 := Hl.out
            rw [hft] at hfl
            rw [List.length_append] at hfl ⊢
            omega)
          rw [hst, hft, ← Nat.add_assoc, ← List.append_assoc]
          exact this
        have HFb : Hid (∀ (ob : Obj) (W' : World) (v' : Value), TFr T bl (wr.alloc ob) W' v1 v' → TFr T bl w W' v v') := fun ob W' v' hf => (hF1.out.trans (tfr_below (hA ob) v1)).trans hf
        generalize l[k] = nd at k0 k1 k2 k3 k4 HCk hx
        have hx2 : (nd.kind == 5) = false := beq_eq_false_iff_ne.2 hx
        clear hBw hKA hNk hA hst hsl hft hfl hkL hS1 hF1
        go_wp2_with (go_at_call 150; fail)
        refine (HCk.out _).mono ?_
        rintro e w2 ⟨rfl, v2, s2, f2⟩
        have S2 : Hid (TSt B bl T (c + ((l.take (k + 1)).map kF).sum) w2 v2 (ts ++ (l.take (k + 1)).flatMap outF)) := s2
        have F2 : Hid (TFr T bl w w2 v v2) := HFb.out _ _ _ f2
        clear s2 f2 k0 k1 k2 k3 k4 HCk HFb
        go_wp2
        go_roundw
        case rel => exact ⟨k + 1, v2, by omega, by go_num, S2, F2⟩
        case measure => simp [intOf]; omega
    · obtain rfl : k = L := by omega
      have SF : Hid (TSt B bl T (c + (l.map kF).sum) wr v1 (ts ++ l.flatMap outF)) := by
        have h1 := hS1.out
        rw [List.take_of_length_le (by rw [HL.out]; exact Nat.le_refl _)] at h1
        exact h1
      go_wp2
      go_end0
      exact ⟨rfl, v1, SF.out, hF1.out⟩

end Go.Proofs.YtppnhaacmhfenaaGreatDoor

namespace Go.Proofs.YtppnhaacmhfenaaGreatDoor
open Go.RowKit Go.Shelf Go.Maps
set_option linter.unusedVariables false

def lbT : TkT := ⟨8, [123], 0⟩
def rbT : TkT := ⟨8, [125], 0⟩
def scT : TkT := ⟨8, [59], 0⟩
set_option maxRecDepth 100000 in
set_option maxHeartbeats 4000000 in
theorem block_ok {B bl T : Nat} {l : List Nd} (outF : Nd → List TkT) (kF : Nd → Nat) (h : ∀ x ∈ l, TellOK B bl T 46 x (outF x) (kF x)) : ListOK B bl T 136 l (lbT :: (l.flatMap (fun x => outF x ++ [scT]) ++ [rbT])) ((l.map kF).sum) := by
  intro ts v c w o cap hK hc1 hc2 hS hc hl
  obtain ⟨L, hL⟩ : ∃ L, l.length = L := ⟨_, rfl⟩
  obtain ⟨G, hG⟩ : ∃ G : Nd → List TkT, (fun x => outF x ++ [scT]) = G := ⟨_, rfl⟩
  have HGx : Hid (∀ x, G x = outF x ++ [scT]) := fun x => by rw [← hG]
  rw [hG] at hl ⊢
  have HL : Hid (l.length = L) := hL
  have HH : Hid (∀ x ∈ l, TellOK B bl T 46 x (outF x) (kF x)) := h
  have HK : Hid (KIn w B o l) := hK
  have HS : Hid (TSt B bl T (c + 0) w v ts) := hS
  have HF : Hid (TFr T bl w w v v) := TFr.refl _ _ _ _
  have HC : Hid (c + (l.map kF).sum ≤ 4611686018427387904) := hc
  have Hl : Hid (ts.length + ((l.flatMap G).length + 2) ≤ 1000000000) := by simp only [List.length_cons, List.length_append, List.length_nil] at hl; show _ ≤ _; omega
  have HMmark : Hid (∀ (s : ByteArray) (X : World), Calls Tryz.prog 143 #[.string s] X fun e w' => e = .returned (.agg #[.int .i64 8, .string s, .int .i64 0, .int .i64 0, .int .i64 0, .int .i64 0, .bool false]) ∧ Below X.heap.size X w') := mark_c
  have hLi : (L : Int) ≤ 9223372036854775807 := by omega
  have HBw : Hid (∀ (W : World) (v' : Value), TFr T bl w W v v' → Below B w W) := fun W v' hf => hf.below hS
  rw [hL]
  clear h hK hS hc hl hc1 hc2 hL hG
  go_enter Tryz.func136, Tryz.ntmps136
  go_wp2_with (go_at_call 143; fail)
  refine (HMmark.out _ _).mono ?_
  rintro e wma ⟨rfl, hbma⟩
  have Sma : Hid (TSt B bl T (c + 0) wma v (ts)) := HS.out.below hbma
  have Fma : Hid (TFr T bl w wma v v) := HF.out.trans (tfr_below hbma v)
  have HPa : Hid (Calls Tryz.prog 137 #[.pointer (some ⟨T, 0, none⟩), .slice (some ⟨wma.heap.size, 0, none⟩) 1 1] (wma.alloc (.cells #[.int .i64 8, .string ⟨#[123]⟩, .int .i64 0, .int .i64 0, .int .i64 0, .int .i64 0, .bool false] 43)) fun e W' => e = .returned (.tuple #[]) ∧ ∃ v'', TSt B bl T (c + 0) W' v'' ((ts) ++ [lbT]) ∧ TFr T bl wma W' v v'') := put1_c B bl T (c + 0) _ v 8 ⟨#[123]⟩ 0 wma Sma.out (by have := Hl.out; omega)
  clear hbma
  go_wp2_with (go_at_call 137; fail)
  refine HPa.out.mono ?_
  rintro e wa ⟨rfl, va, sa, fa⟩
  have Sa : Hid (TSt B bl T (c + 0) wa va ((ts) ++ [lbT])) := sa
  have Fa : Hid (TFr T bl w wa v va) := Fma.out.trans fa
  clear sa fa HPa Sma Fma HS HF
  go_wp2
  go_loopw [12] (fun i wr => ∃ (k : Nat) (v1 : Value), k ≤ L ∧ i = .int .i64 k ∧ Hid (TSt B bl T (c + ((l.take k).map kF).sum) wr v1 ((ts ++ [lbT]) ++ (l.take k).flatMap G)) ∧ Hid (TFr T bl w wr v v1)) (fun i _ => L - (intOf i).toNat)
  case atStart => exact ⟨0, va, Nat.zero_le _, rfl, by show TSt _ _ _ _ _ _ _; simpa using Sa.out, Fa⟩
  case round =>
    obtain ⟨k, v1, hk, rfl, hS1, hF1⟩ := hrel
    by_cases hlt : k < L
    · have hkL : k < l.length := by rw [HL.out]; exact hlt
      have hki : (k : Int) < (L : Int) := by omega
      have hBw : Below B w wr := HBw.out _ _ hF1.out
      obtain ⟨g, off, rfl, hg, hKA⟩ := (HK.out.below hBw).at k hkL
      obtain ⟨o2, cap2, k0, k1, k2, k3, k4, hNk⟩ := kid_in (hKA.get l g off k hkL)
      have hgr : g < wr.heap.size := by have := hS1.out.lt; have := hS1.out.1; omega
      have hA : ∀ ob : Obj, Below wr.heap.size wr (wr.alloc ob) := fun ob => (Below.refl _ _).alloc (Nat.le_refl _) _
      have hst := sum_take kF l k hkL
      have hsl := sum_take_le kF l (k + 1)
      have hft := flat_take G l k hkL
      have hfl := flat_take_le G l (k + 1)
      have hlen : ((ts ++ [lbT]) ++ (l.take k).flatMap G).length + ((outF l[k]).length + 1) ≤ 1000000000 := by
        have h3 := Hl.out
        rw [hft, HGx.out] at hfl
        simp only [List.length_append, List.length_cons, List.length_nil] at hfl ⊢
        omega
      have HCk : Hid (∀ ob : Obj, Calls Tryz.prog 46 #[.pointer (some ⟨T, 0, none⟩), .agg #[.int .i64 l[k].kind, .string (bs l[k].name), .int .i64 l[k].num, .slice o2 l[k].kids.length cap2, .int .i64 l[k].pos]] (wr.alloc ob) fun e W' => e = .returned (.tuple #[]) ∧ ∃ v', TSt B bl T (c + ((l.take (k + 1)).map kF).sum) W' v' (((ts ++ [lbT]) ++ (l.take k).flatMap G) ++ outF l[k]) ∧ TFr T bl (wr.alloc ob) W' v1 v') := by
        intro ob
        have h1 := hS1.out.lt
        have h2 := hS1.out.1
        have := HH.out l[k] (List.getElem_mem hkL) _ v1 _ (wr.alloc ob) o2 cap2 (hNk.below ((hA ob).mono (by omega))) (hS1.out.below (hA ob)) (by have := HC.out; omega) (by omega)
        rw [hst, ← Nat.add_assoc]
        exact this
      have HFb : Hid (∀ (ob : Obj) (W' : World) (v' : Value), TFr T bl (wr.alloc ob) W' v1 v' → TFr T bl w W' v v') := fun ob W' v' hf => (hF1.out.trans (tfr_below (hA ob) v1)).trans hf
      have HLn : Hid ((((ts ++ [lbT]) ++ (l.take k).flatMap G) ++ outF l[k]).length + 1 ≤ 1000000000) := by show _ ≤ _; rw [List.length_append]; omega
      have HEq : Hid ((((ts ++ [lbT]) ++ (l.take k).flatMap G) ++ outF l[k]) ++ [scT] = (ts ++ [lbT]) ++ (l.take (k + 1)).flatMap G) := by
        show _ = _
        rw [hft, HGx.out, List.append_assoc, List.append_assoc, List.append_assoc]
      generalize hnd : l[k] = nd at k0 k1 k2 k3 k4 HCk HLn HEq
      generalize hts1 : ((ts ++ [lbT]) ++ (l.take k).flatMap G) ++ outF nd = ts1 at HCk HLn HEq
      generalize hcs : c + ((l.take (k + 1)).map kF).sum = cs at HCk
      have Hcs : Hid (c + ((l.take (k + 1)).map kF).sum = cs) := hcs
      clear hBw hKA hNk hA hst hsl hft hfl hkL hS1 hF1 hnd hts1 hcs hlen
      go_wp2_with (go_at_call 46; fail)
      refine (HCk.out _).mono ?_
      rintro e w2 ⟨rfl, v2, s2, f2⟩
      have S2 : Hid (TSt B bl T (cs) w2 v2 ts1) := s2
      have F2 : Hid (TFr T bl w w2 v v2) := HFb.out _ _ _ f2
      clear s2 f2 k0 k1 k2 k3 k4 HCk HFb
      go_wp2_with (go_at_call 143; fail)
      refine (HMmark.out _ _).mono ?_
      rintro e wmb ⟨rfl, hbmb⟩
      have Smb : Hid (TSt B bl T (cs) wmb v2 (ts1)) := S2.out.below hbmb
      have Fmb : Hid (TFr T bl w wmb v v2) := F2.out.trans (tfr_below hbmb v2)
      have HPb : Hid (Calls Tryz.prog 137 #[.pointer (some ⟨T, 0, none⟩), .slice (some ⟨wmb.heap.size, 0, none⟩) 1 1] (wmb.alloc (.cells #[.int .i64 8, .string ⟨#[59]⟩, .int .i64 0, .int .i64 0, .int .i64 0, .int .i64 0, .bool false] 43)) fun e W' => e = .returned (.tuple #[]) ∧ ∃ v'', TSt B bl T (cs) W' v'' ((ts1) ++ [scT]) ∧ TFr T bl wmb W' v2 v'') := put1_c B bl T (cs) _ v2 8 ⟨#[59]⟩ 0 wmb Smb.out (HLn.out)
      clear hbmb
      go_wp2_with (go_at_call 137; fail)
      refine HPb.out.mono ?_
      rintro e wb ⟨rfl, vb, sb, fb⟩
      have Sb : Hid (TSt B bl T (cs) wb vb ((ts1) ++ [scT])) := sb
      have Fb : Hid (TFr T bl w wb v vb) := Fmb.out.trans fb
      clear sb fb HPb Smb Fmb S2 F2
      go_wp2
      go_roundw
      case rel => exact ⟨k + 1, vb, by omega, by go_num, by show TSt _ _ _ _ _ _ _; rw [Hcs.out, ← HEq.out]; exact Sb.out, Fb⟩
      case measure => simp [intOf]; omega
    · obtain rfl : k = L := by omega
      have SF : Hid (TSt B bl T (c + (l.map kF).sum) wr v1 ((ts ++ [lbT]) ++ l.flatMap G)) := by
        have h1 := hS1.out
        rw [List.take_of_length_le (by rw [HL.out]; exact Nat.le_refl _)] at h1
        exact h1
      have HLn : Hid (((ts ++ [lbT]) ++ l.flatMap G).length + 1 ≤ 1000000000) := by have := Hl.out; show _ ≤ _; simp only [List.length_append, List.length_cons, List.length_nil]; omega
      have HEq : Hid (((ts ++ [lbT]) ++ l.flatMap G) ++ [rbT] = ts ++ (lbT :: (l.flatMap G ++ [rbT]))) := by show _ = _; simp
      generalize hts1 : (ts ++ [lbT]) ++ l.flatMap G = ts1 at SF HLn HEq
      clear hts1 hS1
      go_wp2_with (go_at_call 143; fail)
      refine (HMmark.out _ _).mono ?_
      rintro e wmd ⟨rfl, hbmd⟩
      have Smd : Hid (TSt B bl T (c + (l.map kF).sum) wmd v1 (ts1)) := SF.out.below hbmd
      have Fmd : Hid (TFr T bl w wmd v v1) := hF1.out.trans (tfr_below hbmd v1)
      have HPd : Hid (Calls Tryz.prog 137 #[.pointer (some ⟨T, 0, none⟩), .slice (some ⟨wmd.heap.size, 0, none⟩) 1 1] (wmd.alloc (.cells #[.int .i64 8, .string ⟨#[125]⟩, .int .i64 0, .int .i64 0, .int .i64 0, .int .i64 0, .bool false] 43)) fun e W' => e = .returned (.tuple #[]) ∧ ∃ v'', TSt B bl T (c + (l.map kF).sum) W' v'' ((ts1) ++ [rbT]) ∧ TFr T bl wmd W' v1 v'') := put1_c B bl T (c + (l.map kF).sum) _ v1 8 ⟨#[125]⟩ 0 wmd Smd.out (HLn.out)
      clear hbmd
      go_wp2_with (go_at_call 137; fail)
      refine HPd.out.mono ?_
      rintro e wd ⟨rfl, vd, sd, fd⟩
      have Sd : Hid (TSt B bl T (c + (l.map kF).sum) wd vd ((ts1) ++ [rbT])) := sd
      have Fd : Hid (TFr T bl w wd v vd) := Fmd.out.trans fd
      clear sd fd HPd Smd Fmd SF hF1
      go_wp2
      go_end0
      exact ⟨rfl, vd, by rw [← HEq.out]; exact Sd.out, Fd.out⟩

end Go.Proofs.YtppnhaacmhfenaaGreatDoor

namespace Go.Proofs.YtppnhaacmhfenaaGreatDoor
open Go.RowKit Go.Shelf Go.Maps
set_option linter.unusedVariables false

/-- Function f tells a node so, with a sign. -/
def SignOK (B bl T f : Nat) (n : Nd) (sg : ByteArray) (out : List TkT) (k : Nat) : Prop := ∀ (ts : List TkT) (v : Value) (c : Nat) (w : World) (o : Option Addr) (cap : Nat), NdIn w B n o cap → TSt B bl T c w v ts → c + k ≤ 4611686018427387904 → ts.length + out.length ≤ 1000000000 →
  Calls Tryz.prog f #[.pointer (some ⟨T, 0, none⟩), .agg #[.int .i64 n.kind, .string (bs n.name), .int .i64 n.num, .slice o n.kids.length cap, .int .i64 n.pos], .string sg] w fun e W' => e = .returned (.tuple #[]) ∧ ∃ v', TSt B bl T (c + k) W' v' (ts ++ out) ∧ TFr T bl w W' v v'
def sgT (s : ByteArray) : TkT := ⟨10, s.data.toList, 0⟩
def whT : TkT := ⟨9, [119, 104, 101, 114, 101], 0⟩
def barT : TkT := ⟨10, [124], 0⟩
set_option maxRecDepth 100000 in
set_option maxHeartbeats 4000000 in
theorem right_ok {B bl T : Nat} {n : Nd} (sg : ByteArray) (outF : Nd → List TkT) (kF : Nd → Nat) (h : ∀ x ∈ n.kids, (x.kind = 9 → SignOK B bl T 147 x sg (outF x) (kF x)) ∧ (x.kind = 10 → ∃ o, outF x = whT :: o ∧ TellOK B bl T 46 x o (kF x)) ∧ (x.kind ≠ 9 → x.kind ≠ 10 → ∃ o, outF x = sgT sg :: o ∧ TellOK B bl T 46 x o (kF x))) : SignOK B bl T 146 n sg (n.kids.flatMap outF) ((n.kids.map kF).sum) := by
  intro ts v c w o cap hn hS hc hl
  obtain ⟨V, hV, hnV, hSV, hfV, hBx, hx1, hx2, hx3, hx4⟩ := boxed hn hS
  have c0 : V.cell? ⟨w.heap.size, 0, none⟩ = some (.int .i64 n.kind) := hBx.cell 0 _ rfl
  have c1 : V.cell? ⟨w.heap.size, 1, none⟩ = some (.string (bs n.name)) := hBx.cell 1 _ rfl
  have c2 : V.cell? ⟨w.heap.size, 2, none⟩ = some (.int .i64 n.num) := hBx.cell 2 _ rfl
  have c3 : V.cell? ⟨w.heap.size, 3, none⟩ = some (.slice o n.kids.length cap) := hBx.cell 3 _ rfl
  have c4 : V.cell? ⟨w.heap.size, 4, none⟩ = some (.int .i64 n.pos) := hBx.cell 4 _ rfl
  have hlV := hBx.lt
  have HF : Hid (TFr T bl w V v v) := hfV
  obtain ⟨l, hl0⟩ : ∃ l, n.kids = l := ⟨_, rfl⟩
  rw [hl0] at h hc hl ⊢
  rw [hl0] at c3
  obtain ⟨L, hL⟩ : ∃ L, l.length = L := ⟨_, rfl⟩
  have hK : KIn V B o l := by have := hnV.1; rw [hl0] at this; exact this
  have hc1 : l.length ≤ cap := by have := hnV.2.1; rw [hl0] at this; exact this
  have hc2 := hnV.2.2.1
  have HL : Hid (l.length = L) := hL
  have HH : Hid (∀ x ∈ l, (x.kind = 9 → SignOK B bl T 147 x sg (outF x) (kF x)) ∧ (x.kind = 10 → ∃ o, outF x = whT :: o ∧ TellOK B bl T 46 x o (kF x)) ∧ (x.kind ≠ 9 → x.kind ≠ 10 → ∃ o, outF x = sgT sg :: o ∧ TellOK B bl T 46 x o (kF x))) := h
  have HK : Hid (KIn V B o l) := hK
  have HS : Hid (TSt B bl T c V v ts) := hSV
  have HC : Hid (c + (l.map kF).sum ≤ 4611686018427387904) := hc
  have Hl : Hid (ts.length + (l.flatMap outF).length ≤ 1000000000) := hl
  have hLi : (L : Int) ≤ 9223372036854775807 := by omega
  rw [hl0] at hV
  rw [hL] at c3 hV ⊢
  have HMword : Hid (∀ (s : ByteArray) (X : World), Calls Tryz.prog 138 #[.string s] X fun e w' => e = .returned (.agg #[.int .i64 9, .string s, .int .i64 0, .int .i64 0, .int .i64 0, .int .i64 0, .bool false]) ∧ Below X.heap.size X w') := word_c
  have HMsign : Hid (∀ (s : ByteArray) (X : World), Calls Tryz.prog 140 #[.string s] X fun e w' => e = .returned (.agg #[.int .i64 10, .string s, .int .i64 0, .int .i64 0, .int .i64 0, .int .i64 0, .bool false]) ∧ Below X.heap.size X w') := sign_c
  clear h hK hS hc hl hc1 hc2 hL hn hnV hSV hfV hBx hl0
  go_enter Tryz.func146, Tryz.ntmps146
  go_wp2
  go_loopw [11] (fun i wr => ∃ (k : Nat) (v1 : Value), k ≤ L ∧ i = .int .i64 k ∧ Hid (TSt B bl T (c + ((l.take k).map kF).sum) wr v1 (ts ++ (l.take k).flatMap outF)) ∧ Hid (TFr T bl V wr v v1)) (fun i _ => L - (intOf i).toNat)
  case atStart => exact ⟨0, v, Nat.zero_le _, rfl, by show TSt _ _ _ _ _ _ _; simpa using HS.out, TFr.refl _ _ _ _⟩
  case round =>
    obtain ⟨k, v1, hk, rfl, hS1, hF1⟩ := hrel
    by_cases hlt : k < L
    · have hkL : k < l.length := by rw [HL.out]; exact hlt
      have hki : (k : Int) < (L : Int) := by omega
      have hBw : Below B V wr := hF1.out.below HS.out
      obtain ⟨g, off, rfl, hg, hKA⟩ := (HK.out.below hBw).at k hkL
      obtain ⟨o2, cap2, k0, k1, k2, k3, k4, hNk⟩ := kid_in (hKA.get l g off k hkL)
      have hgr : g < wr.heap.size := by have := hS1.out.lt; have := hS1.out.1; omega
      have hA : ∀ ob : Obj, Below wr.heap.size wr (wr.alloc ob) := fun ob => (Below.refl _ _).alloc (Nat.le_refl _) _
      have hst := sum_take kF l k hkL
      have hsl := sum_take_le kF l (k + 1)
      have hft := flat_take outF l k hkL
      have hfl := flat_take_le outF l (k + 1)
      have hcs : c + ((l.take k).map kF).sum + kF l[k] ≤ 4611686018427387904 := by have := HC.out; omega
      have hlen : (ts ++ (l.take k).flatMap outF).length + (outF l[k]).length ≤ 1000000000 := by
        have h3 := Hl.out
        rw [hft] at hfl
        simp only [List.length_append] at hfl ⊢
        omega
      have hE1 : c + ((l.take (k + 1)).map kF).sum = c + ((l.take k).map kF).sum + kF l[k] := by omega
      have hE2 : ts ++ (l.take (k + 1)).flatMap outF = (ts ++ (l.take k).flatMap outF) ++ outF l[k] := by rw [hft, List.append_assoc]
      have hh := HH.out l[k] (List.getElem_mem hkL)
      have HNx : Hid (∀ (cc : Nat) (tt : List TkT) (W' : World) (v' : Value), cc = c + ((l.take k).map kF).sum + kF l[k] → tt = (ts ++ (l.take k).flatMap outF) ++ outF l[k] → TSt B bl T cc W' v' tt → TFr T bl V W' v v' → ∃ (k' : Nat) (v2 : Value), k' = k + 1 ∧ k' ≤ L ∧ v2 = v' ∧ Hid (TSt B bl T (c + ((l.take (k + 1)).map kF).sum) W' v2 (ts ++ (l.take (k + 1)).flatMap outF)) ∧ Hid (TFr T bl V W' v v2)) := by
        intro cc tt W' v' e1 e2 s f
        refine ⟨k + 1, v', rfl, by omega, rfl, ?_, f⟩
        show TSt _ _ _ _ _ _ _
        rw [hE1, hE2, ← e1, ← e2]; exact s
      have HNk : Hid (NdIn wr B l[k] o2 cap2) := hNk
      have HBs : Hid (∀ X, TSt B bl T (c + ((l.take k).map kF).sum) X v1 (ts ++ (l.take k).flatMap outF) → B ≤ X.heap.size) := fun X h => by have := h.lt; have := h.1; omega
      generalize l[k] = nd at k0 k1 k2 k3 k4 hh hcs hlen HNx HNk
      generalize c + ((l.take k).map kF).sum = cs at hS1 hcs HNx HBs
      generalize ts ++ (l.take k).flatMap outF = tss at hS1 hlen HNx HBs
      have hA2 : Hid (∀ ob : Obj, Below wr.heap.size wr (wr.alloc ob)) := hA
      have Hcs : Hid (cs + kF nd ≤ 4611686018427387904) := hcs
      have Hln : Hid (tss.length + (outF nd).length ≤ 1000000000) := hlen
      clear hBw hKA hNk hA hst hsl hft hfl hkL hE1 hE2 hcs hlen
      by_cases h9 : nd.kind = 9
      · have hh1 : Hid (SignOK B bl T 147 nd sg (outF nd) (kF nd)) := hh.1 h9
        have HCk : Hid (∀ ob : Obj, Calls Tryz.prog 147 #[.pointer (some ⟨T, 0, none⟩), .agg #[.int .i64 nd.kind, .string (bs nd.name), .int .i64 nd.num, .slice o2 nd.kids.length cap2, .int .i64 nd.pos], .string sg] (wr.alloc ob) fun e W' => e = .returned (.tuple #[]) ∧ ∃ v', TSt B bl T (cs + kF nd) W' v' (tss ++ outF nd) ∧ TFr T bl (wr.alloc ob) W' v1 v') := fun ob => hh1.out tss v1 cs (wr.alloc ob) o2 cap2 (HNk.out.below ((hA2.out ob).mono (HBs.out _ hS1.out))) (hS1.out.below (hA2.out ob)) Hcs.out Hln.out
        rw [h9] at k0 HCk
        clear hh hh1
        go_wp2_with (go_at_call 147; fail)
        refine (HCk.out _).mono ?_
        rintro e w2 ⟨rfl, v2, s2, f2⟩
        obtain ⟨k', v3, rfl, hk', rfl, S3, F3⟩ := HNx.out _ _ w2 v2 rfl rfl s2 ((hF1.out.trans (tfr_below (hA2.out _) v1)).trans f2)
        clear s2 f2 HCk k0 k1 k2 k3 k4 HNx
        go_wp2
        go_roundw
        case rel => exact ⟨k + 1, v3, by omega, by go_num, S3, F3⟩
        case measure => simp [intOf]; omega
      by_cases h10 : nd.kind = 10
      · obtain ⟨oo, hoo, hh1⟩ := hh.2.1 h10
        have HH1 : Hid (TellOK B bl T 46 nd oo (kF nd)) := hh1
        have Hoo : Hid (outF nd = whT :: oo) := hoo
        have Hln2 : Hid (tss.length + 1 + oo.length ≤ 1000000000) := by have := Hln.out; rw [hoo] at this; show _ ≤ _; simp only [List.length_cons] at this; omega
        have Hgr : Hid (g < wr.heap.size) := hgr
        have HBlk : Hid (Blk (wr.alloc (.cells #[.int .i64 10, .string (bs nd.name), .int .i64 nd.num, .slice o2 nd.kids.length cap2, .int .i64 nd.pos] 25)) wr.heap.size #[.int .i64 10, .string (bs nd.name), .int .i64 nd.num, .slice o2 nd.kids.length cap2, .int .i64 nd.pos] 25) := Blk.new _ _ _
        have Hxx : Hid (T < wr.heap.size ∧ bl < wr.heap.size ∧ v1.ownBlock ≠ some wr.heap.size) := ⟨hS1.out.lt, by have := hS1.out.lt; have := hS1.out.1; omega, fun e => by have := (hS1.out.row_lt _ e).2; omega⟩
        have h9b : (nd.kind == 9) = false := beq_eq_false_iff_ne.2 h9
        have H10 : Hid (nd.kind = 10) := h10
        rw [h10] at k0
        clear h10 h9 h9b
        clear hh hh1 hoo Hln
        go_wp2_with (go_at_call 138; fail)
        refine (HMword.out _ _).mono ?_
        rintro e wm ⟨rfl, hbm⟩
        have hsz : wr.heap.size + 1 ≤ (wr.alloc (.cells #[.int .i64 10, .string (bs nd.name), .int .i64 nd.num, .slice o2 nd.kids.length cap2, .int .i64 nd.pos] 25)).heap.size := by simp
        have Sm : Hid (TSt B bl T cs wm v1 tss) := (hS1.out.below (hA2.out _)).below hbm
        have Fm : Hid (TFr T bl V wm v v1) := (hF1.out.trans (tfr_below (hA2.out _) v1)).trans (tfr_below hbm v1)
        have Bm : Hid (Blk wm wr.heap.size #[.int .i64 10, .string (bs nd.name), .int .i64 nd.num, .slice o2 nd.kids.length cap2, .int .i64 nd.pos] 25) := HBlk.out.below hbm
        have HP : Hid (Calls Tryz.prog 137 #[.pointer (some ⟨T, 0, none⟩), .slice (some ⟨wm.heap.size, 0, none⟩) 1 1] (wm.alloc (.cells #[.int .i64 9, .string ⟨#[119, 104, 101, 114, 101]⟩, .int .i64 0, .int .i64 0, .int .i64 0, .int .i64 0, .bool false] 43)) fun e W' => e = .returned (.tuple #[]) ∧ ∃ v'', TSt B bl T cs W' v'' (tss ++ [whT]) ∧ TFr T bl wm W' v1 v'') := put1_c B bl T cs _ v1 9 ⟨#[119, 104, 101, 114, 101]⟩ 0 wm Sm.out (by have := Hln2.out; omega)
        have Nm : Hid (NdIn wm B nd o2 cap2) := (HNk.out.below ((hA2.out _).mono (HBs.out _ hS1.out))).below (hbm.mono (by have := HBs.out _ hS1.out; simp; omega))
        clear hbm HBlk hsz
        go_wp2_with (go_at_call 137; fail)
        refine HP.out.mono ?_
        rintro e wp ⟨rfl, vp, sp, fp⟩
        have Bp : Hid (Blk wp wr.heap.size #[.int .i64 10, .string (bs nd.name), .int .i64 nd.num, .slice o2 nd.kids.length cap2, .int .i64 nd.pos] 25) := Bm.out.tfr fp (by have := Hxx.out.1; omega) (by have := Hxx.out.2.1; omega) Hxx.out.2.2
        have Fp : Hid (TFr T bl V wp v vp) := Fm.out.trans fp
        have Np : Hid (NdIn wp B nd o2 cap2) := Nm.out.below (fp.below Sm.out)
        have HCk : Hid (Calls Tryz.prog 46 #[.pointer (some ⟨T, 0, none⟩), .agg #[.int .i64 10, .string (bs nd.name), .int .i64 nd.num, .slice o2 nd.kids.length cap2, .int .i64 nd.pos]] wp fun e W' => e = .returned (.tuple #[]) ∧ ∃ v', TSt B bl T (cs + kF nd) W' v' ((tss ++ [whT]) ++ oo) ∧ TFr T bl wp W' vp v') := by rw [← H10.out]; exact HH1.out _ vp cs wp o2 cap2 Np.out sp Hcs.out (by have := Hln2.out; simp only [List.length_append, List.length_cons, List.length_nil]; omega)
        have d0 : wp.cell? ⟨wr.heap.size, 0, none⟩ = some (.int .i64 10) := Bp.out.cell 0 _ rfl
        have d1 : wp.cell? ⟨wr.heap.size, 1, none⟩ = some (.string (bs nd.name)) := Bp.out.cell 1 _ rfl
        have d2 : wp.cell? ⟨wr.heap.size, 2, none⟩ = some (.int .i64 nd.num) := Bp.out.cell 2 _ rfl
        have d3 : wp.cell? ⟨wr.heap.size, 3, none⟩ = some (.slice o2 nd.kids.length cap2) := Bp.out.cell 3 _ rfl
        have d4 : wp.cell? ⟨wr.heap.size, 4, none⟩ = some (.int .i64 nd.pos) := Bp.out.cell 4 _ rfl
        have hlp := Bp.out.lt
        clear sp fp HP Bm Nm Sm Fm k0 k1 k2 k3 k4
        go_wp2_with (go_at_call 46; fail)
        refine HCk.out.mono ?_
        rintro e w2 ⟨rfl, v2, s2, f2⟩
        obtain ⟨k', v3, rfl, hk', rfl, S3, F3⟩ := HNx.out _ _ w2 v2 rfl (by rw [Hoo.out]; simp) s2 (Fp.out.trans f2)
        clear s2 f2 HCk HNx d0 d1 d2 d3 d4 hlp Bp Np Fp
        go_wp2
        go_roundw
        case rel => exact ⟨k + 1, v3, by omega, by go_num, S3, F3⟩
        case measure => simp [intOf]; omega
      · obtain ⟨oo, hoo, hh1⟩ := hh.2.2 h9 h10
        have HH1 : Hid (TellOK B bl T 46 nd oo (kF nd)) := hh1
        have Hoo : Hid (outF nd = sgT sg :: oo) := hoo
        have Hln2 : Hid (tss.length + 1 + oo.length ≤ 1000000000) := by have := Hln.out; rw [hoo] at this; show _ ≤ _; simp only [List.length_cons] at this; omega
        have Hgr : Hid (g < wr.heap.size) := hgr
        have HBlk : Hid (Blk (wr.alloc (.cells #[.int .i64 nd.kind, .string (bs nd.name), .int .i64 nd.num, .slice o2 nd.kids.length cap2, .int .i64 nd.pos] 25)) wr.heap.size #[.int .i64 nd.kind, .string (bs nd.name), .int .i64 nd.num, .slice o2 nd.kids.length cap2, .int .i64 nd.pos] 25) := Blk.new _ _ _
        have Hxx : Hid (T < wr.heap.size ∧ bl < wr.heap.size ∧ v1.ownBlock ≠ some wr.heap.size) := ⟨hS1.out.lt, by have := hS1.out.lt; have := hS1.out.1; omega, fun e => by have := (hS1.out.row_lt _ e).2; omega⟩
        have h9b : (nd.kind == 9) = false := beq_eq_false_iff_ne.2 h9
        have h10b : (nd.kind == 10) = false := beq_eq_false_iff_ne.2 h10
        clear h9 h10
        clear hh hh1 hoo Hln
        go_wp2_with (go_at_call 140; fail)
        refine (HMsign.out _ _).mono ?_
        rintro e wm ⟨rfl, hbm⟩
        have hsz : wr.heap.size + 1 ≤ (wr.alloc (.cells #[.int .i64 nd.kind, .string (bs nd.name), .int .i64 nd.num, .slice o2 nd.kids.length cap2, .int .i64 nd.pos] 25)).heap.size := by simp
        have Sm : Hid (TSt B bl T cs wm v1 tss) := (hS1.out.below (hA2.out _)).below hbm
        have Fm : Hid (TFr T bl V wm v v1) := (hF1.out.trans (tfr_below (hA2.out _) v1)).trans (tfr_below hbm v1)
        have Bm : Hid (Blk wm wr.heap.size #[.int .i64 nd.kind, .string (bs nd.name), .int .i64 nd.num, .slice o2 nd.kids.length cap2, .int .i64 nd.pos] 25) := HBlk.out.below hbm
        have HP : Hid (Calls Tryz.prog 137 #[.pointer (some ⟨T, 0, none⟩), .slice (some ⟨wm.heap.size, 0, none⟩) 1 1] (wm.alloc (.cells #[.int .i64 10, .string sg, .int .i64 0, .int .i64 0, .int .i64 0, .int .i64 0, .bool false] 43)) fun e W' => e = .returned (.tuple #[]) ∧ ∃ v'', TSt B bl T cs W' v'' (tss ++ [sgT sg]) ∧ TFr T bl wm W' v1 v'') := put1_c B bl T cs _ v1 10 sg 0 wm Sm.out (by have := Hln2.out; omega)
        have Nm : Hid (NdIn wm B nd o2 cap2) := (HNk.out.below ((hA2.out _).mono (HBs.out _ hS1.out))).below (hbm.mono (by have := HBs.out _ hS1.out; simp; omega))
        clear hbm HBlk hsz
        go_wp2_with (go_at_call 137; fail)
        refine HP.out.mono ?_
        rintro e wp ⟨rfl, vp, sp, fp⟩
        have Bp : Hid (Blk wp wr.heap.size #[.int .i64 nd.kind, .string (bs nd.name), .int .i64 nd.num, .slice o2 nd.kids.length cap2, .int .i64 nd.pos] 25) := Bm.out.tfr fp (by have := Hxx.out.1; omega) (by have := Hxx.out.2.1; omega) Hxx.out.2.2
        have Fp : Hid (TFr T bl V wp v vp) := Fm.out.trans fp
        have Np : Hid (NdIn wp B nd o2 cap2) := Nm.out.below (fp.below Sm.out)
        have HCk : Hid (Calls Tryz.prog 46 #[.pointer (some ⟨T, 0, none⟩), .agg #[.int .i64 nd.kind, .string (bs nd.name), .int .i64 nd.num, .slice o2 nd.kids.length cap2, .int .i64 nd.pos]] wp fun e W' => e = .returned (.tuple #[]) ∧ ∃ v', TSt B bl T (cs + kF nd) W' v' ((tss ++ [sgT sg]) ++ oo) ∧ TFr T bl wp W' vp v') := HH1.out _ vp cs wp o2 cap2 Np.out sp Hcs.out (by have := Hln2.out; simp only [List.length_append, List.length_cons, List.length_nil]; omega)
        have d0 : wp.cell? ⟨wr.heap.size, 0, none⟩ = some (.int .i64 nd.kind) := Bp.out.cell 0 _ rfl
        have d1 : wp.cell? ⟨wr.heap.size, 1, none⟩ = some (.string (bs nd.name)) := Bp.out.cell 1 _ rfl
        have d2 : wp.cell? ⟨wr.heap.size, 2, none⟩ = some (.int .i64 nd.num) := Bp.out.cell 2 _ rfl
        have d3 : wp.cell? ⟨wr.heap.size, 3, none⟩ = some (.slice o2 nd.kids.length cap2) := Bp.out.cell 3 _ rfl
        have d4 : wp.cell? ⟨wr.heap.size, 4, none⟩ = some (.int .i64 nd.pos) := Bp.out.cell 4 _ rfl
        have hlp := Bp.out.lt
        clear sp fp HP Bm Nm Sm Fm k0 k1 k2 k3 k4
        go_wp2_with (go_at_call 46; fail)
        refine HCk.out.mono ?_
        rintro e w2 ⟨rfl, v2, s2, f2⟩
        obtain ⟨k', v3, rfl, hk', rfl, S3, F3⟩ := HNx.out _ _ w2 v2 rfl (by rw [Hoo.out]; simp) s2 (Fp.out.trans f2)
        clear s2 f2 HCk HNx d0 d1 d2 d3 d4 hlp Bp Np Fp
        go_wp2
        go_roundw
        case rel => exact ⟨k + 1, v3, by omega, by go_num, S3, F3⟩
        case measure => simp [intOf]; omega
    · obtain rfl : k = L := by omega
      have SF : Hid (TSt B bl T (c + (l.map kF).sum) wr v1 (ts ++ l.flatMap outF)) := by
        have h1 := hS1.out
        rw [List.take_of_length_le (by rw [HL.out]; exact Nat.le_refl _)] at h1
        exact h1
      have FF : Hid (TFr T bl w wr v v1) := HF.out.trans hF1.out
      go_wp2
      go_end0
      exact ⟨rfl, v1, SF.out, FF.out⟩

end Go.Proofs.YtppnhaacmhfenaaGreatDoor

namespace Go.Proofs.YtppnhaacmhfenaaGreatDoor
open Go.RowKit Go.Shelf Go.Maps
set_option linter.unusedVariables false
set_option linter.unusedSimpArgs false

/-- Function f tells a text so. -/
def StrOK (B bl T f : Nat) (s : ByteArray) (out : List TkT) (k : Nat) : Prop := ∀ (ts : List TkT) (v : Value) (c : Nat) (w : World), TSt B bl T c w v ts → c + k ≤ 4611686018427387904 → ts.length + out.length ≤ 1000000000 →
  Calls Tryz.prog f #[.pointer (some ⟨T, 0, none⟩), .string s] w fun e W' => e = .returned (.tuple #[]) ∧ ∃ v', TSt B bl T (c + k) W' v' (ts ++ out) ∧ TFr T bl w W' v v'
theorem nameOK {B bl T : Nat} {s : ByteArray} (hs : s.size ≤ 9223372036854775807) (hsym : isSymB (lkM s) = false) : StrOK B bl T 139 s (nmT s) 1 := fun ts v c w h hc hl => name_t B bl T c ts v s hs hsym (by omega) w h hl
theorem operatorOK {B bl T : Nat} {s : ByteArray} (hs : s.size ≤ 9223372036854775807) (hsym : isSymB (lkM s) = true) : StrOK B bl T 144 s (nmT s) 1 := fun ts v c w h hc hl => operator_t B bl T c ts v s hs hsym (by omega) w h hl
set_option maxRecDepth 100000 in
set_option maxHeartbeats 4000000 in
theorem declEqn {B bl T : Nat} {n : Nd} (hk : n.kind = 6) {ini : List Nd} {z : Nd} (hkids : n.kids = ini ++ [z]) {o0 : List TkT} {u0 : Nat} (h0 : StrOK B bl T 139 (bs n.name) o0 u0) {o1 : List TkT} {u1 : Nat} (h1 : ListOK B bl T 145 ini o1 u1) {o2 : List TkT} {u2 : Nat} (h2 : SignOK B bl T 146 z ⟨#[61]⟩ o2 u2) : TellOK B bl T 84 n (o0 ++ o1 ++ o2) (u0 + u1 + u2) := by
  intro ts v c w o cap hn hS hc hl
  obtain ⟨V, hV, hnV, hSV, hfV, hBx, hx1, hx2, hx3, hx4⟩ := boxed hn hS
  have c0 : V.cell? ⟨w.heap.size, 0, none⟩ = some (.int .i64 n.kind) := hBx.cell 0 _ rfl
  have c1 : V.cell? ⟨w.heap.size, 1, none⟩ = some (.string (bs n.name)) := hBx.cell 1 _ rfl
  have c2 : V.cell? ⟨w.heap.size, 2, none⟩ = some (.int .i64 n.num) := hBx.cell 2 _ rfl
  have c3 : V.cell? ⟨w.heap.size, 3, none⟩ = some (.slice o n.kids.length cap) := hBx.cell 3 _ rfl
  have c4 : V.cell? ⟨w.heap.size, 4, none⟩ = some (.int .i64 n.pos) := hBx.cell 4 _ rfl
  have hlV := hBx.lt
  have HF : Hid (TFr T bl w V v v) := hfV
  have HC : Hid (c + (u0 + u1 + u2) ≤ 4611686018427387904) := hc
  have Hl : Hid (ts.length + (o0.length + o1.length + o2.length) ≤ 1000000000) := by (try simp only [List.length_append, List.length_cons, List.length_nil] at hl); show _ ≤ _; omega
  have hcap1 := hnV.2.1
  have hcap2 := hnV.2.2.1
  obtain ⟨g, off, rfl, hg, hKA⟩ := hnV.1.at 0 (by rw [hkids]; simp)
  have hgV : g < V.heap.size := by have := hSV.lt; have := hSV.1; omega
  have Hg : Hid (g < B) := hg
  have HgV : Hid (g < V.heap.size) := hgV
  obtain ⟨m, hm⟩ : ∃ m, ini.length = m := ⟨_, rfl⟩
  have hLn : n.kids.length = m + 1 := by rw [hkids, List.length_append, hm]; rfl
  have HNz : Hid (NdAt V B z g (off + m * 5)) := by
    have := hKA.get _ g off m (by rw [hLn]; omega)
    have e : n.kids[m]'(by rw [hLn]; omega) = z := by simp only [hkids]; rw [List.getElem_append_right (by omega)]; simp [hm]
    rw [e] at this; exact this
  have HKi : Hid (KidsAt V B ini g off) := by
    have := hKA.take m
    have e : n.kids.take m = ini := by rw [hkids, ← hm]; simp
    rw [e] at this; exact this
  have Hm : Hid (ini.length = m) := hm
  have hmi : (m : Int) + 1 ≤ 9223372036854775807 := by rw [hLn] at hcap1; omega
  have Hcap : Hid (m + 1 ≤ cap ∧ cap ≤ 9223372036854775807) := ⟨by rw [← hLn]; exact hcap1, hcap2⟩
  have hmc : (m : Int) ≤ (cap : Int) := by have := Hcap.out.1; omega
  have hmL : (m : Int) < ((m + 1 : Nat) : Int) := by omega
  have hm0 : ¬ (m : Int) < 0 := by omega
  rw [hLn] at c3 hV hBx ⊢
  clear hm hLn hcap1 hcap2
  clear hkids hKA hg
  have S0 : Hid (TSt B bl T (c + 0) V v ts) := hSV
  have HSV : Hid (TSt B bl T c V v ts) := hSV
  have F0 : Hid (TFr T bl V V v v) := TFr.refl _ _ _ _
  have HBx : Hid (Blk V w.heap.size #[.int .i64 n.kind, .string (bs n.name), .int .i64 n.num, .slice (some ⟨g, off, none⟩) (m + 1) cap, .int .i64 n.pos] 25) := hBx
  have Hx : Hid (w.heap.size ≠ T ∧ w.heap.size ≠ bl ∧ v.ownBlock ≠ some w.heap.size) := ⟨hx1, hx2, hx3⟩
  have HNV : Hid (NdIn V B n (some ⟨g, off, none⟩) cap) := hnV
  have HH0 : Hid (StrOK B bl T 139 (bs n.name) o0 u0) := h0
  clear h0
  have HH1 : Hid (ListOK B bl T 145 ini o1 u1) := h1
  clear h1
  have HH2 : Hid (SignOK B bl T 146 z ⟨#[61]⟩ o2 u2) := h2
  clear h2
  have Hk : Hid (n.kind = 6) := hk
  rw [hk] at c0 hV ⊢
  clear hn hS hc hl hnV hSV hfV hBx hx1 hx2 hx3 hk
  go_enter Tryz.func84, Tryz.ntmps84
  have HC1 : Hid (Calls Tryz.prog 139 #[.pointer (some ⟨T, 0, none⟩), .string (bs n.name)] V fun e W' => e = .returned (.tuple #[]) ∧ ∃ v', TSt B bl T (c + 0 + u0) W' v' ((ts) ++ o0) ∧ TFr T bl V W' v v') := HH0.out (ts) v (c + 0) V S0.out (by have := HC.out; omega) (by have := Hl.out; omega)
  go_wp2_with (go_at_call 139; fail)
  refine HC1.out.mono ?_
  rintro e w1 ⟨rfl, v1, s1, f1⟩
  have S1 : Hid (TSt B bl T (c + 0 + u0) w1 v1 ((ts) ++ o0)) := s1
  have F1 : Hid (TFr T bl V w1 v v1) := F0.out.trans f1
  clear s1 f1 HC1 S0 F0 
  clear c0 c1 c2 c3 c4 hlV
  have hBB2 : Below B V w1 := F1.out.below HSV.out
  have HC2 : Hid (Calls Tryz.prog 145 #[.pointer (some ⟨T, 0, none⟩), .slice (some ⟨g, off, none⟩) m cap] w1 fun e W' => e = .returned (.tuple #[]) ∧ ∃ v', TSt B bl T (c + 0 + u0 + u1) W' v' (((ts) ++ o0) ++ o1) ∧ TFr T bl w1 W' v1 v') := by
    have hh := HH1.out ((ts) ++ o0) v1 (c + 0 + u0) w1 (some ⟨g, off, none⟩) cap (.inr ⟨g, off, rfl, Hg.out, KidsAt.below hBB2 ini g off Hg.out HKi.out⟩) (by rw [Hm.out]; have := Hcap.out.1; omega) Hcap.out.2 S1.out (by have := HC.out; omega) (by have := Hl.out; simp only [List.length_append, List.length_cons, List.length_nil]; omega)
    rw [Hm.out] at hh; exact hh
  clear hBB2
  go_wp2_with (go_at_call 145; fail)
  refine HC2.out.mono ?_
  rintro e w2 ⟨rfl, v2, s2, f2⟩
  have S2 : Hid (TSt B bl T (c + 0 + u0 + u1) w2 v2 (((ts) ++ o0) ++ o1)) := s2
  have F2 : Hid (TFr T bl V w2 v v2) := F1.out.trans f2
  clear s2 f2 HC2 S1 F1 
  have hBB3 : Below B V w2 := F2.out.below HSV.out
  obtain ⟨o_z, cap_z, k0, k1, k2, k3, k4, hNk⟩ := kid_in (NdAt.below hBB3 z g (off + m * 5) Hg.out HNz.out)
  have HC3 : Hid (Calls Tryz.prog 146 #[.pointer (some ⟨T, 0, none⟩), .agg #[.int .i64 z.kind, .string (bs z.name), .int .i64 z.num, .slice o_z z.kids.length cap_z, .int .i64 z.pos], .string ⟨#[61]⟩] w2 fun e W' => e = .returned (.tuple #[]) ∧ ∃ v', TSt B bl T (c + 0 + u0 + u1 + u2) W' v' ((((ts) ++ o0) ++ o1) ++ o2) ∧ TFr T bl w2 W' v2 v') := HH2.out (((ts) ++ o0) ++ o1) v2 (c + 0 + u0 + u1) w2 o_z cap_z hNk S2.out (by have := HC.out; omega) (by have := Hl.out; simp only [List.length_append, List.length_cons, List.length_nil]; omega)
  have hgr : g < w2.heap.size := Nat.lt_of_lt_of_le HgV.out hBB3.size
  clear hBB3 hNk
  go_wp2_with (go_at_call 146; fail)
  refine HC3.out.mono ?_
  rintro e w3 ⟨rfl, v3, s3, f3⟩
  have S3 : Hid (TSt B bl T (c + 0 + u0 + u1 + u2) w3 v3 ((((ts) ++ o0) ++ o1) ++ o2)) := s3
  have F3 : Hid (TFr T bl V w3 v v3) := F2.out.trans f3
  clear s3 f3 HC3 S2 F2 k0 k1 k2 k3 k4 hgr
  have H3 : TSt B bl T (c + (u0 + u1 + u2)) w3 v3 (ts ++ (o0 ++ o1 ++ o2)) := by
    have h := S3.out
    simp only [Nat.add_zero, Nat.add_assoc, List.append_assoc] at h ⊢
    exact h
  have H3' : Hid (TSt B bl T (c + (u0 + u1 + u2)) w3 v3 (ts ++ (o0 ++ o1 ++ o2))) := H3
  have FE : Hid (TFr T bl w w3 v v3) := HF.out.trans F3.out
  clear H3 S3 F3
  go_wp2
  first
    | (go_end0; exact ⟨rfl, v3, H3'.out, FE.out⟩)
    | exact bodyPost_ret (v := .tuple #[]) (by simp [results, Tryz.results84, go_sem]) rfl ⟨rfl, v3, H3'.out, FE.out⟩
set_option maxRecDepth 100000 in
set_option maxHeartbeats 4000000 in
theorem conLam {B bl T : Nat} {n : Nd} (hk : n.kind = 19) {ini : List Nd} {z : Nd} (hkids : n.kids = ini ++ [z]) {o1 : List TkT} {u1 : Nat} (h1 : ListOK B bl T 145 ini o1 u1) {o3 : List TkT} {u3 : Nat} (h3 : TellOK B bl T 46 z o3 u3) : TellOK B bl T 152 n ([sgT ⟨#[92]⟩] ++ o1 ++ [sgT ⟨#[45, 62]⟩] ++ o3) (u1 + u3) := by
  intro ts v c w o cap hn hS hc hl
  obtain ⟨V, hV, hnV, hSV, hfV, hBx, hx1, hx2, hx3, hx4⟩ := boxed hn hS
  have c0 : V.cell? ⟨w.heap.size, 0, none⟩ = some (.int .i64 n.kind) := hBx.cell 0 _ rfl
  have c1 : V.cell? ⟨w.heap.size, 1, none⟩ = some (.string (bs n.name)) := hBx.cell 1 _ rfl
  have c2 : V.cell? ⟨w.heap.size, 2, none⟩ = some (.int .i64 n.num) := hBx.cell 2 _ rfl
  have c3 : V.cell? ⟨w.heap.size, 3, none⟩ = some (.slice o n.kids.length cap) := hBx.cell 3 _ rfl
  have c4 : V.cell? ⟨w.heap.size, 4, none⟩ = some (.int .i64 n.pos) := hBx.cell 4 _ rfl
  have hlV := hBx.lt
  have HF : Hid (TFr T bl w V v v) := hfV
  have HC : Hid (c + (u1 + u3) ≤ 4611686018427387904) := hc
  have Hl : Hid (ts.length + (1 + o1.length + 1 + o3.length) ≤ 1000000000) := by (try simp only [List.length_append, List.length_cons, List.length_nil] at hl); show _ ≤ _; omega
  have hcap1 := hnV.2.1
  have hcap2 := hnV.2.2.1
  obtain ⟨g, off, rfl, hg, hKA⟩ := hnV.1.at 0 (by rw [hkids]; simp)
  have hgV : g < V.heap.size := by have := hSV.lt; have := hSV.1; omega
  have Hg : Hid (g < B) := hg
  have HgV : Hid (g < V.heap.size) := hgV
  obtain ⟨m, hm⟩ : ∃ m, ini.length = m := ⟨_, rfl⟩
  have hLn : n.kids.length = m + 1 := by rw [hkids, List.length_append, hm]; rfl
  have HNz : Hid (NdAt V B z g (off + m * 5)) := by
    have := hKA.get _ g off m (by rw [hLn]; omega)
    have e : n.kids[m]'(by rw [hLn]; omega) = z := by simp only [hkids]; rw [List.getElem_append_right (by omega)]; simp [hm]
    rw [e] at this; exact this
  have HKi : Hid (KidsAt V B ini g off) := by
    have := hKA.take m
    have e : n.kids.take m = ini := by rw [hkids, ← hm]; simp
    rw [e] at this; exact this
  have Hm : Hid (ini.length = m) := hm
  have hmi : (m : Int) + 1 ≤ 9223372036854775807 := by rw [hLn] at hcap1; omega
  have Hcap : Hid (m + 1 ≤ cap ∧ cap ≤ 9223372036854775807) := ⟨by rw [← hLn]; exact hcap1, hcap2⟩
  have hmc : (m : Int) ≤ (cap : Int) := by have := Hcap.out.1; omega
  have hmL : (m : Int) < ((m + 1 : Nat) : Int) := by omega
  have hm0 : ¬ (m : Int) < 0 := by omega
  rw [hLn] at c3 hV hBx ⊢
  clear hm hLn hcap1 hcap2
  clear hkids hKA hg
  have S0 : Hid (TSt B bl T (c + 0) V v ts) := hSV
  have HSV : Hid (TSt B bl T c V v ts) := hSV
  have F0 : Hid (TFr T bl V V v v) := TFr.refl _ _ _ _
  have HBx : Hid (Blk V w.heap.size #[.int .i64 n.kind, .string (bs n.name), .int .i64 n.num, .slice (some ⟨g, off, none⟩) (m + 1) cap, .int .i64 n.pos] 25) := hBx
  have Hx : Hid (w.heap.size ≠ T ∧ w.heap.size ≠ bl ∧ v.ownBlock ≠ some w.heap.size) := ⟨hx1, hx2, hx3⟩
  have HNV : Hid (NdIn V B n (some ⟨g, off, none⟩) cap) := hnV
  have HH1 : Hid (ListOK B bl T 145 ini o1 u1) := h1
  clear h1
  have HH3 : Hid (TellOK B bl T 46 z o3 u3) := h3
  clear h3
  have HMsign : Hid (∀ (s : ByteArray) (X : World), Calls Tryz.prog 140 #[.string s] X fun e w' => e = .returned (.agg #[.int .i64 10, .string s, .int .i64 0, .int .i64 0, .int .i64 0, .int .i64 0, .bool false]) ∧ Below X.heap.size X w') := sign_c
  have Hk : Hid (n.kind = 19) := hk
  rw [hk] at c0 hV ⊢
  clear hn hS hc hl hnV hSV hfV hBx hx1 hx2 hx3 hk
  go_enter Tryz.func152, Tryz.ntmps152
  go_wp2_with (go_at_call 140; fail)
  refine (HMsign.out _ _).mono ?_
  rintro e wm1 ⟨rfl, hbm1⟩
  have Sm1 : Hid (TSt B bl T (c + 0) wm1 v (ts)) := S0.out.below hbm1
  have Fm1 : Hid (TFr T bl V wm1 v v) := F0.out.trans (tfr_below hbm1 v)
  have HP1 : Hid (Calls Tryz.prog 137 #[.pointer (some ⟨T, 0, none⟩), .slice (some ⟨wm1.heap.size, 0, none⟩) 1 1] (wm1.alloc (.cells #[.int .i64 10, .string ⟨#[92]⟩, .int .i64 0, .int .i64 0, .int .i64 0, .int .i64 0, .bool false] 43)) fun e W' => e = .returned (.tuple #[]) ∧ ∃ v'', TSt B bl T (c + 0) W' v'' ((ts) ++ [sgT ⟨#[92]⟩]) ∧ TFr T bl wm1 W' v v'') := put1_c B bl T (c + 0) _ v 10 ⟨#[92]⟩ 0 wm1 Sm1.out (by have := Hl.out; omega)
  clear hbm1
  go_wp2_with (go_at_call 137; fail)
  refine HP1.out.mono ?_
  rintro e w1 ⟨rfl, v1, s1, f1⟩
  have S1 : Hid (TSt B bl T (c + 0) w1 v1 ((ts) ++ [sgT ⟨#[92]⟩])) := s1
  have F1 : Hid (TFr T bl V w1 v v1) := Fm1.out.trans f1
  clear s1 f1 HP1 Sm1 Fm1 S0 F0
  clear c0 c1 c2 c3 c4 hlV
  have hBB2 : Below B V w1 := F1.out.below HSV.out
  have HC2 : Hid (Calls Tryz.prog 145 #[.pointer (some ⟨T, 0, none⟩), .slice (some ⟨g, off, none⟩) m cap] w1 fun e W' => e = .returned (.tuple #[]) ∧ ∃ v', TSt B bl T (c + 0 + u1) W' v' (((ts) ++ [sgT ⟨#[92]⟩]) ++ o1) ∧ TFr T bl w1 W' v1 v') := by
    have hh := HH1.out ((ts) ++ [sgT ⟨#[92]⟩]) v1 (c + 0) w1 (some ⟨g, off, none⟩) cap (.inr ⟨g, off, rfl, Hg.out, KidsAt.below hBB2 ini g off Hg.out HKi.out⟩) (by rw [Hm.out]; have := Hcap.out.1; omega) Hcap.out.2 S1.out (by have := HC.out; omega) (by have := Hl.out; simp only [List.length_append, List.length_cons, List.length_nil]; omega)
    rw [Hm.out] at hh; exact hh
  clear hBB2
  go_wp2_with (go_at_call 145; fail)
  refine HC2.out.mono ?_
  rintro e w2 ⟨rfl, v2, s2, f2⟩
  have S2 : Hid (TSt B bl T (c + 0 + u1) w2 v2 (((ts) ++ [sgT ⟨#[92]⟩]) ++ o1)) := s2
  have F2 : Hid (TFr T bl V w2 v v2) := F1.out.trans f2
  clear s2 f2 HC2 S1 F1 
  go_wp2_with (go_at_call 140; fail)
  refine (HMsign.out _ _).mono ?_
  rintro e wm3 ⟨rfl, hbm3⟩
  have Sm3 : Hid (TSt B bl T (c + 0 + u1) wm3 v2 (((ts) ++ [sgT ⟨#[92]⟩]) ++ o1)) := S2.out.below hbm3
  have Fm3 : Hid (TFr T bl V wm3 v v2) := F2.out.trans (tfr_below hbm3 v2)
  have HP3 : Hid (Calls Tryz.prog 137 #[.pointer (some ⟨T, 0, none⟩), .slice (some ⟨wm3.heap.size, 0, none⟩) 1 1] (wm3.alloc (.cells #[.int .i64 10, .string ⟨#[45, 62]⟩, .int .i64 0, .int .i64 0, .int .i64 0, .int .i64 0, .bool false] 43)) fun e W' => e = .returned (.tuple #[]) ∧ ∃ v'', TSt B bl T (c + 0 + u1) W' v'' ((((ts) ++ [sgT ⟨#[92]⟩]) ++ o1) ++ [sgT ⟨#[45, 62]⟩]) ∧ TFr T bl wm3 W' v2 v'') := put1_c B bl T (c + 0 + u1) _ v2 10 ⟨#[45, 62]⟩ 0 wm3 Sm3.out (by have := Hl.out; simp only [List.length_append, List.length_cons, List.length_nil]; omega)
  clear hbm3
  go_wp2_with (go_at_call 137; fail)
  refine HP3.out.mono ?_
  rintro e w3 ⟨rfl, v3, s3, f3⟩
  have S3 : Hid (TSt B bl T (c + 0 + u1) w3 v3 ((((ts) ++ [sgT ⟨#[92]⟩]) ++ o1) ++ [sgT ⟨#[45, 62]⟩])) := s3
  have F3 : Hid (TFr T bl V w3 v v3) := Fm3.out.trans f3
  clear s3 f3 HP3 Sm3 Fm3 S2 F2
  have hBB4 : Below B V w3 := F3.out.below HSV.out
  obtain ⟨o_z, cap_z, k0, k1, k2, k3, k4, hNk⟩ := kid_in (NdAt.below hBB4 z g (off + m * 5) Hg.out HNz.out)
  have HC4 : Hid (Calls Tryz.prog 46 #[.pointer (some ⟨T, 0, none⟩), .agg #[.int .i64 z.kind, .string (bs z.name), .int .i64 z.num, .slice o_z z.kids.length cap_z, .int .i64 z.pos]] w3 fun e W' => e = .returned (.tuple #[]) ∧ ∃ v', TSt B bl T (c + 0 + u1 + u3) W' v' (((((ts) ++ [sgT ⟨#[92]⟩]) ++ o1) ++ [sgT ⟨#[45, 62]⟩]) ++ o3) ∧ TFr T bl w3 W' v3 v') := HH3.out ((((ts) ++ [sgT ⟨#[92]⟩]) ++ o1) ++ [sgT ⟨#[45, 62]⟩]) v3 (c + 0 + u1) w3 o_z cap_z hNk S3.out (by have := HC.out; omega) (by have := Hl.out; simp only [List.length_append, List.length_cons, List.length_nil]; omega)
  have hgr : g < w3.heap.size := Nat.lt_of_lt_of_le HgV.out hBB4.size
  clear hBB4 hNk
  go_wp2_with (go_at_call 46; fail)
  refine HC4.out.mono ?_
  rintro e w4 ⟨rfl, v4, s4, f4⟩
  have S4 : Hid (TSt B bl T (c + 0 + u1 + u3) w4 v4 (((((ts) ++ [sgT ⟨#[92]⟩]) ++ o1) ++ [sgT ⟨#[45, 62]⟩]) ++ o3)) := s4
  have F4 : Hid (TFr T bl V w4 v v4) := F3.out.trans f4
  clear s4 f4 HC4 S3 F3 k0 k1 k2 k3 k4 hgr
  have H3 : TSt B bl T (c + (u1 + u3)) w4 v4 (ts ++ ([sgT ⟨#[92]⟩] ++ o1 ++ [sgT ⟨#[45, 62]⟩] ++ o3)) := by
    have h := S4.out
    simp only [Nat.add_zero, Nat.add_assoc, List.append_assoc] at h ⊢
    exact h
  have H3' : Hid (TSt B bl T (c + (u1 + u3)) w4 v4 (ts ++ ([sgT ⟨#[92]⟩] ++ o1 ++ [sgT ⟨#[45, 62]⟩] ++ o3))) := H3
  have FE : Hid (TFr T bl w w4 v v4) := HF.out.trans F4.out
  clear H3 S4 F4
  go_wp2
  first
    | (go_end0; exact ⟨rfl, v4, H3'.out, FE.out⟩)
    | exact bodyPost_ret (v := .tuple #[]) (by simp [results, Tryz.results152, go_sem]) rfl ⟨rfl, v4, H3'.out, FE.out⟩
set_option maxRecDepth 100000 in
set_option maxHeartbeats 4000000 in
theorem exprLam {B bl T : Nat} {n : Nd} (hk : n.kind = 19) {o0 : List TkT} {u0 : Nat} (h0 : TellOK B bl T 152 n o0 u0) : TellOK B bl T 85 n (o0) (u0) := by
  intro ts v c w o cap hn hS hc hl
  obtain ⟨V, hV, hnV, hSV, hfV, hBx, hx1, hx2, hx3, hx4⟩ := boxed hn hS
  have c0 : V.cell? ⟨w.heap.size, 0, none⟩ = some (.int .i64 n.kind) := hBx.cell 0 _ rfl
  have c1 : V.cell? ⟨w.heap.size, 1, none⟩ = some (.string (bs n.name)) := hBx.cell 1 _ rfl
  have c2 : V.cell? ⟨w.heap.size, 2, none⟩ = some (.int .i64 n.num) := hBx.cell 2 _ rfl
  have c3 : V.cell? ⟨w.heap.size, 3, none⟩ = some (.slice o n.kids.length cap) := hBx.cell 3 _ rfl
  have c4 : V.cell? ⟨w.heap.size, 4, none⟩ = some (.int .i64 n.pos) := hBx.cell 4 _ rfl
  have hlV := hBx.lt
  have HF : Hid (TFr T bl w V v v) := hfV
  have HC : Hid (c + (u0) ≤ 4611686018427387904) := hc
  have Hl : Hid (ts.length + (o0.length) ≤ 1000000000) := by (try simp only [List.length_append, List.length_cons, List.length_nil] at hl); show _ ≤ _; omega
  have S0 : Hid (TSt B bl T (c + 0) V v ts) := hSV
  have HSV : Hid (TSt B bl T c V v ts) := hSV
  have F0 : Hid (TFr T bl V V v v) := TFr.refl _ _ _ _
  have HBx : Hid (Blk V w.heap.size #[.int .i64 n.kind, .string (bs n.name), .int .i64 n.num, .slice o n.kids.length cap, .int .i64 n.pos] 25) := hBx
  have Hx : Hid (w.heap.size ≠ T ∧ w.heap.size ≠ bl ∧ v.ownBlock ≠ some w.heap.size) := ⟨hx1, hx2, hx3⟩
  have HNV : Hid (NdIn V B n o cap) := hnV
  have HH0 : Hid (TellOK B bl T 152 n o0 u0) := h0
  clear h0
  have Hk : Hid (n.kind = 19) := hk
  rw [hk] at c0 hV ⊢
  clear hn hS hc hl hnV hSV hfV hBx hx1 hx2 hx3 hk
  go_enter Tryz.func85, Tryz.ntmps85
  have hBB1 : Below B V V := F0.out.below HSV.out
  have HC1 : Hid (Calls Tryz.prog 152 #[.pointer (some ⟨T, 0, none⟩), .agg #[.int .i64 19, .string (bs n.name), .int .i64 n.num, .slice o n.kids.length cap, .int .i64 n.pos]] V fun e W' => e = .returned (.tuple #[]) ∧ ∃ v', TSt B bl T (c + 0 + u0) W' v' ((ts) ++ o0) ∧ TFr T bl V W' v v') := by rw [← Hk.out]; exact HH0.out (ts) v (c + 0) V _ cap (HNV.out.below hBB1) S0.out (by have := HC.out; omega) (by have := Hl.out; omega)
  clear hBB1
  go_wp2_with (go_at_call 152; fail)
  refine HC1.out.mono ?_
  rintro e w1 ⟨rfl, v1, s1, f1⟩
  have S1 : Hid (TSt B bl T (c + 0 + u0) w1 v1 ((ts) ++ o0)) := s1
  have F1 : Hid (TFr T bl V w1 v v1) := F0.out.trans f1
  clear s1 f1 HC1 S0 F0 
  clear c0 c1 c2 c3 c4 hlV
  have H3 : TSt B bl T (c + (u0)) w1 v1 (ts ++ (o0)) := by
    have h := S1.out
    simp only [Nat.add_zero, Nat.add_assoc, List.append_assoc] at h ⊢
    exact h
  have H3' : Hid (TSt B bl T (c + (u0)) w1 v1 (ts ++ (o0))) := H3
  have FE : Hid (TFr T bl w w1 v v1) := HF.out.trans F1.out
  clear H3 S1 F1
  go_wp2
  first
    | (go_end0; exact ⟨rfl, v1, H3'.out, FE.out⟩)
    | exact bodyPost_ret (v := .tuple #[]) (by simp [results, Tryz.results85, go_sem]) rfl ⟨rfl, v1, H3'.out, FE.out⟩

end Go.Proofs.YtppnhaacmhfenaaGreatDoor
