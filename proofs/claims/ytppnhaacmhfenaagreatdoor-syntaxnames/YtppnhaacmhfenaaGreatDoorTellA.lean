/-
  The teller's smallest parts, by contracts.
  Telling a node, by contracts that are put together.
  Telling atoms, by contracts.
  Telling lists of atoms, and applications, by contracts.
-/
import Derived.Test.YtppnhaacmhfenaaGreatDoorTell0
namespace Go.Proofs.YtppnhaacmhfenaaGreatDoor
open Go.RowKit Go.Shelf Go.Maps
set_option linter.unusedVariables false

def isSymB (k : Int) : Bool := k == 3 || k == 4
set_option maxRecDepth 100000 in
set_option maxHeartbeats 4000000 in
theorem isSym_c (k : Int) (w : World) : Calls Tryz.prog 205 #[.int .i64 k] w fun e w' => e = .returned (.bool (isSymB k)) ∧ w' = w := by
  obtain ⟨b1, h1⟩ : ∃ b, (k == 3) = b := ⟨_, rfl⟩
  obtain ⟨b3, h3⟩ : ∃ b, (k == 4) = b := ⟨_, rfl⟩
  have HR : Hid (isSymB k = (b1 || b3)) := by show _ = _; unfold isSymB; rw [h1, h3]
  cases b1 <;> cases b3 <;>
  · go_enter Tryz.func205, Tryz.ntmps205
    go_wp2
    go_ret
    exact ⟨by rw [HR.out]; rfl, rfl⟩
set_option maxRecDepth 100000 in
set_option maxHeartbeats 4000000 in
theorem mark_c (s : ByteArray) (w : World) : Calls Tryz.prog 143 #[.string s] w fun e w' => e = .returned (.agg #[.int .i64 8, .string s, .int .i64 0, .int .i64 0, .int .i64 0, .int .i64 0, .bool false]) ∧ Below w.heap.size w w' := by
  have HB : Hid (∀ o : Obj, Below w.heap.size w (w.alloc o)) := fun o => (Below.refl _ w).alloc (Nat.le_refl _) _
  go_enter Tryz.func143, Tryz.ntmps143
  go_wp2
  exact bodyPost_ret (v := .agg #[.int .i64 8, .string s, .int .i64 0, .int .i64 0, .int .i64 0, .int .i64 0, .bool false]) (by simp [results, Tryz.results143, go_sem]) rfl ⟨rfl, HB.out _⟩
set_option maxRecDepth 100000 in
set_option maxHeartbeats 4000000 in
theorem word_c (s : ByteArray) (w : World) : Calls Tryz.prog 138 #[.string s] w fun e w' => e = .returned (.agg #[.int .i64 9, .string s, .int .i64 0, .int .i64 0, .int .i64 0, .int .i64 0, .bool false]) ∧ Below w.heap.size w w' := by
  have HB : Hid (∀ o : Obj, Below w.heap.size w (w.alloc o)) := fun o => (Below.refl _ w).alloc (Nat.le_refl _) _
  go_enter Tryz.func138, Tryz.ntmps138
  go_wp2
  exact bodyPost_ret (v := .agg #[.int .i64 9, .string s, .int .i64 0, .int .i64 0, .int .i64 0, .int .i64 0, .bool false]) (by simp [results, Tryz.results138, go_sem]) rfl ⟨rfl, HB.out _⟩
set_option maxRecDepth 100000 in
set_option maxHeartbeats 4000000 in
theorem sign_c (s : ByteArray) (w : World) : Calls Tryz.prog 140 #[.string s] w fun e w' => e = .returned (.agg #[.int .i64 10, .string s, .int .i64 0, .int .i64 0, .int .i64 0, .int .i64 0, .bool false]) ∧ Below w.heap.size w w' := by
  have HB : Hid (∀ o : Obj, Below w.heap.size w (w.alloc o)) := fun o => (Below.refl _ w).alloc (Nat.le_refl _) _
  go_enter Tryz.func140, Tryz.ntmps140
  go_wp2
  exact bodyPost_ret (v := .agg #[.int .i64 10, .string s, .int .i64 0, .int .i64 0, .int .i64 0, .int .i64 0, .bool false]) (by simp [results, Tryz.results140, go_sem]) rfl ⟨rfl, HB.out _⟩
set_option maxRecDepth 100000 in
set_option maxHeartbeats 4000000 in
theorem number_t (n : Int) (w : World) : Calls Tryz.prog 142 #[.int .i64 n] w fun e w' => e = .returned (.agg #[.int .i64 5, .string ⟨#[]⟩, .int .i64 n, .int .i64 0, .int .i64 0, .int .i64 0, .bool false]) ∧ Below w.heap.size w w' := by
  have HB : Hid (∀ o : Obj, Below w.heap.size w (w.alloc o)) := fun o => (Below.refl _ w).alloc (Nat.le_refl _) _
  go_enter Tryz.func142, Tryz.ntmps142
  go_wp2
  exact bodyPost_ret (v := .agg #[.int .i64 5, .string ⟨#[]⟩, .int .i64 n, .int .i64 0, .int .i64 0, .int .i64 0, .bool false]) (by simp [results, Tryz.results142, go_sem]) rfl ⟨rfl, HB.out _⟩
/-- One token in a row that was just laid. -/
theorem news1 (W : World) (k : Int) (s : ByteArray) (n : Int) : ∀ j u, ([(⟨k, s.data.toList, n⟩ : TkT)].flatMap tC)[j]? = some u → (W.alloc (.cells #[.int .i64 k, .string s, .int .i64 n, .int .i64 0, .int .i64 0, .int .i64 0, .bool false] 43)).cell? ⟨W.heap.size, j, none⟩ = some u := by
  intro j u hu
  have e : [(⟨k, s.data.toList, n⟩ : TkT)].flatMap tC = [.int .i64 k, .string s, .int .i64 n, .int .i64 0, .int .i64 0, .int .i64 0, .bool false] := rfl
  rw [e] at hu
  exact (Blk.new W #[.int .i64 k, .string s, .int .i64 n, .int .i64 0, .int .i64 0, .int .i64 0, .bool false] 43).cell j u (by simpa using hu)
/-- One token is put. -/
theorem put1_c (B bl T c : Nat) (ts : List TkT) (v : Value) (k : Int) (s : ByteArray) (n : Int) (w : World) (h : TSt B bl T c w v ts) (hb : ts.length + 1 ≤ 1000000000) :
    Calls Tryz.prog 137 #[.pointer (some ⟨T, 0, none⟩), .slice (some ⟨w.heap.size, 0, none⟩) 1 1] (w.alloc (.cells #[.int .i64 k, .string s, .int .i64 n, .int .i64 0, .int .i64 0, .int .i64 0, .bool false] 43)) fun e W' => e = .returned (.tuple #[]) ∧ ∃ v', TSt B bl T c W' v' (ts ++ [⟨k, s.data.toList, n⟩]) ∧ TFr T bl w W' v v' := by
  have hA : Below w.heap.size w (w.alloc (.cells #[.int .i64 k, .string s, .int .i64 n, .int .i64 0, .int .i64 0, .int .i64 0, .bool false] 43)) := (Below.refl _ w).alloc (Nat.le_refl _) _
  refine (put_c B bl T c ts [⟨k, s.data.toList, n⟩] v w.heap.size 1 _ (h.below hA) rfl (news1 w k s n) hb).mono ?_
  rintro e W' ⟨rfl, v', h1, h2⟩
  exact ⟨rfl, v', h1, (tfr_below hA v).trans h2⟩

/-- A name that is no operator. -/
def nmT (s : ByteArray) : List TkT := [⟨lkM s, s.data.toList, 0⟩]
set_option maxRecDepth 100000 in
set_option maxHeartbeats 4000000 in
theorem name_t (B bl T c : Nat) (ts : List TkT) (v : Value) (s : ByteArray) (hs : s.size ≤ 9223372036854775807) (hsym : isSymB (lkM s) = false) (hc : c ≤ 4611686018427387904) (w : World) (h : TSt B bl T c w v ts) (hb : ts.length + 1 ≤ 1000000000) :
    Calls Tryz.prog 139 #[.pointer (some ⟨T, 0, none⟩), .string s] w fun e W' => e = .returned (.tuple #[]) ∧ ∃ v', TSt B bl T (c + 1) W' v' (ts ++ nmT s) ∧ TFr T bl w W' v v' := by
  have HK : Hid (Calls Tryz.prog 201 #[.map (some bl), .string s] w fun e W' => e = .returned (.int .i64 (lkM s)) ∧ But bl w W' ∧ LexSt W' bl (c + 1)) := kind_c s hs bl c hc w h.2.1 h.2.2.1
  have HN : Hid (nmT s = [⟨lkM s, s.data.toList, 0⟩]) := rfl
  have HP : Hid (∀ (X : World) (v : Value), TSt B bl T (c + 1) X v ts → Calls Tryz.prog 137 #[.pointer (some ⟨T, 0, none⟩), .slice (some ⟨X.heap.size, 0, none⟩) 1 1] (X.alloc (.cells #[.int .i64 (lkM s), .string s, .int .i64 0, .int .i64 0, .int .i64 0, .int .i64 0, .bool false] 43)) fun e W' => e = .returned (.tuple #[]) ∧ ∃ v', TSt B bl T (c + 1) W' v' (ts ++ [⟨lkM s, s.data.toList, 0⟩]) ∧ TFr T bl X W' v v') := fun X v hX => put1_c B bl T (c + 1) ts v (lkM s) s 0 X hX hb
  have HS : Hid (TSt B bl T c w v ts) := h
  have c0 : w.cell? ⟨T, 0, none⟩ = some (.map (some bl)) := h.2.2.2.1.cell 0 _ rfl
  have hT := h.lt
  generalize lkM s = kd at HK HP HN hsym
  have HY : Hid (∀ X : World, Calls Tryz.prog 205 #[.int .i64 kd] X fun e w' => e = .returned (.bool false) ∧ w' = X) := fun X => by have := isSym_c kd X; rw [hsym] at this; exact this
  clear h hs hc hb hsym
  go_enter Tryz.func139, Tryz.ntmps139
  go_wp2_with (go_at_call 201; fail)
  refine HK.out.mono ?_
  rintro e w1 ⟨rfl, hb1, hl1⟩
  have H1 : Hid (TSt B bl T (c + 1) w1 v ts) := HS.out.but hb1 hl1
  have F1 : Hid (TFr T bl w w1 v v) := tfr_but hb1 v
  clear hb1 hl1 c0 hT
  obtain ⟨V, hV⟩ : ∃ V, w1.alloc (.cells #[.int .i64 kd, .string s, .int .i64 0, .int .i64 0, .int .i64 0, .int .i64 0, .bool false] 43) = V := ⟨_, rfl⟩
  have hVb : Below w1.heap.size w1 V := by rw [← hV]; exact (Below.refl _ _).alloc (Nat.le_refl _) _
  have hBx : Blk V w1.heap.size #[.int .i64 kd, .string s, .int .i64 0, .int .i64 0, .int .i64 0, .int .i64 0, .bool false] 43 := by rw [← hV]; exact Blk.new w1 _ _
  have H2 : Hid (TSt B bl T (c + 1) V v ts) := H1.out.below hVb
  have F2 : Hid (TFr T bl w V v v) := F1.out.trans (tfr_below hVb v)
  obtain ⟨b0, b1, b2, b3, b4, b5, b6, -⟩ := hBx.all7
  have hlV := hBx.lt
  have HPV : Hid (Calls Tryz.prog 137 #[.pointer (some ⟨T, 0, none⟩), .slice (some ⟨V.heap.size, 0, none⟩) 1 1] (V.alloc (.cells #[.int .i64 kd, .string s, .int .i64 0, .int .i64 0, .int .i64 0, .int .i64 0, .bool false] 43)) fun e W' => e = .returned (.tuple #[]) ∧ ∃ v', TSt B bl T (c + 1) W' v' (ts ++ [⟨kd, s.data.toList, 0⟩]) ∧ TFr T bl V W' v v') := HP.out V v H2.out
  have HVe : Hid (w1.alloc (.cells #[.int .i64 kd, .string s, .int .i64 0, .int .i64 0, .int .i64 0, .int .i64 0, .bool false] 43) = V) := hV
  clear hVb hBx hV
  go_wp2_with (go_at_call 205; fail)
  refine (HY.out _).mono ?_
  rintro e w2 ⟨rfl, rfl⟩
  rw [HVe.out]
  go_wp2_with (go_at_call 137; fail)
  refine HPV.out.mono ?_
  rintro e w3 ⟨rfl, v', h3, f3⟩
  have H3 : Hid (TSt B bl T (c + 1) w3 v' (ts ++ nmT s)) := by show TSt _ _ _ _ _ _ _; rw [HN.out]; exact h3
  have F3 : Hid (TFr T bl w w3 v v') := F2.out.trans f3
  clear h3 f3
  go_wp2
  go_end0
  exact ⟨rfl, v', H3.out, F3.out⟩
set_option maxRecDepth 100000 in
set_option maxHeartbeats 4000000 in
theorem operator_t (B bl T c : Nat) (ts : List TkT) (v : Value) (s : ByteArray) (hs : s.size ≤ 9223372036854775807) (hsym : isSymB (lkM s) = true) (hc : c ≤ 4611686018427387904) (w : World) (h : TSt B bl T c w v ts) (hb : ts.length + 1 ≤ 1000000000) :
    Calls Tryz.prog 144 #[.pointer (some ⟨T, 0, none⟩), .string s] w fun e W' => e = .returned (.tuple #[]) ∧ ∃ v', TSt B bl T (c + 1) W' v' (ts ++ nmT s) ∧ TFr T bl w W' v v' := by
  have HK : Hid (Calls Tryz.prog 201 #[.map (some bl), .string s] w fun e W' => e = .returned (.int .i64 (lkM s)) ∧ But bl w W' ∧ LexSt W' bl (c + 1)) := kind_c s hs bl c hc w h.2.1 h.2.2.1
  have HN : Hid (nmT s = [⟨lkM s, s.data.toList, 0⟩]) := rfl
  have HP : Hid (∀ (X : World) (v : Value), TSt B bl T (c + 1) X v ts → Calls Tryz.prog 137 #[.pointer (some ⟨T, 0, none⟩), .slice (some ⟨X.heap.size, 0, none⟩) 1 1] (X.alloc (.cells #[.int .i64 (lkM s), .string s, .int .i64 0, .int .i64 0, .int .i64 0, .int .i64 0, .bool false] 43)) fun e W' => e = .returned (.tuple #[]) ∧ ∃ v', TSt B bl T (c + 1) W' v' (ts ++ [⟨lkM s, s.data.toList, 0⟩]) ∧ TFr T bl X W' v v') := fun X v hX => put1_c B bl T (c + 1) ts v (lkM s) s 0 X hX hb
  have HS : Hid (TSt B bl T c w v ts) := h
  have c0 : w.cell? ⟨T, 0, none⟩ = some (.map (some bl)) := h.2.2.2.1.cell 0 _ rfl
  have hT := h.lt
  generalize lkM s = kd at HK HP HN hsym
  have HY : Hid (∀ X : World, Calls Tryz.prog 205 #[.int .i64 kd] X fun e w' => e = .returned (.bool true) ∧ w' = X) := fun X => by have := isSym_c kd X; rw [hsym] at this; exact this
  clear h hs hc hb hsym
  go_enter Tryz.func144, Tryz.ntmps144
  go_wp2_with (go_at_call 201; fail)
  refine HK.out.mono ?_
  rintro e w1 ⟨rfl, hb1, hl1⟩
  have H1 : Hid (TSt B bl T (c + 1) w1 v ts) := HS.out.but hb1 hl1
  have F1 : Hid (TFr T bl w w1 v v) := tfr_but hb1 v
  clear hb1 hl1 c0 hT
  obtain ⟨V, hV⟩ : ∃ V, w1.alloc (.cells #[.int .i64 kd, .string s, .int .i64 0, .int .i64 0, .int .i64 0, .int .i64 0, .bool false] 43) = V := ⟨_, rfl⟩
  have hVb : Below w1.heap.size w1 V := by rw [← hV]; exact (Below.refl _ _).alloc (Nat.le_refl _) _
  have hBx : Blk V w1.heap.size #[.int .i64 kd, .string s, .int .i64 0, .int .i64 0, .int .i64 0, .int .i64 0, .bool false] 43 := by rw [← hV]; exact Blk.new w1 _ _
  have H2 : Hid (TSt B bl T (c + 1) V v ts) := H1.out.below hVb
  have F2 : Hid (TFr T bl w V v v) := F1.out.trans (tfr_below hVb v)
  obtain ⟨b0, b1, b2, b3, b4, b5, b6, -⟩ := hBx.all7
  have hlV := hBx.lt
  have HPV : Hid (Calls Tryz.prog 137 #[.pointer (some ⟨T, 0, none⟩), .slice (some ⟨V.heap.size, 0, none⟩) 1 1] (V.alloc (.cells #[.int .i64 kd, .string s, .int .i64 0, .int .i64 0, .int .i64 0, .int .i64 0, .bool false] 43)) fun e W' => e = .returned (.tuple #[]) ∧ ∃ v', TSt B bl T (c + 1) W' v' (ts ++ [⟨kd, s.data.toList, 0⟩]) ∧ TFr T bl V W' v v') := HP.out V v H2.out
  have HVe : Hid (w1.alloc (.cells #[.int .i64 kd, .string s, .int .i64 0, .int .i64 0, .int .i64 0, .int .i64 0, .bool false] 43) = V) := hV
  clear hVb hBx hV
  go_wp2_with (go_at_call 205; fail)
  refine (HY.out _).mono ?_
  rintro e w2 ⟨rfl, rfl⟩
  rw [HVe.out]
  go_wp2_with (go_at_call 137; fail)
  refine HPV.out.mono ?_
  rintro e w3 ⟨rfl, v', h3, f3⟩
  have H3 : Hid (TSt B bl T (c + 1) w3 v' (ts ++ nmT s)) := by show TSt _ _ _ _ _ _ _; rw [HN.out]; exact h3
  have F3 : Hid (TFr T bl w w3 v v') := F2.out.trans f3
  clear h3 f3
  go_wp2
  exact bodyPost_ret (v := .tuple #[]) (by simp [results, Tryz.results144, go_sem]) rfl ⟨rfl, v', H3.out, F3.out⟩

end Go.Proofs.YtppnhaacmhfenaaGreatDoor

namespace Go.Proofs.YtppnhaacmhfenaaGreatDoor
open Go.RowKit Go.Shelf Go.Maps
set_option linter.unusedVariables false

/-- Function f tells a node so. -/
def TellOK (B bl T f : Nat) (n : Nd) (out : List TkT) (k : Nat) : Prop := ∀ (ts : List TkT) (v : Value) (c : Nat) (w : World) (o : Option Addr) (cap : Nat), NdIn w B n o cap → TSt B bl T c w v ts → c + k ≤ 4611686018427387904 → ts.length + out.length ≤ 1000000000 →
  Calls Tryz.prog f #[.pointer (some ⟨T, 0, none⟩), .agg #[.int .i64 n.kind, .string (bs n.name), .int .i64 n.num, .slice o n.kids.length cap, .int .i64 n.pos]] w fun e W' => e = .returned (.tuple #[]) ∧ ∃ v', TSt B bl T (c + k) W' v' (ts ++ out) ∧ TFr T bl w W' v v'
/-- What a walk asks of a node that was just boxed. -/
theorem boxed {B bl T c : Nat} {w : World} {v : Value} {ts : List TkT} {n : Nd} {o : Option Addr} {cap : Nat} (hn : NdIn w B n o cap) (hS : TSt B bl T c w v ts) :
    ∃ V, w.alloc (.cells #[.int .i64 n.kind, .string (bs n.name), .int .i64 n.num, .slice o n.kids.length cap, .int .i64 n.pos] 25) = V ∧ NdIn V B n o cap ∧ TSt B bl T c V v ts ∧ TFr T bl w V v v ∧ Blk V w.heap.size #[.int .i64 n.kind, .string (bs n.name), .int .i64 n.num, .slice o n.kids.length cap, .int .i64 n.pos] 25 ∧ w.heap.size ≠ T ∧ w.heap.size ≠ bl ∧ v.ownBlock ≠ some w.heap.size ∧ T < w.heap.size := by
  have hb : Below w.heap.size w (w.alloc (.cells #[.int .i64 n.kind, .string (bs n.name), .int .i64 n.num, .slice o n.kids.length cap, .int .i64 n.pos] 25)) := (Below.refl _ w).alloc (Nat.le_refl _) _
  have hlt := hS.lt
  have h1 := hS.1
  refine ⟨_, rfl, hn.below (hb.mono (by omega)), hS.below hb, tfr_below hb v, Blk.new w _ _, by omega, by omega, ?_, hlt⟩
  intro e
  have := (hS.row_lt _ e).2
  omega
set_option maxRecDepth 100000 in
set_option maxHeartbeats 4000000 in
theorem node_decl {B bl T : Nat} {n : Nd} {out : List TkT} {k : Nat} (hk : n.kind ≤ 10) (h : TellOK B bl T 84 n out k) : TellOK B bl T 46 n out k := by
  intro ts v c w o cap hn hS hc hl
  obtain ⟨V, hV, hnV, hSV, hfV, hBx, hx1, hx2, hx3, hx4⟩ := boxed hn hS
  have c0 : V.cell? ⟨w.heap.size, 0, none⟩ = some (.int .i64 n.kind) := hBx.cell 0 _ rfl
  have c1 : V.cell? ⟨w.heap.size, 1, none⟩ = some (.string (bs n.name)) := hBx.cell 1 _ rfl
  have c2 : V.cell? ⟨w.heap.size, 2, none⟩ = some (.int .i64 n.num) := hBx.cell 2 _ rfl
  have c3 : V.cell? ⟨w.heap.size, 3, none⟩ = some (.slice o n.kids.length cap) := hBx.cell 3 _ rfl
  have c4 : V.cell? ⟨w.heap.size, 4, none⟩ = some (.int .i64 n.pos) := hBx.cell 4 _ rfl
  have hlV := hBx.lt
  have HF : Hid (TFr T bl w V v v) := hfV
  have HC : Hid (Calls Tryz.prog 84 #[.pointer (some ⟨T, 0, none⟩), .agg #[.int .i64 n.kind, .string (bs n.name), .int .i64 n.num, .slice o n.kids.length cap, .int .i64 n.pos]] V fun e W' => e = .returned (.tuple #[]) ∧ ∃ v', TSt B bl T (c + k) W' v' (ts ++ out) ∧ TFr T bl V W' v v') := h ts v c V o cap hnV hSV hc hl
  clear h hn hS hc hl hnV hSV hfV hBx
  go_enter Tryz.func46, Tryz.ntmps46
  go_wp2_with (go_at_call 84; fail)
  refine HC.out.mono ?_
  rintro e w3 ⟨rfl, v', h3, f3⟩
  have H3 : Hid (TSt B bl T (c + k) w3 v' (ts ++ out)) := h3
  have F3 : Hid (TFr T bl w w3 v v') := HF.out.trans f3
  clear h3 f3
  go_wp2
  first
    | (go_end0; exact ⟨rfl, v', H3.out, F3.out⟩)
    | exact bodyPost_ret (v := .tuple #[]) (by simp [results, Tryz.results46, go_sem]) rfl ⟨rfl, v', H3.out, F3.out⟩
set_option maxRecDepth 100000 in
set_option maxHeartbeats 4000000 in
theorem node_expr {B bl T : Nat} {n : Nd} {out : List TkT} {k : Nat} (hk : 11 ≤ n.kind) (hk2 : n.kind ≤ 33) (h : TellOK B bl T 85 n out k) : TellOK B bl T 46 n out k := by
  intro ts v c w o cap hn hS hc hl
  obtain ⟨V, hV, hnV, hSV, hfV, hBx, hx1, hx2, hx3, hx4⟩ := boxed hn hS
  have c0 : V.cell? ⟨w.heap.size, 0, none⟩ = some (.int .i64 n.kind) := hBx.cell 0 _ rfl
  have c1 : V.cell? ⟨w.heap.size, 1, none⟩ = some (.string (bs n.name)) := hBx.cell 1 _ rfl
  have c2 : V.cell? ⟨w.heap.size, 2, none⟩ = some (.int .i64 n.num) := hBx.cell 2 _ rfl
  have c3 : V.cell? ⟨w.heap.size, 3, none⟩ = some (.slice o n.kids.length cap) := hBx.cell 3 _ rfl
  have c4 : V.cell? ⟨w.heap.size, 4, none⟩ = some (.int .i64 n.pos) := hBx.cell 4 _ rfl
  have hlV := hBx.lt
  have HF : Hid (TFr T bl w V v v) := hfV
  have hk3 : 10 < n.kind := by omega
  have HC : Hid (Calls Tryz.prog 85 #[.pointer (some ⟨T, 0, none⟩), .agg #[.int .i64 n.kind, .string (bs n.name), .int .i64 n.num, .slice o n.kids.length cap, .int .i64 n.pos]] V fun e W' => e = .returned (.tuple #[]) ∧ ∃ v', TSt B bl T (c + k) W' v' (ts ++ out) ∧ TFr T bl V W' v v') := h ts v c V o cap hnV hSV hc hl
  clear h hn hS hc hl hnV hSV hfV hBx
  go_enter Tryz.func46, Tryz.ntmps46
  go_wp2_with (go_at_call 85; fail)
  refine HC.out.mono ?_
  rintro e w3 ⟨rfl, v', h3, f3⟩
  have H3 : Hid (TSt B bl T (c + k) w3 v' (ts ++ out)) := h3
  have F3 : Hid (TFr T bl w w3 v v') := HF.out.trans f3
  clear h3 f3
  go_wp2
  first
    | (go_end0; exact ⟨rfl, v', H3.out, F3.out⟩)
    | exact bodyPost_ret (v := .tuple #[]) (by simp [results, Tryz.results46, go_sem]) rfl ⟨rfl, v', H3.out, F3.out⟩
set_option maxRecDepth 100000 in
set_option maxHeartbeats 4000000 in
theorem node_pat {B bl T : Nat} {n : Nd} {out : List TkT} {k : Nat} (hk : 34 ≤ n.kind) (h : TellOK B bl T 86 n out k) : TellOK B bl T 46 n out k := by
  intro ts v c w o cap hn hS hc hl
  obtain ⟨V, hV, hnV, hSV, hfV, hBx, hx1, hx2, hx3, hx4⟩ := boxed hn hS
  have c0 : V.cell? ⟨w.heap.size, 0, none⟩ = some (.int .i64 n.kind) := hBx.cell 0 _ rfl
  have c1 : V.cell? ⟨w.heap.size, 1, none⟩ = some (.string (bs n.name)) := hBx.cell 1 _ rfl
  have c2 : V.cell? ⟨w.heap.size, 2, none⟩ = some (.int .i64 n.num) := hBx.cell 2 _ rfl
  have c3 : V.cell? ⟨w.heap.size, 3, none⟩ = some (.slice o n.kids.length cap) := hBx.cell 3 _ rfl
  have c4 : V.cell? ⟨w.heap.size, 4, none⟩ = some (.int .i64 n.pos) := hBx.cell 4 _ rfl
  have hlV := hBx.lt
  have HF : Hid (TFr T bl w V v v) := hfV
  have hk3 : 33 < n.kind := by omega
  have hk4 : 10 < n.kind := by omega
  have HC : Hid (Calls Tryz.prog 86 #[.pointer (some ⟨T, 0, none⟩), .agg #[.int .i64 n.kind, .string (bs n.name), .int .i64 n.num, .slice o n.kids.length cap, .int .i64 n.pos]] V fun e W' => e = .returned (.tuple #[]) ∧ ∃ v', TSt B bl T (c + k) W' v' (ts ++ out) ∧ TFr T bl V W' v v') := h ts v c V o cap hnV hSV hc hl
  clear h hn hS hc hl hnV hSV hfV hBx
  go_enter Tryz.func46, Tryz.ntmps46
  go_wp2_with (go_at_call 86; fail)
  refine HC.out.mono ?_
  rintro e w3 ⟨rfl, v', h3, f3⟩
  have H3 : Hid (TSt B bl T (c + k) w3 v' (ts ++ out)) := h3
  have F3 : Hid (TFr T bl w w3 v v') := HF.out.trans f3
  clear h3 f3
  go_wp2
  first
    | (go_end0; exact ⟨rfl, v', H3.out, F3.out⟩)
    | exact bodyPost_ret (v := .tuple #[]) (by simp [results, Tryz.results46, go_sem]) rfl ⟨rfl, v', H3.out, F3.out⟩
set_option maxRecDepth 100000 in
set_option maxHeartbeats 4000000 in
theorem exprVar {B bl T : Nat} {n : Nd} (hk : n.kind = 11) (hsym : isSymB (lkM (bs n.name)) = false) : TellOK B bl T 85 n (nmT (bs n.name)) 1 := by
  intro ts v c w o cap hn hS hc hl
  obtain ⟨V, hV, hnV, hSV, hfV, hBx, hx1, hx2, hx3, hx4⟩ := boxed hn hS
  have c0 : V.cell? ⟨w.heap.size, 0, none⟩ = some (.int .i64 n.kind) := hBx.cell 0 _ rfl
  have c1 : V.cell? ⟨w.heap.size, 1, none⟩ = some (.string (bs n.name)) := hBx.cell 1 _ rfl
  have c2 : V.cell? ⟨w.heap.size, 2, none⟩ = some (.int .i64 n.num) := hBx.cell 2 _ rfl
  have c3 : V.cell? ⟨w.heap.size, 3, none⟩ = some (.slice o n.kids.length cap) := hBx.cell 3 _ rfl
  have c4 : V.cell? ⟨w.heap.size, 4, none⟩ = some (.int .i64 n.pos) := hBx.cell 4 _ rfl
  have hlV := hBx.lt
  have HF : Hid (TFr T bl w V v v) := hfV
  have HC : Hid (Calls Tryz.prog 139 #[.pointer (some ⟨T, 0, none⟩), .string (bs n.name)] V fun e W' => e = .returned (.tuple #[]) ∧ ∃ v', TSt B bl T (c + 1) W' v' (ts ++ nmT (bs n.name)) ∧ TFr T bl V W' v v') := name_t B bl T c ts v (bs n.name) (by rw [bs_size]; exact hn.2.2.2.2.1) hsym (by omega) V hSV hl
  rw [hk] at c0 hV ⊢
  clear hn hS hc hl hnV hSV hfV hBx hsym
  go_enter Tryz.func85, Tryz.ntmps85
  go_wp2_with (go_at_call 139; fail)
  refine HC.out.mono ?_
  rintro e w3 ⟨rfl, v', h3, f3⟩
  have H3 : Hid (TSt B bl T (c + 1) w3 v' (ts ++ nmT (bs n.name))) := h3
  have F3 : Hid (TFr T bl w w3 v v') := HF.out.trans f3
  clear h3 f3
  go_wp2
  first
    | (go_end0; exact ⟨rfl, v', H3.out, F3.out⟩)
    | exact bodyPost_ret (v := .tuple #[]) (by simp [results, Tryz.results85, go_sem]) rfl ⟨rfl, v', H3.out, F3.out⟩
set_option maxRecDepth 100000 in
set_option maxHeartbeats 4000000 in
theorem patVar {B bl T : Nat} {n : Nd} (hk : n.kind = 34) (hsym : isSymB (lkM (bs n.name)) = false) : TellOK B bl T 86 n (nmT (bs n.name)) 1 := by
  intro ts v c w o cap hn hS hc hl
  obtain ⟨V, hV, hnV, hSV, hfV, hBx, hx1, hx2, hx3, hx4⟩ := boxed hn hS
  have c0 : V.cell? ⟨w.heap.size, 0, none⟩ = some (.int .i64 n.kind) := hBx.cell 0 _ rfl
  have c1 : V.cell? ⟨w.heap.size, 1, none⟩ = some (.string (bs n.name)) := hBx.cell 1 _ rfl
  have c2 : V.cell? ⟨w.heap.size, 2, none⟩ = some (.int .i64 n.num) := hBx.cell 2 _ rfl
  have c3 : V.cell? ⟨w.heap.size, 3, none⟩ = some (.slice o n.kids.length cap) := hBx.cell 3 _ rfl
  have c4 : V.cell? ⟨w.heap.size, 4, none⟩ = some (.int .i64 n.pos) := hBx.cell 4 _ rfl
  have hlV := hBx.lt
  have HF : Hid (TFr T bl w V v v) := hfV
  have HC : Hid (Calls Tryz.prog 139 #[.pointer (some ⟨T, 0, none⟩), .string (bs n.name)] V fun e W' => e = .returned (.tuple #[]) ∧ ∃ v', TSt B bl T (c + 1) W' v' (ts ++ nmT (bs n.name)) ∧ TFr T bl V W' v v') := name_t B bl T c ts v (bs n.name) (by rw [bs_size]; exact hn.2.2.2.2.1) hsym (by omega) V hSV hl
  rw [hk] at c0 hV ⊢
  clear hn hS hc hl hnV hSV hfV hBx hsym
  go_enter Tryz.func86, Tryz.ntmps86
  go_wp2_with (go_at_call 139; fail)
  refine HC.out.mono ?_
  rintro e w3 ⟨rfl, v', h3, f3⟩
  have H3 : Hid (TSt B bl T (c + 1) w3 v' (ts ++ nmT (bs n.name))) := h3
  have F3 : Hid (TFr T bl w w3 v v') := HF.out.trans f3
  clear h3 f3
  go_wp2
  first
    | (go_end0; exact ⟨rfl, v', H3.out, F3.out⟩)
    | exact bodyPost_ret (v := .tuple #[]) (by simp [results, Tryz.results86, go_sem]) rfl ⟨rfl, v', H3.out, F3.out⟩
set_option maxRecDepth 100000 in
set_option maxHeartbeats 4000000 in
theorem declOp {B bl T : Nat} {n : Nd} (hk : n.kind = 5) (hsym : isSymB (lkM (bs n.name)) = true) : TellOK B bl T 84 n (nmT (bs n.name)) 1 := by
  intro ts v c w o cap hn hS hc hl
  obtain ⟨V, hV, hnV, hSV, hfV, hBx, hx1, hx2, hx3, hx4⟩ := boxed hn hS
  have c0 : V.cell? ⟨w.heap.size, 0, none⟩ = some (.int .i64 n.kind) := hBx.cell 0 _ rfl
  have c1 : V.cell? ⟨w.heap.size, 1, none⟩ = some (.string (bs n.name)) := hBx.cell 1 _ rfl
  have c2 : V.cell? ⟨w.heap.size, 2, none⟩ = some (.int .i64 n.num) := hBx.cell 2 _ rfl
  have c3 : V.cell? ⟨w.heap.size, 3, none⟩ = some (.slice o n.kids.length cap) := hBx.cell 3 _ rfl
  have c4 : V.cell? ⟨w.heap.size, 4, none⟩ = some (.int .i64 n.pos) := hBx.cell 4 _ rfl
  have hlV := hBx.lt
  have HF : Hid (TFr T bl w V v v) := hfV
  have HC : Hid (Calls Tryz.prog 144 #[.pointer (some ⟨T, 0, none⟩), .string (bs n.name)] V fun e W' => e = .returned (.tuple #[]) ∧ ∃ v', TSt B bl T (c + 1) W' v' (ts ++ nmT (bs n.name)) ∧ TFr T bl V W' v v') := operator_t B bl T c ts v (bs n.name) (by rw [bs_size]; exact hn.2.2.2.2.1) hsym (by omega) V hSV hl
  rw [hk] at c0 hV ⊢
  clear hn hS hc hl hnV hSV hfV hBx hsym
  go_enter Tryz.func84, Tryz.ntmps84
  go_wp2_with (go_at_call 144; fail)
  refine HC.out.mono ?_
  rintro e w3 ⟨rfl, v', h3, f3⟩
  have H3 : Hid (TSt B bl T (c + 1) w3 v' (ts ++ nmT (bs n.name))) := h3
  have F3 : Hid (TFr T bl w w3 v v') := HF.out.trans f3
  clear h3 f3
  go_wp2
  first
    | (go_end0; exact ⟨rfl, v', H3.out, F3.out⟩)
    | exact bodyPost_ret (v := .tuple #[]) (by simp [results, Tryz.results84, go_sem]) rfl ⟨rfl, v', H3.out, F3.out⟩
set_option maxRecDepth 100000 in
set_option maxHeartbeats 4000000 in
theorem literalInt_c (n : Nd) (o : Option Addr) (cap : Nat) (hk : n.kind = 13) (w : World) : Calls Tryz.prog 148 #[.agg #[.int .i64 n.kind, .string (bs n.name), .int .i64 n.num, .slice o n.kids.length cap, .int .i64 n.pos]] w fun e w' => e = .returned (.agg #[.int .i64 5, .string ⟨#[]⟩, .int .i64 n.num, .int .i64 0, .int .i64 0, .int .i64 0, .bool false]) ∧ Below w.heap.size w w' := by
  have HN : Hid (∀ X : World, Calls Tryz.prog 142 #[.int .i64 n.num] X fun e w' => e = .returned (.agg #[.int .i64 5, .string ⟨#[]⟩, .int .i64 n.num, .int .i64 0, .int .i64 0, .int .i64 0, .bool false]) ∧ Below X.heap.size X w') := fun X => number_t n.num X
  have hB2 : Hid (∀ o1 o2 : Obj, Below w.heap.size w ((w.alloc o1).alloc o2)) := fun o1 o2 => ((Below.refl _ w).alloc (Nat.le_refl _) _).alloc (by simp) _
  rw [hk]
  go_enter Tryz.func148, Tryz.ntmps148
  go_wp2_with (go_at_call 142; fail)
  refine (HN.out _).mono ?_
  rintro e w1 ⟨rfl, hb1⟩
  have hz := (Blk.new2 w (.cells #[.int .i64 13, .string (bs n.name), .int .i64 n.num, .slice o n.kids.length cap, .int .i64 n.pos] 25) #[.int .i64 0, .string ⟨#[]⟩, .int .i64 0, .int .i64 0, .int .i64 0, .int .i64 0, .bool false] 43).below hb1
  obtain ⟨q0, q1, q2, q3, q4, q5, q6, f0, f1, f2, f3, f4, f5, f6⟩ := hz.all7
  have hl1 := hz.lt
  have HB1 : Hid (Below w.heap.size w w1) := (hB2.out _ _).trans (hb1.mono (by simp; omega))
  clear hb1 hz
  go_wp2
  exact bodyPost_ret (v := .agg #[.int .i64 5, .string ⟨#[]⟩, .int .i64 n.num, .int .i64 0, .int .i64 0, .int .i64 0, .bool false]) (by simp [results, Tryz.results148, go_sem, q0, q1, q2, q3, q4, q5, q6]) rfl ⟨rfl, by repeat (first | (refine Below.setCell ?_ (by simp) _) | exact HB1.out)⟩
set_option maxRecDepth 100000 in
set_option maxHeartbeats 4000000 in
theorem exprInt {B bl T : Nat} {n : Nd} (hk : n.kind = 13) : TellOK B bl T 85 n [⟨5, [], n.num⟩] 0 := by
  intro ts v c w o cap hn hS hc hl
  obtain ⟨V, hV, hnV, hSV, hfV, hBx, hx1, hx2, hx3, hx4⟩ := boxed hn hS
  have c0 : V.cell? ⟨w.heap.size, 0, none⟩ = some (.int .i64 n.kind) := hBx.cell 0 _ rfl
  have c1 : V.cell? ⟨w.heap.size, 1, none⟩ = some (.string (bs n.name)) := hBx.cell 1 _ rfl
  have c2 : V.cell? ⟨w.heap.size, 2, none⟩ = some (.int .i64 n.num) := hBx.cell 2 _ rfl
  have c3 : V.cell? ⟨w.heap.size, 3, none⟩ = some (.slice o n.kids.length cap) := hBx.cell 3 _ rfl
  have c4 : V.cell? ⟨w.heap.size, 4, none⟩ = some (.int .i64 n.pos) := hBx.cell 4 _ rfl
  have hlV := hBx.lt
  have HF : Hid (TFr T bl w V v v) := hfV
  have HLt : Hid (Calls Tryz.prog 148 #[.agg #[.int .i64 n.kind, .string (bs n.name), .int .i64 n.num, .slice o n.kids.length cap, .int .i64 n.pos]] V fun e w' => e = .returned (.agg #[.int .i64 5, .string ⟨#[]⟩, .int .i64 n.num, .int .i64 0, .int .i64 0, .int .i64 0, .bool false]) ∧ Below V.heap.size V w') := literalInt_c n o cap hk V
  have HSV : Hid (TSt B bl T c V v ts) := hSV
  have HP : Hid (∀ X : World, TSt B bl T c X v ts → Calls Tryz.prog 137 #[.pointer (some ⟨T, 0, none⟩), .slice (some ⟨X.heap.size, 0, none⟩) 1 1] (X.alloc (.cells #[.int .i64 5, .string ⟨#[]⟩, .int .i64 n.num, .int .i64 0, .int .i64 0, .int .i64 0, .bool false] 43)) fun e W' => e = .returned (.tuple #[]) ∧ ∃ v', TSt B bl T c W' v' (ts ++ [⟨5, [], n.num⟩]) ∧ TFr T bl X W' v v') := fun X hX => put1_c B bl T c ts v 5 ⟨#[]⟩ n.num X hX hl
  rw [hk] at c0 hV HLt ⊢
  clear hn hS hc hl hnV hSV hfV hBx
  go_enter Tryz.func85, Tryz.ntmps85
  go_wp2_with (go_at_call 148; fail)
  refine HLt.out.mono ?_
  rintro e w1 ⟨rfl, hb1⟩
  have HC : Hid (Calls Tryz.prog 137 #[.pointer (some ⟨T, 0, none⟩), .slice (some ⟨w1.heap.size, 0, none⟩) 1 1] (w1.alloc (.cells #[.int .i64 5, .string ⟨#[]⟩, .int .i64 n.num, .int .i64 0, .int .i64 0, .int .i64 0, .bool false] 43)) fun e W' => e = .returned (.tuple #[]) ∧ ∃ v', TSt B bl T c W' v' (ts ++ [⟨5, [], n.num⟩]) ∧ TFr T bl w1 W' v v') := HP.out w1 (HSV.out.below hb1)
  have HF2 : Hid (TFr T bl w w1 v v) := HF.out.trans (tfr_below hb1 v)
  clear hb1 HLt HP HF
  have HF := HF2
  clear HF2
  go_wp2_with (go_at_call 137; fail)
  refine HC.out.mono ?_
  rintro e w3 ⟨rfl, v', h3, f3⟩
  have H3 : Hid (TSt B bl T (c + 0) w3 v' (ts ++ [⟨5, [], n.num⟩])) := h3
  have F3 : Hid (TFr T bl w w3 v v') := HF.out.trans f3
  clear h3 f3
  go_wp2
  first
    | (go_end0; exact ⟨rfl, v', H3.out, F3.out⟩)
    | exact bodyPost_ret (v := .tuple #[]) (by simp [results, Tryz.results85, go_sem]) rfl ⟨rfl, v', H3.out, F3.out⟩

end Go.Proofs.YtppnhaacmhfenaaGreatDoor

namespace Go.Proofs.YtppnhaacmhfenaaGreatDoor
open Go.RowKit Go.Shelf Go.Maps
set_option linter.unusedVariables false

/-- Is a node an atom? -/
def atomM (k : Int) (len : Nat) : Bool := if k = 39 then len == 0 else decide ((11 ≤ k ∧ k ≤ 15) ∨ (25 ≤ k ∧ k ≤ 30) ∨ (34 ≤ k ∧ k ≤ 38) ∨ (40 ≤ k ∧ k ≤ 43))
set_option maxRecDepth 100000 in
set_option maxHeartbeats 4000000 in
theorem isAtom_c (n : Nd) (o : Option Addr) (cap : Nat) (hk39 : n.kind ≠ 39) (w : World) : Calls Tryz.prog 206 #[.agg #[.int .i64 n.kind, .string (bs n.name), .int .i64 n.num, .slice o n.kids.length cap, .int .i64 n.pos]] w fun e w' => e = .returned (.bool (atomM n.kind n.kids.length)) ∧ Below w.heap.size w w' := by
  have HB : Hid (∀ o : Obj, Below w.heap.size w (w.alloc o)) := fun o => (Below.refl _ w).alloc (Nat.le_refl _) _
  have HR : Hid (atomM n.kind n.kids.length = decide ((11 ≤ n.kind ∧ n.kind ≤ 15) ∨ (25 ≤ n.kind ∧ n.kind ≤ 30) ∨ (34 ≤ n.kind ∧ n.kind ≤ 38) ∨ (40 ≤ n.kind ∧ n.kind ≤ 43))) := by show _ = _; unfold atomM; rw [if_neg hk39]
  generalize n.kind = k at HR hk39 ⊢
  have e39 : (k == 39) = false := beq_eq_false_iff_ne.2 hk39
  by_cases r0 : k ≤ 10
  · have HR2 : Hid (atomM k n.kids.length = false) := by show _ = _; rw [HR.out]; simp; omega
    have g11 : k < 11 := by omega
    have g25 : k < 25 := by omega
    have g34 : k < 34 := by omega
    have g40 : k < 40 := by omega
    clear r0 HR hk39
    go_enter Tryz.func206, Tryz.ntmps206
    go_wp2
    go_ret
    exact ⟨by rw [HR2.out]; rfl, HB.out _⟩
  by_cases r11 : 11 ≤ k ∧ k ≤ 15
  · have HR2 : Hid (atomM k n.kids.length = true) := by show _ = _; rw [HR.out]; simp; omega
    have g11 : (11 : Int) ≤ k := by omega
    have l15 : k ≤ 15 := by omega
    have g25 : k < 25 := by omega
    have g34 : k < 34 := by omega
    have g40 : k < 40 := by omega
    clear r11 HR hk39
    go_enter Tryz.func206, Tryz.ntmps206
    go_wp2
    go_ret
    exact ⟨by rw [HR2.out]; rfl, HB.out _⟩
  by_cases r16 : 16 ≤ k ∧ k ≤ 24
  · have HR2 : Hid (atomM k n.kids.length = false) := by show _ = _; rw [HR.out]; simp; omega
    have g11 : (11 : Int) ≤ k := by omega
    have l15 : (15 : Int) < k := by omega
    have g25 : k < 25 := by omega
    have g34 : k < 34 := by omega
    have g40 : k < 40 := by omega
    clear r16 HR hk39
    go_enter Tryz.func206, Tryz.ntmps206
    go_wp2
    go_ret
    exact ⟨by rw [HR2.out]; rfl, HB.out _⟩
  by_cases r25 : 25 ≤ k ∧ k ≤ 30
  · have HR2 : Hid (atomM k n.kids.length = true) := by show _ = _; rw [HR.out]; simp; omega
    have g11 : (11 : Int) ≤ k := by omega
    have l15 : (15 : Int) < k := by omega
    have g25 : (25 : Int) ≤ k := by omega
    have l30 : k ≤ 30 := by omega
    have g34 : k < 34 := by omega
    have g40 : k < 40 := by omega
    clear r25 HR hk39
    go_enter Tryz.func206, Tryz.ntmps206
    go_wp2
    go_ret
    exact ⟨by rw [HR2.out]; rfl, HB.out _⟩
  by_cases r31 : 31 ≤ k ∧ k ≤ 33
  · have HR2 : Hid (atomM k n.kids.length = false) := by show _ = _; rw [HR.out]; simp; omega
    have g11 : (11 : Int) ≤ k := by omega
    have l15 : (15 : Int) < k := by omega
    have g25 : (25 : Int) ≤ k := by omega
    have l30 : (30 : Int) < k := by omega
    have g34 : k < 34 := by omega
    have g40 : k < 40 := by omega
    clear r31 HR hk39
    go_enter Tryz.func206, Tryz.ntmps206
    go_wp2
    go_ret
    exact ⟨by rw [HR2.out]; rfl, HB.out _⟩
  by_cases r34 : 34 ≤ k ∧ k ≤ 38
  · have HR2 : Hid (atomM k n.kids.length = true) := by show _ = _; rw [HR.out]; simp; omega
    have g11 : (11 : Int) ≤ k := by omega
    have l15 : (15 : Int) < k := by omega
    have g25 : (25 : Int) ≤ k := by omega
    have l30 : (30 : Int) < k := by omega
    have g34 : (34 : Int) ≤ k := by omega
    have l38 : k ≤ 38 := by omega
    have g40 : k < 40 := by omega
    clear r34 HR hk39
    go_enter Tryz.func206, Tryz.ntmps206
    go_wp2
    go_ret
    exact ⟨by rw [HR2.out]; rfl, HB.out _⟩
  by_cases r40 : 40 ≤ k ∧ k ≤ 43
  · have HR2 : Hid (atomM k n.kids.length = true) := by show _ = _; rw [HR.out]; simp; omega
    have g11 : (11 : Int) ≤ k := by omega
    have l15 : (15 : Int) < k := by omega
    have g25 : (25 : Int) ≤ k := by omega
    have l30 : (30 : Int) < k := by omega
    have g34 : (34 : Int) ≤ k := by omega
    have l38 : (38 : Int) < k := by omega
    have g40 : (40 : Int) ≤ k := by omega
    have l43 : k ≤ 43 := by omega
    clear r40 HR hk39
    go_enter Tryz.func206, Tryz.ntmps206
    go_wp2
    go_ret
    exact ⟨by rw [HR2.out]; rfl, HB.out _⟩
  by_cases r44 : 44 ≤ k
  · have HR2 : Hid (atomM k n.kids.length = false) := by show _ = _; rw [HR.out]; simp; omega
    have g11 : (11 : Int) ≤ k := by omega
    have l15 : (15 : Int) < k := by omega
    have g25 : (25 : Int) ≤ k := by omega
    have l30 : (30 : Int) < k := by omega
    have g34 : (34 : Int) ≤ k := by omega
    have l38 : (38 : Int) < k := by omega
    have g40 : (40 : Int) ≤ k := by omega
    have l43 : (43 : Int) < k := by omega
    clear r44 HR hk39
    go_enter Tryz.func206, Tryz.ntmps206
    go_wp2
    go_ret
    exact ⟨by rw [HR2.out]; rfl, HB.out _⟩
  omega
set_option maxRecDepth 100000 in
set_option maxHeartbeats 4000000 in
theorem atomYes {B bl T : Nat} {n : Nd} {out : List TkT} {k : Nat} (hk : n.kind ≠ 39) (ha : atomM n.kind n.kids.length = true) (h : TellOK B bl T 46 n out k) : TellOK B bl T 150 n out k := by
  intro ts v c w o cap hn hS hc hl
  obtain ⟨V, hV, hnV, hSV, hfV, hBx, hx1, hx2, hx3, hx4⟩ := boxed hn hS
  have c0 : V.cell? ⟨w.heap.size, 0, none⟩ = some (.int .i64 n.kind) := hBx.cell 0 _ rfl
  have c1 : V.cell? ⟨w.heap.size, 1, none⟩ = some (.string (bs n.name)) := hBx.cell 1 _ rfl
  have c2 : V.cell? ⟨w.heap.size, 2, none⟩ = some (.int .i64 n.num) := hBx.cell 2 _ rfl
  have c3 : V.cell? ⟨w.heap.size, 3, none⟩ = some (.slice o n.kids.length cap) := hBx.cell 3 _ rfl
  have c4 : V.cell? ⟨w.heap.size, 4, none⟩ = some (.int .i64 n.pos) := hBx.cell 4 _ rfl
  have hlV := hBx.lt
  have HF : Hid (TFr T bl w V v v) := hfV
  have HA : Hid (Calls Tryz.prog 206 #[.agg #[.int .i64 n.kind, .string (bs n.name), .int .i64 n.num, .slice o n.kids.length cap, .int .i64 n.pos]] V fun e w' => e = .returned (.bool true) ∧ Below V.heap.size V w') := by have := isAtom_c n o cap hk V; rw [ha] at this; exact this
  have HX : Hid (∀ X : World, Below V.heap.size V X → Calls Tryz.prog 46 #[.pointer (some ⟨T, 0, none⟩), .agg #[.int .i64 n.kind, .string (bs n.name), .int .i64 n.num, .slice o n.kids.length cap, .int .i64 n.pos]] X fun e W' => e = .returned (.tuple #[]) ∧ ∃ v', TSt B bl T (c + k) W' v' (ts ++ out) ∧ TFr T bl X W' v v') := fun X hX => h ts v c X o cap (hnV.below (hX.mono (by have := hSV.lt; have := hSV.1; omega))) (hSV.below hX) hc hl
  have HBx : Hid (Blk V w.heap.size #[.int .i64 n.kind, .string (bs n.name), .int .i64 n.num, .slice o n.kids.length cap, .int .i64 n.pos] 25) := hBx
  clear h hn hS hc hl hnV hSV hfV hBx ha hk
  go_enter Tryz.func150, Tryz.ntmps150
  go_wp2_with (go_at_call 206; fail)
  refine HA.out.mono ?_
  rintro e w1 ⟨rfl, hb1⟩
  have HC := HX.out w1 hb1
  have HC1 : Hid (Calls Tryz.prog 46 #[.pointer (some ⟨T, 0, none⟩), .agg #[.int .i64 n.kind, .string (bs n.name), .int .i64 n.num, .slice o n.kids.length cap, .int .i64 n.pos]] w1 fun e W' => e = .returned (.tuple #[]) ∧ ∃ v', TSt B bl T (c + k) W' v' (ts ++ out) ∧ TFr T bl w1 W' v v') := HC
  have HF2 : Hid (TFr T bl w w1 v v) := HF.out.trans (tfr_below hb1 v)
  have hB1 := HBx.out.below hb1
  have d0 : w1.cell? ⟨w.heap.size, 0, none⟩ = some (.int .i64 n.kind) := hB1.cell 0 _ rfl
  have d1 : w1.cell? ⟨w.heap.size, 1, none⟩ = some (.string (bs n.name)) := hB1.cell 1 _ rfl
  have d2 : w1.cell? ⟨w.heap.size, 2, none⟩ = some (.int .i64 n.num) := hB1.cell 2 _ rfl
  have d3 : w1.cell? ⟨w.heap.size, 3, none⟩ = some (.slice o n.kids.length cap) := hB1.cell 3 _ rfl
  have d4 : w1.cell? ⟨w.heap.size, 4, none⟩ = some (.int .i64 n.pos) := hB1.cell 4 _ rfl
  have hl1 := hB1.lt
  clear hb1 HC HA HX HF hB1 c0 c1 c2 c3 c4 hlV
  have HF := HF2
  clear HF2
  go_wp2_with (go_at_call 46; fail)
  refine HC1.out.mono ?_
  rintro e w3 ⟨rfl, v', h3, f3⟩
  have H3 : Hid (TSt B bl T (c + k) w3 v' (ts ++ out)) := h3
  have F3 : Hid (TFr T bl w w3 v v') := HF.out.trans f3
  clear h3 f3
  go_wp2
  first
    | (go_end0; exact ⟨rfl, v', H3.out, F3.out⟩)
    | exact bodyPost_ret (v := .tuple #[]) (by simp [results, Tryz.results150, go_sem]) rfl ⟨rfl, v', H3.out, F3.out⟩
def lpT : TkT := ⟨8, [40], 0⟩
def rpT : TkT := ⟨8, [41], 0⟩
set_option maxRecDepth 100000 in
set_option maxHeartbeats 4000000 in
theorem atomNo {B bl T : Nat} {n : Nd} {out : List TkT} {k : Nat} (hk : n.kind ≠ 39) (ha : atomM n.kind n.kids.length = false) (h : TellOK B bl T 46 n out k) : TellOK B bl T 150 n (lpT :: (out ++ [rpT])) k := by
  intro ts v c w o cap hn hS hc hl
  obtain ⟨V, hV, hnV, hSV, hfV, hBx, hx1, hx2, hx3, hx4⟩ := boxed hn hS
  have c0 : V.cell? ⟨w.heap.size, 0, none⟩ = some (.int .i64 n.kind) := hBx.cell 0 _ rfl
  have c1 : V.cell? ⟨w.heap.size, 1, none⟩ = some (.string (bs n.name)) := hBx.cell 1 _ rfl
  have c2 : V.cell? ⟨w.heap.size, 2, none⟩ = some (.int .i64 n.num) := hBx.cell 2 _ rfl
  have c3 : V.cell? ⟨w.heap.size, 3, none⟩ = some (.slice o n.kids.length cap) := hBx.cell 3 _ rfl
  have c4 : V.cell? ⟨w.heap.size, 4, none⟩ = some (.int .i64 n.pos) := hBx.cell 4 _ rfl
  have hlV := hBx.lt
  have HF : Hid (TFr T bl w V v v) := hfV
  have HA : Hid (Calls Tryz.prog 206 #[.agg #[.int .i64 n.kind, .string (bs n.name), .int .i64 n.num, .slice o n.kids.length cap, .int .i64 n.pos]] V fun e w' => e = .returned (.bool false) ∧ Below V.heap.size V w') := by have := isAtom_c n o cap hk V; rw [ha] at this; exact this
  have hll : ts.length + (out.length + 2) ≤ 1000000000 := by simp only [List.length_cons, List.length_append, List.length_nil] at hl; omega
  have HX : Hid (∀ (X : World) (ts' : List TkT) (v' : Value), NdIn X B n o cap → TSt B bl T c X v' ts' → ts'.length = ts.length + 1 → Calls Tryz.prog 46 #[.pointer (some ⟨T, 0, none⟩), .agg #[.int .i64 n.kind, .string (bs n.name), .int .i64 n.num, .slice o n.kids.length cap, .int .i64 n.pos]] X fun e W' => e = .returned (.tuple #[]) ∧ ∃ v'', TSt B bl T (c + k) W' v'' (ts' ++ out) ∧ TFr T bl X W' v' v'') := fun X ts' v' h1 h2 h3 => h ts' v' c X o cap h1 h2 hc (by omega)
  have HP : Hid (∀ (c' : Nat) (ts' : List TkT) (v' : Value) (s : ByteArray) (X : World), TSt B bl T c' X v' ts' → ts'.length + 1 ≤ ts.length + (out.length + 2) → Calls Tryz.prog 137 #[.pointer (some ⟨T, 0, none⟩), .slice (some ⟨X.heap.size, 0, none⟩) 1 1] (X.alloc (.cells #[.int .i64 8, .string s, .int .i64 0, .int .i64 0, .int .i64 0, .int .i64 0, .bool false] 43)) fun e W' => e = .returned (.tuple #[]) ∧ ∃ v'', TSt B bl T c' W' v'' (ts' ++ [⟨8, s.data.toList, 0⟩]) ∧ TFr T bl X W' v' v'') := fun c' ts' v' s X hX hlen => put1_c B bl T c' ts' v' 8 s 0 X hX (by omega)
  have HMk : Hid (∀ (s : ByteArray) (X : World), Calls Tryz.prog 143 #[.string s] X fun e w' => e = .returned (.agg #[.int .i64 8, .string s, .int .i64 0, .int .i64 0, .int .i64 0, .int .i64 0, .bool false]) ∧ Below X.heap.size X w') := mark_c
  have HBx : Hid (Blk V w.heap.size #[.int .i64 n.kind, .string (bs n.name), .int .i64 n.num, .slice o n.kids.length cap, .int .i64 n.pos] 25) := hBx
  have HSV : Hid (TSt B bl T c V v ts) := hSV
  have HNV : Hid (NdIn V B n o cap) := hnV
  have Hx : Hid (w.heap.size ≠ T ∧ w.heap.size ≠ bl ∧ v.ownBlock ≠ some w.heap.size) := ⟨hx1, hx2, hx3⟩
  clear h hn hS hc hl hnV hSV hfV hBx ha hk hll hx1 hx2 hx3
  go_enter Tryz.func150, Tryz.ntmps150
  go_wp2_with (go_at_call 206; fail)
  refine HA.out.mono ?_
  rintro e w1 ⟨rfl, hb1⟩
  have S1 : Hid (TSt B bl T c w1 v ts) := HSV.out.below hb1
  have B1 : Hid (Blk w1 w.heap.size #[.int .i64 n.kind, .string (bs n.name), .int .i64 n.num, .slice o n.kids.length cap, .int .i64 n.pos] 25) := HBx.out.below hb1
  have N1 : Hid (NdIn w1 B n o cap) := HNV.out.below (hb1.mono (by have := HSV.out.lt; have := HSV.out.1; omega))
  have F1 : Hid (TFr T bl w w1 v v) := HF.out.trans (tfr_below hb1 v)
  clear hb1 HA HF HSV HBx HNV c0 c1 c2 c3 c4 hlV
  go_wp2_with (go_at_call 143; fail)
  refine (HMk.out _ _).mono ?_
  rintro e w2 ⟨rfl, hb2⟩
  have S2 : Hid (TSt B bl T c w2 v ts) := S1.out.below hb2
  have B2 : Hid (Blk w2 w.heap.size #[.int .i64 n.kind, .string (bs n.name), .int .i64 n.num, .slice o n.kids.length cap, .int .i64 n.pos] 25) := B1.out.below hb2
  have N2 : Hid (NdIn w2 B n o cap) := N1.out.below (hb2.mono (by have := S1.out.lt; have := S1.out.1; omega))
  have F2 : Hid (TFr T bl w w2 v v) := F1.out.trans (tfr_below hb2 v)
  have HP1 : Hid (Calls Tryz.prog 137 #[.pointer (some ⟨T, 0, none⟩), .slice (some ⟨w2.heap.size, 0, none⟩) 1 1] (w2.alloc (.cells #[.int .i64 8, .string ⟨#[40]⟩, .int .i64 0, .int .i64 0, .int .i64 0, .int .i64 0, .bool false] 43)) fun e W' => e = .returned (.tuple #[]) ∧ ∃ v'', TSt B bl T c W' v'' (ts ++ [lpT]) ∧ TFr T bl w2 W' v v'') := HP.out c ts v ⟨#[40]⟩ w2 S2.out (by omega)
  clear hb2 S1 B1 N1 F1
  go_wp2_with (go_at_call 137; fail)
  refine HP1.out.mono ?_
  rintro e w3 ⟨rfl, v3, s3, f3⟩
  have S3 : Hid (TSt B bl T c w3 v3 (ts ++ [lpT])) := s3
  have B3 : Hid (Blk w3 w.heap.size #[.int .i64 n.kind, .string (bs n.name), .int .i64 n.num, .slice o n.kids.length cap, .int .i64 n.pos] 25) := B2.out.tfr f3 Hx.out.1 Hx.out.2.1 Hx.out.2.2
  have N3 : Hid (NdIn w3 B n o cap) := N2.out.below (f3.below S2.out)
  have F3' : Hid (TFr T bl w w3 v v3) := F2.out.trans f3
  have R3 : Hid (v3.ownBlock ≠ some w.heap.size) := by
    rcases f3.row with e | ⟨gg, e, hgg⟩
    · intro h; rw [e] at h; exact Hx.out.2.2 h
    · intro h; rw [e] at h; cases h; have := B2.out.lt; omega
  have HC3 : Hid (Calls Tryz.prog 46 #[.pointer (some ⟨T, 0, none⟩), .agg #[.int .i64 n.kind, .string (bs n.name), .int .i64 n.num, .slice o n.kids.length cap, .int .i64 n.pos]] w3 fun e W' => e = .returned (.tuple #[]) ∧ ∃ v'', TSt B bl T (c + k) W' v'' ((ts ++ [lpT]) ++ out) ∧ TFr T bl w3 W' v3 v'') := HX.out w3 _ v3 N3.out S3.out (by simp)
  have d0 : w3.cell? ⟨w.heap.size, 0, none⟩ = some (.int .i64 n.kind) := B3.out.cell 0 _ rfl
  have d1 : w3.cell? ⟨w.heap.size, 1, none⟩ = some (.string (bs n.name)) := B3.out.cell 1 _ rfl
  have d2 : w3.cell? ⟨w.heap.size, 2, none⟩ = some (.int .i64 n.num) := B3.out.cell 2 _ rfl
  have d3 : w3.cell? ⟨w.heap.size, 3, none⟩ = some (.slice o n.kids.length cap) := B3.out.cell 3 _ rfl
  have d4 : w3.cell? ⟨w.heap.size, 4, none⟩ = some (.int .i64 n.pos) := B3.out.cell 4 _ rfl
  have hl3 := B3.out.lt
  clear s3 f3 HP1 S2 B2 N2 F2 HX
  go_wp2_with (go_at_call 46; fail)
  refine HC3.out.mono ?_
  rintro e w4 ⟨rfl, v4, s4, f4⟩
  have S4 : Hid (TSt B bl T (c + k) w4 v4 ((ts ++ [lpT]) ++ out)) := s4
  have F4 : Hid (TFr T bl w w4 v v4) := F3'.out.trans f4
  clear s4 f4 HC3 S3 B3 N3 F3' d0 d1 d2 d3 d4 hl3 R3
  go_wp2_with (go_at_call 143; fail)
  refine (HMk.out _ _).mono ?_
  rintro e w5 ⟨rfl, hb5⟩
  have S5 : Hid (TSt B bl T (c + k) w5 v4 ((ts ++ [lpT]) ++ out)) := S4.out.below hb5
  have F5 : Hid (TFr T bl w w5 v v4) := F4.out.trans (tfr_below hb5 v4)
  have HP2 : Hid (Calls Tryz.prog 137 #[.pointer (some ⟨T, 0, none⟩), .slice (some ⟨w5.heap.size, 0, none⟩) 1 1] (w5.alloc (.cells #[.int .i64 8, .string ⟨#[41]⟩, .int .i64 0, .int .i64 0, .int .i64 0, .int .i64 0, .bool false] 43)) fun e W' => e = .returned (.tuple #[]) ∧ ∃ v'', TSt B bl T (c + k) W' v'' (((ts ++ [lpT]) ++ out) ++ [rpT]) ∧ TFr T bl w5 W' v4 v'') := HP.out (c + k) _ v4 ⟨#[41]⟩ w5 S5.out (by simp; omega)
  clear hb5 S4 F4 HP
  go_wp2_with (go_at_call 137; fail)
  refine HP2.out.mono ?_
  rintro e w6 ⟨rfl, v6, s6, f6⟩
  have S6 : Hid (TSt B bl T (c + k) w6 v6 (ts ++ (lpT :: (out ++ [rpT])))) := by
    have e : ((ts ++ [lpT]) ++ out) ++ [rpT] = ts ++ (lpT :: (out ++ [rpT])) := by simp
    show TSt _ _ _ _ _ _ _
    rw [← e]; exact s6
  have F6 : Hid (TFr T bl w w6 v v6) := F5.out.trans f6
  clear s6 f6
  go_wp2
  go_end0
  exact ⟨rfl, v6, S6.out, F6.out⟩

end Go.Proofs.YtppnhaacmhfenaaGreatDoor

namespace Go.Proofs.YtppnhaacmhfenaaGreatDoor
open Go.RowKit Go.Shelf Go.Maps
set_option linter.unusedVariables false

/-- Function f tells a list of nodes so. -/
def ListOK (B bl T f : Nat) (l : List Nd) (out : List TkT) (k : Nat) : Prop := ∀ (ts : List TkT) (v : Value) (c : Nat) (w : World) (o : Option Addr) (cap : Nat), KIn w B o l → l.length ≤ cap → cap ≤ 9223372036854775807 → TSt B bl T c w v ts → c + k ≤ 4611686018427387904 → ts.length + out.length ≤ 1000000000 →
  Calls Tryz.prog f #[.pointer (some ⟨T, 0, none⟩), .slice o l.length cap] w fun e W' => e = .returned (.tuple #[]) ∧ ∃ v', TSt B bl T (c + k) W' v' (ts ++ out) ∧ TFr T bl w W' v v'
theorem flat_take (f : Nd → List TkT) (l : List Nd) (k : Nat) (h : k < l.length) : (l.take (k + 1)).flatMap f = (l.take k).flatMap f ++ f l[k] := by
  rw [List.take_succ_eq_append_getElem h, List.flatMap_append, List.flatMap_singleton]
theorem flat_take_le (f : Nd → List TkT) (l : List Nd) (k : Nat) : ((l.take k).flatMap f).length ≤ (l.flatMap f).length := by
  have : l.flatMap f = (l.take k).flatMap f ++ (l.drop k).flatMap f := by rw [← List.flatMap_append, List.take_append_drop]
  rw [this, List.length_append]; omega
/-- A node in a list, as it is handed over. -/
theorem kid_in {W : World} {B : Nat} {n : Nd} {g off : Nat} (h : NdAt W B n g off) : ∃ (o : Option Addr) (cap : Nat), W.cell? ⟨g, off, none⟩ = some (.int .i64 n.kind) ∧ W.cell? ⟨g, off + 1, none⟩ = some (.string (bs n.name)) ∧ W.cell? ⟨g, off + 2, none⟩ = some (.int .i64 n.num) ∧ W.cell? ⟨g, off + 3, none⟩ = some (.slice o n.kids.length cap) ∧ W.cell? ⟨g, off + 4, none⟩ = some (.int .i64 n.pos) ∧ NdIn W B n o cap := by
  obtain ⟨o, cap, k0, k1, k2, k3, k4, hc1, hc2, hKI⟩ := h.cells
  exact ⟨o, cap, k0, k1, k2, k3, k4, hKI, hc1, hc2, h.wf⟩

set_option maxRecDepth 100000 in
set_option maxHeartbeats 4000000 in
theorem atoms_ok {B bl T : Nat} {l : List Nd} (outF : Nd → List TkT) (kF : Nd → Nat) (h : ∀ x ∈ l, TellOK B bl T 150 x (outF x) (kF x)) : ListOK B bl T 145 l (l.flatMap outF) ((l.map kF).sum) := by
  intro ts v c w o cap hK hc1 hc2 hS hc hl
  obtain ⟨L, hL⟩ : ∃ L, l.length = L := ⟨_, rfl⟩
  have HL : Hid (l.length = L) := hL
  have HH : Hid (∀ x ∈ l, TellOK B bl T 150 x (outF x) (kF x)) := h
  have HK : Hid (KIn w B o l) := hK
  have HS : Hid (TSt B bl T c w v ts) := hS
  have HC : Hid (c + (l.map kF).sum ≤ 4611686018427387904) := hc
  have Hl : Hid (ts.length + (l.flatMap outF).length ≤ 1000000000) := hl
  have hLi : (L : Int) ≤ 9223372036854775807 := by omega
  rw [hL]
  clear h hK hS hc hl hc1 hc2 hL
  go_enter Tryz.func145, Tryz.ntmps145
  go_wp2
  go_loopw [8] (fun i wr => ∃ (k : Nat) (v1 : Value), k ≤ L ∧ i = .int .i64 k ∧ Hid (TSt B bl T (c + ((l.take k).map kF).sum) wr v1 (ts ++ (l.take k).flatMap outF)) ∧ Hid (TFr T bl w wr v v1)) (fun i _ => L - (intOf i).toNat)
  case atStart => exact ⟨0, v, Nat.zero_le _, rfl, by show TSt _ _ _ _ _ _ _; simpa using HS.out, TFr.refl _ _ _ _⟩
  case round =>
    obtain ⟨k, v1, hk, rfl, hS1, hF1⟩ := hrel
    by_cases hlt : k < L
    · have hkL : k < l.length := by rw [HL.out]; exact hlt
      have hki : (k : Int) < (L : Int) := by omega
      have hBw : Below B w wr := hF1.out.below HS.out
      obtain ⟨g, off, rfl, hg, hKA⟩ := (HK.out.below hBw).at k hkL
      obtain ⟨o2, cap2, k0, k1, k2, k3, k4, hNk⟩ := kid_in (hKA.get l g off k hkL)
      have hgr : g < wr.heap.size := by have := hS1.out.lt; have := hS1.out.1; omega
      have hA : ∀ ob : Obj, Below wr.heap.size wr (wr.alloc ob) := fun ob => (Below.refl _ _).alloc (Nat.le_refl _) _
      have hst := sum_take kF l k hkL
      have hsl := sum_take_le kF l (k + 1)
      have hft := flat_take outF l k hkL
      have hfl := flat_take_le outF l (k + 1)
      have HCk : Hid (∀ ob : Obj, Calls Tryz.prog 150 #[.pointer (some ⟨T, 0, none⟩), .agg #[.int .i64 l[k].kind, .string (bs l[k].name), .int .i64 l[k].num, .slice o2 l[k].kids.length cap2, .int .i64 l[k].pos]] (wr.alloc ob) fun e W' => e = .returned (.tuple #[]) ∧ ∃ v', TSt B bl T (c + ((l.take (k + 1)).map kF).sum) W' v' (ts ++ (l.take (k + 1)).flatMap outF) ∧ TFr T bl (wr.alloc ob) W' v1 v') := by
        intro ob
        have h1 := hS1.out.lt
        have h2 := hS1.out.1
        have := HH.out l[k] (List.getElem_mem hkL) _ v1 _ (wr.alloc ob) o2 cap2 (hNk.below ((hA ob).mono (by omega))) (hS1.out.below (hA ob)) (by have := HC.out; omega) (by
          have h3 := Hl.out
          rw [hft] at hfl
          rw [List.length_append] at hfl ⊢
          omega)
        rw [hst, hft, ← Nat.add_assoc, ← List.append_assoc]
        exact this
      have HFb : Hid (∀ (ob : Obj) (W' : World) (v' : Value), TFr T bl (wr.alloc ob) W' v1 v' → TFr T bl w W' v v') := fun ob W' v' hf => (hF1.out.trans (tfr_below (hA ob) v1)).trans hf
      generalize l[k] = nd at k0 k1 k2 k3 k4 HCk
      clear hBw hKA hNk hA hst hsl hft hfl hkL hS1 hF1
      go_wp2_with (go_at_call 150; fail)
      refine (HCk.out _).mono ?_
      rintro e w2 ⟨rfl, v2, s2, f2⟩
      have S2 : Hid (TSt B bl T (c + ((l.take (k + 1)).map kF).sum) w2 v2 (ts ++ (l.take (k + 1)).flatMap outF)) := s2
      have F2 : Hid (TFr T bl w w2 v v2) := HFb.out _ _ _ f2
      clear s2 f2 k0 k1 k2 k3 k4 HCk HFb
      go_wp2
      go_roundw
      case rel => exact ⟨k + 1, v2, by omega, by go_num, S2, F2⟩
      case measure => simp [intOf]; omega
    · obtain rfl : k = L := by omega
      have SF : Hid (TSt B bl T (c + (l.map kF).sum) wr v1 (ts ++ l.flatMap outF)) := by
        have h1 := hS1.out
        rw [List.take_of_length_le (by rw [HL.out]; exact Nat.le_refl _)] at h1
        exact h1
      go_wp2
      go_end0
      exact ⟨rfl, v1, SF.out, hF1.out⟩
end Go.Proofs.YtppnhaacmhfenaaGreatDoor
