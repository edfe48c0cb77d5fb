/-
  WorldScript: act, by its kinds 1 to 4.
-/
import Derived.Test.YtkjbdjobglnphaaXh
namespace Go.Proofs.Ytkjbdjobglnphaa
open Go.RowKit Go.Shelf Go.Maps Go.Conc
set_option linter.unusedVariables false
/-- A call. -/
def actV (k : Int) (oB : Option Addr) (nB cB : Nat) (c N : Int) : Value := .agg #[.int .i64 k, .slice oB nB cB, .int .u8 c, .int .i64 N]
def ActB (W : World) (D : Nat) (k : Int) (oB : Option Addr) (nB cB : Nat) (c N : Int) : Prop := Blk W D #[.int .i64 k, .slice oB nB cB, .int .u8 c, .int .i64 N] 34
/-- Both worlds go on. -/
def Goes2 (w W' : World) (P R : Nat) : Prop := ∃ F G s, Sc w W' F G P R s
section
variable {w W W' : World} {F G : Nat → Prop} {P R : Nat} {s t : St}
theorem Sc.putP (h : Sc w W F G P R s) {t : St} {f : FuncId} {args : Array Value} {v : Value} (ht : t.Ok) (hc : Calls Try.prog f args W fun r W' => r = .returned v ∧ PSt w.heap.size W' (nw F W) P t ∧ Oth F W W') :
    Calls Try.prog f args W fun r W' => r = .returned v ∧ Oth F W W' ∧ ∃ F', Sb w W' F' G P R s t ∧ ∀ k, F' k → F k ∨ W.heap.size ≤ k := by
  refine hc.mono ?_
  rintro r W' ⟨rfl, h1, h2⟩
  exact ⟨rfl, h2, h.mid h1 h2 ht⟩
theorem Sb.putR (h : Sb w W F G P R s t) {f : FuncId} {args : Array Value} {v : Value} (hc : Calls Try.prog f args W fun r W' => r = .returned v ∧ RSt w.heap.size W' (nw G W) R t ∧ Oth G W W') :
    Calls Try.prog f args W fun r W' => r = .returned v ∧ Oth G W W' ∧ Goes2 w W' P R := by
  refine hc.mono ?_
  rintro r W' ⟨rfl, h1, h2⟩
  obtain ⟨G', h3⟩ := h.fin h1 h2
  exact ⟨rfl, h2, _, _, _, h3⟩
end
theorem endS_ok {s : St} (h : s.Ok) : (endS s).Ok := ⟨h.rd, h.inn, h.out⟩
section
variable {w W : World} {F G : Nat → Prop} {P R : Nat} {s : St}
set_option maxHeartbeats 8000000 in
set_option maxRecDepth 100000 in
theorem act1_c (h : Sc w W F G P R s) (k : Int) (hk : pickM k = 1) (oB : Option Addr) (nB cB : Nat) (c N : Int) : Calls Try.prog 17 #[.pointer (some ⟨P, 0, none⟩), .pointer (some ⟨R, 0, none⟩), actV k oB nB cB c N] W fun r W' => r = .returned (.bool true) ∧ Goes2 w W' P R := by
  have HP : Hid (∀ X, Calls Try.prog 15 #[.int .i64 k, .int .i64 6] X fun r W' => r = .returned (.int .i64 1) ∧ W' = X) := fun X => by have := pick_c k X; rwa [hk] at this
  have H1 : Hid (Sc w (W.alloc (.cells #[.int .i64 k, .slice oB nB cB, .int .u8 c, .int .i64 N] 34)) F G P R s) := h.on (below1 W _)
  have hc0 := (Blk.new W #[.int .i64 k, .slice oB nB cB, .int .u8 c, .int .i64 N] 34).cell 0 _ rfl
  obtain ⟨ee, hee⟩ : ∃ ee, endE s = ee := ⟨_, rfl⟩
  have HE : Hid (endE s = ee) := hee
  clear hee
  clear h hk
  unfold actV
  go_enter Try.func17, Try.ntmps17
  go_wp2_with (go_at_call 15; fail)
  refine (HP.out _).mono ?_
  rintro r w1 ⟨rfl, rfl⟩
  clear hc0
  go_wp2_with (go_at_call 11; fail)
  refine (H1.out.putP (v := .int .i64 ee) (endS_ok H1.out.ok) (by rw [← HE.out]; exact H1.out.p.ends)).mono ?_
  rintro r w2 ⟨rfl, -, F', h2, -⟩
  have H2 : Hid (Sb w w2 F' G P R s (endS s)) := h2
  clear h2
  go_wp2_with (go_at_call 28; fail)
  refine (H2.out.putR (v := .int .i64 ee) (by rw [← HE.out]; exact H2.out.r.ends)).mono ?_
  rintro r w3 ⟨rfl, -, h3⟩
  have H3 : Hid (Goes2 w w3 P R) := h3
  clear h3
  go_wp2
  go_ret
  exact ⟨rfl, H3.out⟩
set_option maxHeartbeats 8000000 in
set_option maxRecDepth 100000 in
theorem act2_c (h : Sc w W F G P R s) (k : Int) (hk : pickM k = 2) (oB : Option Addr) (nB cB : Nat) (c N : Int) : Calls Try.prog 17 #[.pointer (some ⟨P, 0, none⟩), .pointer (some ⟨R, 0, none⟩), actV k oB nB cB c N] W fun r W' => r = .returned (.bool true) ∧ Goes2 w W' P R := by
  have HP : Hid (∀ X, Calls Try.prog 15 #[.int .i64 k, .int .i64 6] X fun r W' => r = .returned (.int .i64 2) ∧ W' = X) := fun X => by have := pick_c k X; rwa [hk] at this
  have H1 : Hid (Sc w (W.alloc (.cells #[.int .i64 k, .slice oB nB cB, .int .u8 c, .int .i64 N] 34)) F G P R s) := h.on (below1 W _)
  have hc0 := (Blk.new W #[.int .i64 k, .slice oB nB cB, .int .u8 c, .int .i64 N] 34).cell 0 _ rfl
  obtain ⟨x, y, hxy⟩ : ∃ x y, getB s = x ∧ eofN s = y := ⟨_, _, rfl, rfl⟩
  have HE : Hid (getB s = x ∧ eofN s = y) := hxy
  clear hxy
  clear h hk
  unfold actV
  go_enter Try.func17, Try.ntmps17
  go_wp2_with (go_at_call 15; fail)
  refine (HP.out _).mono ?_
  rintro r w1 ⟨rfl, rfl⟩
  clear hc0
  go_wp2_with (go_at_call 10; fail)
  refine (H1.out.putP (v := .tuple #[.int .u8 x, .int .i64 y, .int .i64 0]) (getS_ok H1.out.ok) (by rw [← HE.out.1, ← HE.out.2]; exact H1.out.p.get H1.out.ok)).mono ?_
  rintro r w2 ⟨rfl, -, F', h2, -⟩
  have H2 : Hid (Sb w w2 F' G P R s (getS s)) := h2
  clear h2
  go_wp2_with (go_at_call 29; fail)
  refine (H2.out.putR (v := .tuple #[.int .u8 x, .int .i64 y]) (by rw [← HE.out.1, ← HE.out.2]; exact H2.out.r.get H2.out.ok)).mono ?_
  rintro r w3 ⟨rfl, -, h3⟩
  have H3 : Hid (Goes2 w w3 P R) := h3
  clear h3
  go_wp2
  go_ret
  exact ⟨rfl, H3.out⟩
set_option maxHeartbeats 8000000 in
set_option maxRecDepth 100000 in
theorem act3_c (h : Sc w W F G P R s) (k : Int) (hk : pickM k = 3) (oB : Option Addr) (nB cB : Nat) (c N : Int) : Calls Try.prog 17 #[.pointer (some ⟨P, 0, none⟩), .pointer (some ⟨R, 0, none⟩), actV k oB nB cB c N] W fun r W' => r = .returned (.bool true) ∧ Goes2 w W' P R := by
  have HP : Hid (∀ X, Calls Try.prog 15 #[.int .i64 k, .int .i64 6] X fun r W' => r = .returned (.int .i64 3) ∧ W' = X) := fun X => by have := pick_c k X; rwa [hk] at this
  have H1 : Hid (Sc w (W.alloc (.cells #[.int .i64 k, .slice oB nB cB, .int .u8 c, .int .i64 N] 34)) F G P R s) := h.on (below1 W _)
  have hc0 := (Blk.new W #[.int .i64 k, .slice oB nB cB, .int .u8 c, .int .i64 N] 34).cell 0 _ rfl
  obtain ⟨y, hy⟩ : ∃ y, eofN s = y := ⟨_, rfl⟩
  have HE : Hid (eofN s = y) := hy
  clear hy
  clear h hk
  unfold actV
  go_enter Try.func17, Try.ntmps17
  go_wp2_with (go_at_call 15; fail)
  refine (HP.out _).mono ?_
  rintro r w1 ⟨rfl, rfl⟩
  clear hc0
  go_wp2_with (go_at_call 19; fail)
  have HP1 : Hid (Calls Try.prog 19 #[.pointer (some ⟨P, 0, none⟩)] (W.alloc (.cells #[.int .i64 k, .slice oB nB cB, .int .u8 c, .int .i64 N] 34)) fun r W' => r = .returned (.tuple #[.int .i64 y, .int .i64 0]) ∧ Below (W.alloc (.cells #[.int .i64 k, .slice oB nB cB, .int .u8 c, .int .i64 N] 34)).heap.size (W.alloc (.cells #[.int .i64 k, .slice oB nB cB, .int .u8 c, .int .i64 N] 34)) W') := by rw [← HE.out]; exact H1.out.p.eof
  refine HP1.out.mono ?_
  rintro r w2 ⟨rfl, h2⟩
  have H2 : Hid (Sc w w2 F G P R s) := H1.out.on h2
  clear h2 HP1
  go_wp2_with (go_at_call 30; fail)
  have HP2 : Hid (Calls Try.prog 30 #[.pointer (some ⟨R, 0, none⟩)] w2 fun r W' => r = .returned (.int .i64 y) ∧ Below w2.heap.size w2 W') := by rw [← HE.out]; exact H2.out.r.eof H2.out.ok
  refine HP2.out.mono ?_
  rintro r w3 ⟨rfl, h3⟩
  have H3 : Hid (Goes2 w w3 P R) := ⟨_, _, _, H2.out.on h3⟩
  clear h3 HP2
  go_wp2
  go_ret
  exact ⟨rfl, H3.out⟩
end
end Go.Proofs.Ytkjbdjobglnphaa
