/-
  The library's reading of digits (base 10 and 16; 63 and 8 bits), by contracts.
-/
import Derived.Test.YtndpebkiiemfpaaGreatDoorPass3
import Derived.Test.YtndpebkiiemfpaaGreatDoorShelf2
import Derived.Lib.ConvBytes
import Derived.Lib.AtoiErrMem
import Derived.Lib.ParseIntBMem
import Derived.Lib.Hide
import Derived.Laws.Strings3
import Derived.Laws.Closers25
import Derived.Laws.Closers25b
import Derived.BigCall
import Derived.BigGuard
namespace Go.Proofs.YtndpebkiiemfpaaGreatDoor
open Go.RowKit Go.Shelf
set_option linter.unusedVariables false

/-- Digits read one by one, up to a greatest number. -/
def parse (base mv : Nat) : Nat → List UInt8 → Option Nat
  | acc, [] => some acc
  | acc, b :: l => if mv < acc * base + M.hexv b then none else parse base mv (acc * base + M.hexv b) l
theorem val_ge (base : Nat) (hb : 1 ≤ base) : ∀ (l : List UInt8) (a : Nat), a ≤ M.val base a l
  | [], a => Nat.le_refl _
  | b :: l, a => by
    have := val_ge base hb l (a * base + M.hexv b)
    have h2 : a ≤ a * base := Nat.le_mul_of_pos_right a hb
    show a ≤ M.val base (a * base + M.hexv b) l
    omega
theorem parse_eq (base mv : Nat) (hb : 1 ≤ base) : ∀ (l : List UInt8) (a : Nat), a ≤ mv → parse base mv a l = if mv < M.val base a l then none else some (M.val base a l)
  | [], a, h => by
    show some a = if mv < a then none else some a
    rw [if_neg (by omega)]
  | b :: l, a, h => by
    show (if mv < a * base + M.hexv b then none else parse base mv (a * base + M.hexv b) l) = if mv < M.val base (a * base + M.hexv b) l then none else some (M.val base (a * base + M.hexv b) l)
    by_cases h1 : mv < a * base + M.hexv b
    · have := val_ge base hb l (a * base + M.hexv b)
      rw [if_pos h1, if_pos (by omega)]
    · rw [if_neg h1, parse_eq base mv hb l _ (by omega)]
theorem low_hex (c : UInt8) (h : M.hexB c = true) (h2 : ¬ c.toNat ≤ 57) : bits .or .u8 (c.toNat : Int) 32 = ((M.hexv c + 87 : Nat) : Int) ∧ 10 ≤ M.hexv c ∧ M.hexv c ≤ 15 ∧ 65 ≤ c.toNat ∧ c.toNat ≤ 102 ∧ ¬ c.toNat = 95 := by
  have := M.all256 (fun c => decide (M.hexB c = true → ¬ c.toNat ≤ 57 → bits .or .u8 (c.toNat : Int) 32 = ((M.hexv c + 87 : Nat) : Int) ∧ 10 ≤ M.hexv c ∧ M.hexv c ≤ 15 ∧ 65 ≤ c.toNat ∧ c.toNat ≤ 102 ∧ ¬ c.toNat = 95)) (by decide +kernel) c
  exact of_decide_eq_true this h h2
theorem dig_low (base : Nat) (c : UInt8) (h : M.dig base c = true) (h2 : c.toNat ≤ 57) : M.hexv c = c.toNat - 48 ∧ 48 ≤ c.toNat := by
  have : 48 ≤ c.toNat := by
    unfold M.dig at h
    split at h
    · simp [M.hexB] at h; omega
    · simp [M.digB] at h; omega
  exact ⟨by unfold M.hexv; rw [if_pos h2], this⟩
theorem dig10_low (c : UInt8) (h : M.dig 10 c = true) : c.toNat ≤ 57 := by
  have h' : M.digB c = true := h
  simp [M.digB] at h'; omega
theorem bytes_below (w : World) (t : ByteArray) : Below w.heap.size w (Lib.bytesWorld w 5 t) := Lib.bytesWorld_below _ _ _
def rangeV (mv : Int) : Value := .tuple #[.int .u64 mv, .iface 199 (.int .i64 1)]
def parsed (mv : Int) : Option Nat → Value
  | some x => .tuple #[.int .u64 (x : Int), .nilIface]
  | none => rangeV mv

end Go.Proofs.YtndpebkiiemfpaaGreatDoor
