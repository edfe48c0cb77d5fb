/-
  The document's reading of escaped characters, by contracts.
-/
import Derived.Test.YtpidccdgkkcljaaGreatDoorRef7
import Derived.Test.YtpidccdgkkcljaaGreatDoorRef7b
namespace Go.Proofs.YtpidccdgkkcljaaGreatDoor
open Go.RowKit Go.Shelf
set_option linter.unusedVariables false

theorem rChar34_c (s : ByteArray) (a : Nat) (hs : s.size ≤ 70000) (ha : a ≤ s.size) (w : World) :
    Calls Tryz.prog 98 #[.string s, .int .i64 (a : Int), .int .u8 34] w fun e w' => e = .returned (charV (M.charR 34 (s.data.toList.drop a))) ∧ Below w.heap.size w w' := by
  by_cases h : ∃ h : a + 1 < s.size, s[a].toNat = 92
  · obtain ⟨h1, h2⟩ := h
    exact rChar34_b s a hs h1 h2 w
  · refine rChar34_a s a hs ha w (fun h1 => ?_)
    by_cases h2 : a + 1 < s.size
    · exact .inr (.inr (.inl (fun h3 => h ⟨h2, h3⟩)))
    · exact .inr (.inr (.inr (by omega)))

theorem rChar39_c (s : ByteArray) (a : Nat) (hs : s.size ≤ 70000) (ha : a ≤ s.size) (w : World) :
    Calls Tryz.prog 98 #[.string s, .int .i64 (a : Int), .int .u8 39] w fun e w' => e = .returned (charV (M.charR 39 (s.data.toList.drop a))) ∧ Below w.heap.size w w' := by
  by_cases h : ∃ h : a + 1 < s.size, s[a].toNat = 92
  · obtain ⟨h1, h2⟩ := h
    exact rChar39_b s a hs h1 h2 w
  · refine rChar39_a s a hs ha w (fun h1 => ?_)
    by_cases h2 : a + 1 < s.size
    · exact .inr (.inr (.inl (fun h3 => h ⟨h2, h3⟩)))
    · exact .inr (.inr (.inr (by omega)))

end Go.Proofs.YtpidccdgkkcljaaGreatDoor
