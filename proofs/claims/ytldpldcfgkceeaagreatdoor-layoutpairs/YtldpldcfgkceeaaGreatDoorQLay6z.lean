/-
  Layout: what comes where no mark stands ahead, put together.
-/
import Derived.Test.YtldpldcfgkceeaaGreatDoorQLay6a
import Derived.Test.YtldpldcfgkceeaaGreatDoorQLay6b
import Derived.Test.YtldpldcfgkceeaaGreatDoorQLay6c
import Derived.Test.YtldpldcfgkceeaaGreatDoorQLay6d
import Derived.Test.YtldpldcfgkceeaaGreatDoorQLay6e
namespace Go.Proofs.YtldpldcfgkceeaaGreatDoor
open Go.RowKit Go.Shelf Go.Maps
set_option linter.unusedVariables false

theorem plainTok_c (P e : Nat) (s : L.S) (n : Nat) (ov : Option Addr) (cv : Nat) (bv : Value) (hbl : s.blocks.length ≤ 100000) (w : World) (h : Strm w P e s n ov cv bv) (k : Nat) (tx : List UInt8) (num pos line tc : Nat) (first : Bool) (l : List M.Tk) (ht : s.toks = ⟨⟨k, tx, num⟩, pos, line, tc, first⟩ :: l) (hn2 : n ≤ 100000) :
    Calls Tryz.prog 168 #[.agg #[], .pointer (some ⟨P, 0, none⟩)] w fun r W' => r = .returned (turnV (L.plainNext e s.toks s.blocks)) ∧ Below w.heap.size w W' := by
  cases hm1 : L.isMark ⟨⟨k, tx, num⟩, pos, line, tc, first⟩ [123] with
  | true => exact plainTokA_c P e s n ov cv bv hbl w h k tx num pos line tc first l ht hn2 hm1
  | false =>
    cases hm2 : L.isMark ⟨⟨k, tx, num⟩, pos, line, tc, first⟩ [125] with
    | false => exact plainTokB_c P e s n ov cv bv hbl w h k tx num pos line tc first l ht hn2 hm1 hm2
    | true =>
      by_cases hbz : s.blocks = []
      · exact plainTokC_c P e s n ov cv bv hbl w h k tx num pos line tc first l ht hn2 hm1 hm2 hbz
      · by_cases hc0 : 0 < L.col s.blocks
        · exact plainTokD_c P e s n ov cv bv hbl w h k tx num pos line tc first l ht hn2 hm1 hm2 hbz hc0
        · exact plainTokE_c P e s n ov cv bv hbl w h k tx num pos line tc first l ht hn2 hm1 hm2 hbz hc0

end Go.Proofs.YtldpldcfgkceeaaGreatDoor
