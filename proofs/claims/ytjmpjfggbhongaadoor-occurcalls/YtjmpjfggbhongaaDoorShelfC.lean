/-
  Texts without repeats, laid at this program.
-/
import Derived.Shelf.Slices.CompactS
import Derived.Test.YtjmpjfggbhongaaDoorProg
namespace Go.Proofs
open Go.Shelf
def Tryd.hLaysn194_ren : Go.Shelf.Ren := ⟨fun | 194 => 110 | n => n, fun | 0 => 0 | 3 => 3 | 4 => 4 | 9 => 9 | 31 => 24 | n => n, fun  | n => n⟩
theorem Tryd.hLaysn194 : Go.Proofs.Lays.n194 Tryd.prog Tryd.hLaysn194_ren := {
  mixed := by kernel_rfl
  f194 := Tryd.func110.trans (congrArg some (by kernel_rfl))
  t0 := Tryd.underlying0
  a0 := Tryd.isAgg0
  z0 := Tryd.sizeOf0
  v0 := Tryd.zeroValue0
  t3 := Tryd.underlying3
  a3 := Tryd.isAgg3
  z3 := Tryd.sizeOf3
  v3 := Tryd.zeroValue3
  t4 := Tryd.underlying4
  a4 := Tryd.isAgg4
  z4 := Tryd.sizeOf4
  v4 := Tryd.zeroValue4
  t9 := Tryd.underlying9
  a9 := Tryd.isAgg9
  z9 := Tryd.sizeOf9
  v9 := Tryd.zeroValue9
  t31 := Tryd.underlying24
  a31 := Tryd.isAgg24
  z31 := Tryd.sizeOf24
  v31 := Tryd.zeroValue24 }
open Go.RowKit Go.Sort Go.Lib in
theorem Tryd.slices_Compact (blk off cap : Nat) (d : Array (List UInt8)) (w : World) (hH : Holds encStr w blk off d) (hsz : d.size ≤ 9223372036854775807) (hcap : d.size ≤ cap) :
    Calls Tryd.prog 110 #[.slice (some ⟨blk, off, none⟩) d.size cap] w fun e w' => e = .returned (.slice (some ⟨blk, off, none⟩) (compactUpTo d d.size).length cap) ∧ ∃ q, w' = putRow encStr (Sort.ahead w q) blk off (compactUpTo d d.size ++ List.replicate (d.size - (compactUpTo d d.size).length) []).toArray := Any.slices_Compact_string_arr Tryd.hLaysn194 blk off cap d w hH hsz hcap
open Go.RowKit Go.Sort Go.Lib in
theorem Tryd.slices_Compact_empty (a : Option Addr) (cap : Nat) (w : World) :
    Calls Tryd.prog 110 #[.slice a 0 cap] w fun e w' => e = .returned (.slice a 0 cap) ∧ w' = w := Any.slices_Compact_string_empty Tryd.hLaysn194 a cap w
end Go.Proofs
