/-
  maps.Keys over maps of names, laid at this program; the keys of the two maps.
-/
import Derived.Test.YtijafedpaghhaaaDoorNa
import Derived.Shelf.SlIter.Keys
namespace Go.Proofs.YtijafedpaghhaaaDoor
open Go.RowKit Go.Shelf Go.Maps Go.Sort
set_option linter.unusedVariables false

def Tryd.keysP_ren : Go.Shelf.Ren := ⟨fun | 7 => 24 | 10 => 37 | n => n, fun | 0 => 0 | 3 => 49 | 4 => 4 | 23 => 46 | 26 => 9 | 27 => 43 | 28 => 44 | 33 => 36 | n => n, fun n => n⟩
theorem Tryd.keysP : Go.Proofs.SlLaysZ.n7 Tryd.prog Tryd.keysP_ren := {
  mixed := by kernel_rfl
  f7 := ⟨Tryd.f24.name, by kernel_rfl, Tryd.func24.trans (congrArg some (by kernel_rfl))⟩
  f10 := ⟨Tryd.f37.name, by kernel_rfl, Tryd.func37.trans (congrArg some (by kernel_rfl))⟩
  t0 := Tryd.underlying0
  a0 := Tryd.isAgg0
  z0 := Tryd.sizeOf0
  v0 := Tryd.zeroValue0
  t4 := Tryd.underlying4
  a4 := Tryd.isAgg4
  z4 := Tryd.sizeOf4
  v4 := Tryd.zeroValue4
  t23 := Tryd.underlying46
  a23 := Tryd.isAgg46
  z23 := Tryd.sizeOf46
  v23 := Tryd.zeroValue46
  t26 := Tryd.underlying9
  a26 := Tryd.isAgg9
  z26 := Tryd.sizeOf9
  v26 := Tryd.zeroValue9
  t27 := Tryd.underlying43
  a27 := Tryd.isAgg43
  z27 := Tryd.sizeOf43
  v27 := Tryd.zeroValue43
  t28 := Tryd.underlying44
  a28 := Tryd.isAgg44
  z28 := Tryd.sizeOf44
  v28 := Tryd.zeroValue44
  t33 := Tryd.underlying36
  a33 := Tryd.isAgg36
  z33 := Tryd.sizeOf36
  v33 := Tryd.zeroValue36 }
def Tryd.keysI_ren : Go.Shelf.Ren := ⟨fun | 7 => 26 | 10 => 56 | n => n, fun | 0 => 0 | 3 => 3 | 4 => 4 | 23 => 52 | 26 => 9 | 27 => 43 | 28 => 44 | 33 => 36 | n => n, fun n => n⟩
theorem Tryd.keysI : Go.Proofs.SlLaysZ.n7 Tryd.prog Tryd.keysI_ren := {
  mixed := by kernel_rfl
  f7 := ⟨Tryd.f26.name, by kernel_rfl, Tryd.func26.trans (congrArg some (by kernel_rfl))⟩
  f10 := ⟨Tryd.f56.name, by kernel_rfl, Tryd.func56.trans (congrArg some (by kernel_rfl))⟩
  t0 := Tryd.underlying0
  a0 := Tryd.isAgg0
  z0 := Tryd.sizeOf0
  v0 := Tryd.zeroValue0
  t4 := Tryd.underlying4
  a4 := Tryd.isAgg4
  z4 := Tryd.sizeOf4
  v4 := Tryd.zeroValue4
  t23 := Tryd.underlying52
  a23 := Tryd.isAgg52
  z23 := Tryd.sizeOf52
  v23 := Tryd.zeroValue52
  t26 := Tryd.underlying9
  a26 := Tryd.isAgg9
  z26 := Tryd.sizeOf9
  v26 := Tryd.zeroValue9
  t27 := Tryd.underlying43
  a27 := Tryd.isAgg43
  z27 := Tryd.sizeOf43
  v27 := Tryd.zeroValue43
  t28 := Tryd.underlying44
  a28 := Tryd.isAgg44
  z28 := Tryd.sizeOf44
  v28 := Tryd.zeroValue44
  t33 := Tryd.underlying36
  a33 := Tryd.isAgg36
  z33 := Tryd.sizeOf36
  v33 := Tryd.zeroValue36 }

/-- The names of a map's entries. -/
def names (L : List (List UInt8 × Value)) : List (List UInt8) := L.map Prod.fst
theorem MapIs.perm {W : World} {b c : Nat} {L : List (List UInt8 × Value)} {D : DataW Value} (hown : W.ownsMap Tryd.prog 9 heldElem b c D) (hh : ∀ x : List UInt8, Maps.has D (.string x) = (L.find? (fun p => p.1 == x)).isSome) (hnd : (names L).Nodup) : (names L).Perm (strKeys D) := by
  refine Collected.perm (left := fun _ => false) ⟨hnd, fun x => ?_⟩ hown (string_keyed Tryd.underlying9) Tryd.underlying9 (fun _ => rfl)
  rw [hh x]
  simp [names, List.find?_isSome]
theorem size_keys {W : World} {b c : Nat} {L : List (List UInt8 × Value)} {D : DataW Value} (hown : W.ownsMap Tryd.prog 9 heldElem b c D) : Maps.size D ≤ c := hown.size_le

theorem keysP_in (F : Fence) (n : Nat) (hF : ∀ k, F.fn k) (hro : F.round = none) (b : Nat) (w : World) :
    CallsIn F n Tryd.prog 24 #[.map (some b)] w fun e w' => e = .returned (.func (.func 37) #[] #[.pointer (some ⟨w.heap.size, 0, none⟩)]) ∧ w' = w.alloc (.cells #[.map (some b)] 46) :=
  AnyZ.keys_in Tryd.keysP F n (hF _) hro (some b) w
theorem keysP_stops (F : Fence) (n : Nat) (hF : ∀ k, F.fn k) (hro : F.round = none) (hn : 1 ≤ n) (L : List (List UInt8 × Value)) (hnd : (names L).Nodup) (b c : Nat) (w : World) (h : MapIs w b c L) :
    SeqStops F n Tryd.prog 37 #[.pointer (some ⟨w.heap.size, 0, none⟩)] encStr (fun ss => ss.Perm (names L)) (fun _ => True) c (w.alloc (.cells #[.map (some b)] 46)) := by
  obtain ⟨D, hown, hD, hall⟩ := h
  have hp := MapIs.perm hown (fun x => (hall x).1) hnd
  have hs := hown.size_le
  have hk := AnyZ.keys_stops (ρ := Tryd.keysP_ren) { Tryd.keysP with } F n (hF _) hro hn w.heap.size b c D (w.alloc (.cells #[.map (some b)] 46)) (by simp) (by simp) (hown.alloc _)
  intro l J Jx W hW hJ hJx hY h0
  refine (hk l J Jx W hW hJ hJx (fun pre x W1 hj hl => hY pre x W1 hj (Nat.lt_of_lt_of_le hl hs)) h0).mono ?_
  rintro e W' ⟨hv, h | h⟩
  · obtain ⟨xs, hS, hj⟩ := h
    exact ⟨hv, .inl ⟨xs, hS.1.trans hp.symm, hj⟩⟩
  · obtain ⟨pre, _, hj⟩ := h
    exact ⟨hv, .inr ⟨pre, trivial, hj⟩⟩
theorem keysI_in (F : Fence) (n : Nat) (hF : ∀ k, F.fn k) (hro : F.round = none) (b : Nat) (w : World) :
    CallsIn F n Tryd.prog 26 #[.map (some b)] w fun e w' => e = .returned (.func (.func 56) #[] #[.pointer (some ⟨w.heap.size, 0, none⟩)]) ∧ w' = w.alloc (.cells #[.map (some b)] 52) :=
  AnyZ.keys_in Tryd.keysI F n (hF _) hro (some b) w
theorem keysI_stops (F : Fence) (n : Nat) (hF : ∀ k, F.fn k) (hro : F.round = none) (hn : 1 ≤ n) (L : List (List UInt8 × Value)) (hnd : (names L).Nodup) (b c : Nat) (w : World) (h : MapIs w b c L) :
    SeqStops F n Tryd.prog 56 #[.pointer (some ⟨w.heap.size, 0, none⟩)] encStr (fun ss => ss.Perm (names L)) (fun _ => True) c (w.alloc (.cells #[.map (some b)] 52)) := by
  obtain ⟨D, hown, hD, hall⟩ := h
  have hp := MapIs.perm hown (fun x => (hall x).1) hnd
  have hs := hown.size_le
  have hk := AnyZ.keys_stops (ρ := Tryd.keysI_ren) { Tryd.keysI with } F n (hF _) hro hn w.heap.size b c D (w.alloc (.cells #[.map (some b)] 52)) (by simp) (by simp) (hown.alloc _)
  intro l J Jx W hW hJ hJx hY h0
  refine (hk l J Jx W hW hJ hJx (fun pre x W1 hj hl => hY pre x W1 hj (Nat.lt_of_lt_of_le hl hs)) h0).mono ?_
  rintro e W' ⟨hv, h | h⟩
  · obtain ⟨xs, hS, hj⟩ := h
    exact ⟨hv, .inl ⟨xs, hS.1.trans hp.symm, hj⟩⟩
  · obtain ⟨pre, _, hj⟩ := h
    exact ⟨hv, .inr ⟨pre, trivial, hj⟩⟩

def othL : List (List UInt8 × Value) := [([101, 120, 105, 116], .int .i64 0), ([101, 111, 102], .int .i64 0), ([112, 117, 116, 99], .int .i64 0), ([103, 101, 116, 99], .int .i64 0), ([98, 105, 110, 100], .int .i64 0), ([114, 101, 116], .int .i64 0), ([115, 104, 111, 119], .int .i64 1), ([101, 114, 114, 111, 114], .int .i64 0), ([115, 101, 113], .int .i64 1)]
set_option maxHeartbeats 4000000 in
set_option maxRecDepth 100000 in
theorem others_c (w : World) : Calls Tryd.prog 27 #[] w fun e W' => e = .returned (.map (some w.heap.size)) ∧ MapIs W' w.heap.size 9 othL ∧ Below w.heap.size w W' := by
  go_enter Tryd.func27, Tryd.ntmps27
  go_wp2_with (first
    | (refine wpList_makeMap' _ rfl _ rfl ?_; have hown : Hid (MapIs (w.alloc (.map #[] 0)) w.heap.size 0 []) := mapIs_new w; have hB : Hid (Below w.heap.size w (w.alloc (.map #[] 0))) := below1 w _)
    | (refine hown.out.ins rfl _ _ _ _ 3 rfl Tryd.underlying52 (by decide) rfl _ (by decide) _ rfl rfl ?_; intro w1 hown1 hgrow1; clear hown; have hown : Hid (MapIs _ _ _ _) := hown1; clear hown1; have hB1 : Hid (Below _ _ _) := hB.out.grown hgrow1 hB.out.size (fun k hk => by cases hk; exact Nat.le_refl _); clear hB hgrow1; have hB := hB1; clear hB1))
  go_ret
  exact ⟨rfl, hown.out, hB.out⟩
theorem tab_nodup : (names tabL).Nodup := by decide
theorem oth_nodup : (names othL).Nodup := by decide
set_option maxRecDepth 100000 in
set_option maxHeartbeats 1000000 in
theorem collect_in (F : Fence) (n : Nat) (hF : ∀ k, F.fn k) (hro : F.round = none) (hn : 4 ≤ n) (g : Nat) (lb : Array Value) (eg : ∀ args w, (callFunc g args).run Tryd.prog w = .ok (.enter g args) w)
    (S Sp : List (List UInt8) → Prop) (N : Nat) (hN : N ≤ 1000000) (w : World) (hseq : SeqStops F (n - 1 - 1) Tryd.prog g lb encStr S Sp N w) :
    CallsIn F n Tryd.prog 23 #[.func (.func g) #[] lb] w fun e W' => ∃ (v : Value) (ss : List (List UInt8)), e = .returned v ∧ S ss ∧ W'.ownsRow w.heap.size 9 1 v ss.length (ss.map encStr) ∧ Below w.heap.size w W' := by
  have hfs : ∀ k, F.fn k := hF
  refine callsIn_of_wp Tryd.func23 rfl (hF _) ?_ hro
  simp only [Tryd.ntmps23, List.size_toArray, List.length_cons, List.length_nil, Nat.reduceAdd, Nat.reduceSub, Array.replicate_succ, Array.replicate_zero, List.push_toArray, List.append_toArray, List.nil_append, List.cons_append]
  have h1 : 1 ≤ n := by omega
  gi_wp2_with (gi_at_call 22; refine (appendSeq_in F (n - 1) hF hro (by omega) (by omega) w.heap.size (.slice none 0 0) 0 [] g lb eg S Sp N (by omega) w (Nat.le_refl _) (World.ownsRow_nil _ _ _ _) hseq).mono ?_; rintro e w' ⟨v, ss, rfl, hS, hrow, hb⟩)
  go_ret
  exact ⟨v, ss, rfl, hS, by simpa using hrow, hb⟩
end Go.Proofs.YtijafedpaghhaaaDoor
