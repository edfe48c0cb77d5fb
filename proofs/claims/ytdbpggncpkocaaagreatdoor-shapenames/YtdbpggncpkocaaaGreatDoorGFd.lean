/-
  The constructors that are in each program, by a contract.
  Package shape: constructors found by a map, by contracts.
  Package shape: Find, by a contract.
-/
import Derived.Test.YtdbpggncpkocaaaGreatDoorGSt
import Derived.Deep.LoopGhost
import Derived.RangeFuncNested
import Derived.RangeFuncBound
import Derived.RangeFuncCalls
import Derived.RangeFuncLeaves
import Derived.Shelf.Abstract
import Derived.Shelf.RegionOpen
import Derived.WalkKit
import Derived.OwnWalkIn
import Derived.TacticsInMore
import Derived.LoopNIn
import Derived.LoopIn
import Derived.Maps.OwnIn
namespace Go.Proofs.YtdbpggncpkocaaaGreatDoor
open Go.RowKit Go.Shelf Go.Sort
set_option linter.unusedVariables false

theorem small_c (k : Nat) (hk : k = 2 ∨ k = 3 ∨ k = 4) (w : World) : Calls Tryz.prog 66 #[.int .i64 k] w fun e w' => e = .returned (.string ⟨#[(48 + k).toUInt8]⟩) ∧ w' = w := by
  rcases hk with rfl | rfl | rfl
  all_goals (go_enter Tryz.func66, Tryz.ntmps66; go_wp2; go_ret; exact ⟨rfl, rfl⟩)
theorem formatInt_c (k : Nat) (hk : k = 2 ∨ k = 3 ∨ k = 4) (w : World) : Calls Tryz.prog 52 #[.int .i64 k, .int .i64 10] w fun e w' => e = .returned (.string ⟨#[(48 + k).toUInt8]⟩) ∧ w' = w := by
  have HC := small_c k hk
  rcases hk with rfl | rfl | rfl
  all_goals (go_enter Tryz.func52, Tryz.ntmps52; go_wp2_with (go_at_call 66; refine (HC _).mono ?_; rintro e w' ⟨rfl, hw⟩; rw [hw]); go_ret; exact ⟨rfl, rfl⟩)
theorem itoa2_c (k : Nat) (hk : k = 2 ∨ k = 3 ∨ k = 4) (w : World) : Calls Tryz.prog 40 #[.int .i64 k] w fun e w' => e = .returned (.string ⟨#[(48 + k).toUInt8]⟩) ∧ w' = w := by
  have HC := formatInt_c k hk
  rcases hk with rfl | rfl | rfl
  all_goals (go_enter Tryz.func40, Tryz.ntmps40; go_wp2_with (go_at_call 52; refine (HC _).mono ?_; rintro e w' ⟨rfl, hw⟩; rw [hw]); go_ret; exact ⟨rfl, rfl⟩)
theorem itoa_c (k : Nat) (hk : k = 2 ∨ k = 3 ∨ k = 4) (w : World) : Calls Tryz.prog 28 #[.int .i64 k] w fun e w' => e = .returned (.string ⟨#[(48 + k).toUInt8]⟩) ∧ w' = w := by
  have HC := itoa2_c k hk
  rcases hk with rfl | rfl | rfl
  all_goals (go_enter Tryz.func28, Tryz.ntmps28; go_wp2_with (go_at_call 40; refine (HC _).mono ?_; rintro e w' ⟨rfl, hw⟩; rw [hw]); go_ret; exact ⟨rfl, rfl⟩)
def b5L : List CT := [(⟨#[70, 97, 108, 115, 101]⟩, 0, ⟨#[66, 111, 111, 108]⟩, 0), (⟨#[84, 114, 117, 101]⟩, 0, ⟨#[66, 111, 111, 108]⟩, 1), (⟨#[78, 105, 108]⟩, 0, ⟨#[76, 105, 115, 116]⟩, 0), (⟨#[67, 111, 110, 115]⟩, 2, ⟨#[76, 105, 115, 116]⟩, 1), (⟨#[85, 110, 105, 116]⟩, 0, ⟨#[85, 110, 105, 116]⟩, 0)]
def tup2 : CT := (⟨#[84, 117, 112, 50]⟩, 2, ⟨#[84, 117, 112, 50]⟩, 0)
def tup3 : CT := (⟨#[84, 117, 112, 51]⟩, 3, ⟨#[84, 117, 112, 51]⟩, 0)
def tup4 : CT := (⟨#[84, 117, 112, 52]⟩, 4, ⟨#[84, 117, 112, 52]⟩, 0)
def biL : List CT := b5L ++ [tup2] ++ [tup3] ++ [tup4]
set_option maxRecDepth 100000 in
theorem coreB_c (w : World) : Calls Tryz.prog 27 #[] w fun e w' => e = .returned (.slice (some ⟨w.heap.size, 0, none⟩) 5 5) ∧ w' = w.alloc (.cells (flatC b5L).toArray 38) := by
  go_enter Tryz.func27, Tryz.ntmps27
  go_wp2
  go_ret
  exact ⟨rfl, rfl⟩
theorem b5_row (w : World) : ConsRow (w.alloc (.cells (flatC b5L).toArray 38)) w.heap.size (.slice (some ⟨w.heap.size, 0, none⟩) 5 5) b5L :=
  ⟨rfl, .inr ⟨w.heap.size, 5, (flatC b5L).toArray, rfl, Nat.le_refl _, Blk.new w _ _, Nat.le_refl _, by decide, rfl, rfl⟩⟩
def cnZ : Value := .agg #[.string ⟨#[]⟩, .int .i64 0, .string ⟨#[]⟩, .int .i64 0]
theorem infoCn : (Tryz.prog.info? 38).map (fun i => (i.zero, i.size, i.bytes)) = some (some cnZ, 4, 48) := by kernel_rfl
theorem infoCn' : ∃ i, Tryz.prog.info? 38 = some i ∧ i.zero = some cnZ ∧ i.size = 4 ∧ i.bytes = 48 := by
  have h := infoCn
  cases hi : Tryz.prog.info? 38 with
  | none => rw [hi] at h; cases h
  | some i =>
    rw [hi] at h
    simp only [Option.map_some, Option.some.injEq, Prod.mk.injEq] at h
    exact ⟨i, rfl, h.1, h.2.1, h.2.2⟩
/-- A constructor appended to a row of them. -/
theorem appendC {ops : Array Oper} {rest : List Oper} {o : Oper} {a : Act} {Q : Exit → Act → World → Prop} {w : World} (hgd : o.guard = none) (s x : Operand)
    (ho : o.op = .call { callee := .builtin .append, args := #[s, x], argTypes := #[23, 23] }) (base : Nat) (v : Value) (l : List CT) (c : CT) (g : Nat) (hs : a.eval s = v) (hown : ConsRow w base v l) (hx : a.eval x = .slice (some ⟨g, 0, none⟩) 1 1) (hg : Blk w g (cnC c).toArray 38) (hl : l.length ≤ 2000000) (hbase : base ≤ w.heap.size)
    (h : ∀ v' w', ConsRow w' base v' (l ++ [c]) → w.grownBy w' v.ownBlock → (v'.ownBlock = v.ownBlock ∨ v'.ownBlock = some w.heap.size) → wpList Tryz.prog ops Q rest (a.put o.dst v') w') : wpList Tryz.prog ops Q (o :: rest) a w := by
  obtain ⟨i, h1, h2, h3, h4⟩ := infoCn'
  refine wpList_append_own_at w hgd s x 23 ho base 38 i _ 4 48 Tryz.underlying23 h1 h2 h3 h4 rfl (by decide) v l.length (flatC l) hs hown ⟨g, 0, none⟩ 1 1 (cnC c) hx rfl (fun j u hu => ?_) (cnC_one c) (by unfold maxLen; omega) (by omega) hbase ?_
  · have := hg.cell j u (by simpa using hu)
    rw [Addr.add_lit, Nat.zero_add]
    exact this
  · intro v' w' h5 h6 _ h7
    refine h v' w' ?_ h6 h7
    have e : flatC (l ++ [c]) = flatC l ++ cnC c := by simp [flatC]
    show w'.ownsRow base 38 4 v' (l ++ [c]).length (flatC (l ++ [c]))
    rw [e, List.length_append]
    exact h5
def tupsL : List CT := [tup2, tup3, tup4]
/-- Where the loop of Builtin stands. -/
def Bst (w : World) (pb k : Nat) (v : Value) (wr : World) : Prop := ConsRow wr w.heap.size v (b5L ++ tupsL.take k) ∧ Blk wr pb #[.int .i64 2, .int .i64 3, .int .i64 4] 3 ∧ Below w.heap.size w wr ∧ ∀ r, v.ownBlock = some r → r ≠ pb ∧ r < wr.heap.size
theorem ConsRow.lt {W : World} {base : Nat} {v : Value} {l : List CT} (h : ConsRow W base v l) {r : Nat} (hr : v.ownBlock = some r) : r < W.heap.size ∧ base ≤ r := by
  rcases h.2 with ⟨rfl, h0⟩ | ⟨g, cap, cur, rfl, h2, h3, h4, h5, h6, h7⟩
  · cases hr
  · simp only [Value.ownBlock, Option.some.injEq] at hr
    subst hr
    exact ⟨(Array.getElem?_eq_some_iff.1 h3).1, h2⟩
theorem ConsRow.below {W W' : World} {base : Nat} {v : Value} {l : List CT} (h : ConsRow W base v l) (hb : Below W.heap.size W W') : ConsRow W' base v l := by
  rcases h with ⟨hl, h | ⟨g, cap, cur, h1, h2, h3, h4⟩⟩
  · exact ⟨hl, .inl h⟩
  · exact ⟨hl, .inr ⟨g, cap, cur, h1, h2, (hb.block g (Array.getElem?_eq_some_iff.1 h3).1).trans h3, h4⟩⟩
theorem ConsRow.form {W : World} {base : Nat} {v : Value} {l : List CT} (h : ConsRow W base v l) : ∃ o cap, v = .slice o l.length cap := by
  rcases h.2 with ⟨rfl, h0⟩ | ⟨g, cap, cur, h1, _⟩
  · exact ⟨none, 0, by rw [h0]⟩
  · exact ⟨_, cap, h1⟩
/-- A step of the loop. -/
theorem Bst.step {w wr w2 : World} {pb k : Nat} {v v' : Value} {c : CT} (h : Bst w pb k v wr) (hk : tupsL[k]? = some c) (o : Obj) (h1 : ConsRow w2 w.heap.size v' (b5L ++ tupsL.take k ++ [c])) (h2 : (wr.alloc o).grownBy w2 v.ownBlock) (h3 : v'.ownBlock = v.ownBlock ∨ v'.ownBlock = some (wr.alloc o).heap.size) : Bst w pb (k + 1) v' w2 := by
  obtain ⟨r1, r2, r3, r4⟩ := h
  have hs : (wr.alloc o).heap.size = wr.heap.size + 1 := by simp
  have hlt := r2.lt
  refine ⟨?_, ?_, ?_, fun r hr => ⟨?_, (h1.lt hr).1⟩⟩
  · have e : tupsL.take (k + 1) = tupsL.take k ++ [c] := by rw [List.take_add_one, hk]; rfl
    rw [e, ← List.append_assoc]
    exact h1
  · unfold Blk
    rw [h2.block pb (by omega) (fun e => (r4 pb e.symm).1 rfl)]
    exact r2.alloc o
  · exact (r3.alloc r3.size o).grown h2 (by have := r3.size; omega) (fun j hj => (r1.lt hj).2)
  · rcases h3 with e | e
    · exact (r4 r (e ▸ hr)).1
    · rw [e] at hr; cases hr; omega
/-- What Builtin leaves. -/
def BiPost (w : World) (v : Value) (w' : World) : Prop := ∃ l, l.Perm biL ∧ Srt l ∧ ConsRow w' w.heap.size v l ∧ Below w.heap.size w w'
set_option maxRecDepth 100000 in
set_option maxHeartbeats 4000000 in
theorem builtin_c (w : World) : Calls Tryz.prog 7 #[] w fun e w' => ∃ v, e = .returned v ∧ BiPost w v w' := by
  go_enter Tryz.func7, Tryz.ntmps7
  go_wp2_with (go_at_call 27; fail)
  refine (coreB_c w).mono ?_
  rintro e w1 ⟨rfl, hw1⟩
  have HR1 : Hid (ConsRow w1 w.heap.size (.slice (some ⟨w.heap.size, 0, none⟩) 5 5) b5L) := by show ConsRow _ _ _ _; rw [hw1]; exact b5_row w
  have HB1 : Hid (Below w.heap.size w w1) := by show Below _ _ _; rw [hw1]; exact (Below.refl _ w).alloc (Nat.le_refl _) _
  have HS : Hid (w1.heap.size = w.heap.size + 1) := by show _ = _; rw [hw1]; simp
  clear hw1
  have HB0 : Hid (Bst w w1.heap.size 0 (.slice (some ⟨w.heap.size, 0, none⟩) 5 5) (w1.alloc (.cells #[.int .i64 2, .int .i64 3, .int .i64 4] 3))) := by
    have hb : Below w1.heap.size w1 (w1.alloc (.cells #[.int .i64 2, .int .i64 3, .int .i64 4] 3)) := (Below.refl _ _).alloc (Nat.le_refl _) _
    refine ⟨by simpa using HR1.out.below hb, Blk.new w1 _ _, HB1.out.trans (hb.mono HB1.out.size), fun r hr => ?_⟩
    simp only [Value.ownBlock, Option.some.injEq] at hr
    subst hr
    have := HS.out
    simp
    omega
  clear HR1
  go_wp2
  go_loopg [1, 8] 3 (fun g v1 vk wr => ∃ (o : Option Addr) (n cap k : Nat), v1 = .slice o n cap ∧ vk = .int .i64 k ∧ k ≤ 3 ∧ 3 - k ≤ g ∧ Hid (Bst w w1.heap.size k (.slice o n cap) wr))
  case atStart => exact ⟨_, _, _, 0, rfl, rfl, by omega, by omega, HB0⟩
  case round =>
    obtain ⟨o, n, cap, k, rfl, rfl, hk, hg, HI⟩ := hrel
    clear HB0
    by_cases h3 : k = 3
    · subst h3
      go_wp2_with (go_at_call 29; fail)
      refine (sortRow_c _ w.heap.size _ _ HI.out.1 (by decide) (by decide)).mono ?_
      rintro e w2 ⟨rfl, l', hp, hs, hr, hgr⟩
      have HF : Hid (BiPost w (.slice o n cap) w2) := ⟨l', hp, hs, hr, HI.out.2.2.1.grown hgr HI.out.2.2.1.size (fun j hj => (HI.out.1.lt hj).2)⟩
      clear hp hs hr hgr
      go_wp2
      go_ret
      exact ⟨_, rfl, HF.out⟩
    · have hpb := HI.out.2.1
      have p0 := hpb.cell 0 _ rfl
      have p1 := hpb.cell 1 _ rfl
      have p2 := hpb.cell 2 _ rfl
      have hlt := hpb.lt
      have HW : Hid (w.heap.size ≤ wr.heap.size) := HI.out.2.2.1.size
      clear hpb
      rcases (show k = 0 ∨ k = 1 ∨ k = 2 by omega) with rfl | rfl | rfl
      · have HT : Hid (∀ W : World, Calls Tryz.prog 28 #[.int .i64 2] W fun e w' => e = .returned (.string ⟨#[50]⟩) ∧ w' = W) := itoa_c 2 (by decide)
        have hcat : (({ data := #[84, 117, 112] } : ByteArray) ++ ({ data := #[50] } : ByteArray)) = { data := #[84, 117, 112, 50] } := rfl
        go_wp2_with (first | (go_at_call 28; refine (HT.out _).mono ?_; rintro e w' ⟨rfl, hw⟩; rw [hw]) | (at_builtin; refine appendC rfl _ _ rfl w.heap.size (.slice o n cap) _ tup2 wr.heap.size rfl (HI.out.1.below ((Below.refl _ _).alloc (Nat.le_refl _) _)) rfl (Blk.new wr _ _) (by decide) (by have := HW.out; simp; omega) ?_; intro v' w2 hr2 hg2 ha2; obtain ⟨o2, c2, hv2⟩ := hr2.form; subst hv2; have HN : Hid (Bst w w1.heap.size 1 (.slice o2 _ c2) w2) := HI.out.step rfl _ hr2 hg2 ha2; clear hr2 hg2 ha2))
        go_roundg 2
        case measure => omega
        case rel => exact ⟨o2, _, c2, 1, rfl, rfl, by omega, by omega, HN⟩
      · have HT : Hid (∀ W : World, Calls Tryz.prog 28 #[.int .i64 3] W fun e w' => e = .returned (.string ⟨#[51]⟩) ∧ w' = W) := itoa_c 3 (by decide)
        have hcat : (({ data := #[84, 117, 112] } : ByteArray) ++ ({ data := #[51] } : ByteArray)) = { data := #[84, 117, 112, 51] } := rfl
        go_wp2_with (first | (go_at_call 28; refine (HT.out _).mono ?_; rintro e w' ⟨rfl, hw⟩; rw [hw]) | (at_builtin; refine appendC rfl _ _ rfl w.heap.size (.slice o n cap) _ tup3 wr.heap.size rfl (HI.out.1.below ((Below.refl _ _).alloc (Nat.le_refl _) _)) rfl (Blk.new wr _ _) (by decide) (by have := HW.out; simp; omega) ?_; intro v' w2 hr2 hg2 ha2; obtain ⟨o2, c2, hv2⟩ := hr2.form; subst hv2; have HN : Hid (Bst w w1.heap.size 2 (.slice o2 _ c2) w2) := HI.out.step rfl _ hr2 hg2 ha2; clear hr2 hg2 ha2))
        go_roundg 1
        case measure => omega
        case rel => exact ⟨o2, _, c2, 2, rfl, rfl, by omega, by omega, HN⟩
      · have HT : Hid (∀ W : World, Calls Tryz.prog 28 #[.int .i64 4] W fun e w' => e = .returned (.string ⟨#[52]⟩) ∧ w' = W) := itoa_c 4 (by decide)
        have hcat : (({ data := #[84, 117, 112] } : ByteArray) ++ ({ data := #[52] } : ByteArray)) = { data := #[84, 117, 112, 52] } := rfl
        go_wp2_with (first | (go_at_call 28; refine (HT.out _).mono ?_; rintro e w' ⟨rfl, hw⟩; rw [hw]) | (at_builtin; refine appendC rfl _ _ rfl w.heap.size (.slice o n cap) _ tup4 wr.heap.size rfl (HI.out.1.below ((Below.refl _ _).alloc (Nat.le_refl _) _)) rfl (Blk.new wr _ _) (by decide) (by have := HW.out; simp; omega) ?_; intro v' w2 hr2 hg2 ha2; obtain ⟨o2, c2, hv2⟩ := hr2.form; subst hv2; have HN : Hid (Bst w w1.heap.size 3 (.slice o2 _ c2) w2) := HI.out.step rfl _ hr2 hg2 ha2; clear hr2 hg2 ha2))
        go_roundg 0
        case measure => omega
        case rel => exact ⟨o2, _, c2, 3, rfl, rfl, by omega, by omega, HN⟩
end Go.Proofs.YtdbpggncpkocaaaGreatDoor

namespace Go.Proofs.YtdbpggncpkocaaaGreatDoor
open Go.RowKit Go.Shelf Go.Maps
set_option linter.unusedVariables false

attribute [local go_sem] Oper.semAt_some

/-- The first constructor of a name. -/
def fstC (fs : List CT) (x : List UInt8) : Option CT := fs.find? (fun f => f.1.data.toList == x)
def cnV (c : CT) : Value := .agg #[.string c.1, .int .i64 c.2.1, .string c.2.2.1, .int .i64 c.2.2.2]
/-- The map holds the first entry of each name. -/
def CtSt (W : World) (b c : Nat) (fs : List CT) : Prop := ∃ D : DataW Value, W.ownsMap Tryz.prog 9 heldElem b c D ∧ Maps.IsMap D ∧ ∀ x : List UInt8, Maps.has D (.string x) = (fstC fs x).isSome ∧ ∀ f, fstC fs x = some f → D.atKey (.string x) (.held cnZ) = .held (cnV f)
theorem CtSt.lt {W : World} {b c : Nat} {fs : List CT} (h : CtSt W b c fs) : b < W.heap.size := by
  obtain ⟨D, h1, _⟩ := h
  exact h1.lt
theorem CtSt.same {W W' : World} {b c : Nat} {fs : List CT} (h : CtSt W b c fs) (hb : W'.heap[b]? = W.heap[b]?) : CtSt W' b c fs := by
  obtain ⟨D, h1, h2⟩ := h
  obtain ⟨es, clock, k1, k2⟩ := h1
  exact ⟨D, ⟨es, clock, by rw [hb]; exact k1, k2⟩, h2⟩
theorem CtSt.below {W W' : World} {b c : Nat} {fs : List CT} (h : CtSt W b c fs) (hb : Below W.heap.size W W') : CtSt W' b c fs := h.same (hb.block b h.lt)
theorem ctSt_new (W : World) : CtSt (W.alloc (.map #[] 0)) W.heap.size 0 [] := ⟨.map [], World.ownsMap_made W Tryz.prog 9 heldElem, ⟨_, rfl⟩, fun x => ⟨rfl, fun f h => by cases h⟩⟩
theorem zeroCn (w : World) : (zeroValue 38).run Tryz.prog w = .ok cnZ w := by kernel_rfl
theorem CtSt.look {W : World} {b c : Nat} {fs : List CT} (h : CtSt W b c fs) (nm : ByteArray) (hs : nm.size ≤ 9223372036854775807) :
    (∃ f, fstC fs nm.data.toList = some f ∧ (Instr.lookup 73 (.map (some b)) (.string nm) true).run Tryz.prog W = .ok (.tuple #[cnV f, .bool true]) W) ∨ (fstC fs nm.data.toList = none ∧ (Instr.lookup 73 (.map (some b)) (.string nm) true).run Tryz.prog W = .ok (.tuple #[cnZ, .bool false]) W) := by
  obtain ⟨D, hown, hD, hall⟩ := h
  obtain ⟨v, ps, hrun, hv⟩ := hown.look_ok (string_keyed Tryz.underlying9) Tryz.underlying73 (zeroCn W) (zd := .held cnZ) (zp := []) rfl (key_strN nm hs)
  obtain ⟨h1, h2⟩ := hall nm.data.toList
  cases hf : fstC fs nm.data.toList with
  | none =>
    rw [hf] at h1
    right
    refine ⟨rfl, ?_⟩
    rw [Maps.atKey_of_not_has h1] at hv
    rw [heldElem_inv hv, h1] at hrun
    exact hrun
  | some f =>
    rw [hf] at h1
    left
    refine ⟨f, rfl, ?_⟩
    rw [h2 f hf] at hv
    rw [heldElem_inv hv, h1] at hrun
    exact hrun
theorem mm_run (n : Nat) (W : World) (hn : n ≤ 4611686018427387904) : (Instr.makeMap 73 (some (.int .i64 n))).run Tryz.prog W = .ok (.map (some W.heap.size)) (W.alloc (.map #[] 0)) := by
  simp [Instr.makeMap, go_sem]
/-- What a round that goes on keeps: the cells of some blocks. -/
def KpS (S : Nat → Prop) (W W' : World) : Prop := ∀ (b off : Nat) (v : Value), S b → W.cell? ⟨b, off, none⟩ = some v → W'.cell? ⟨b, off, none⟩ = some v
theorem KpS.refl (S : Nat → Prop) (W : World) : KpS S W W := fun _ _ _ _ h => h
theorem KpS.trans {S : Nat → Prop} {X Y Z : World} (h : KpS S X Y) (k : KpS S Y Z) : KpS S X Z := fun b off v hb e => k b off v hb (h b off v hb e)
theorem KpS.put {S : Nat → Prop} {w : World} (W : World) (l : Nat) (o o' : Obj) (_ : w.heap.size ≤ l) (h : W.heap[l]? = some o) (hc : o.isCells = false) (_ : o.isWalk = false) : KpS S W (W.putObj l o') :=
  fun _ _ _ _ e => cell_kept e (grownBy_putObj' W l o') (fun r e => by cases e; exact ⟨o, h, hc⟩)
theorem KpS.below {S : Nat → Prop} {n : Nat} {W W' : World} (h : Below n W W') (hS : ∀ b, S b → b < n) : KpS S W W' := fun b off v hb e => (h.cell (p := ⟨b, off, none⟩) (hS b hb)).trans e
theorem ConsAt.kp {S : Nat → Prop} {W W' : World} {fs : List CT} {g : Nat} (h : ConsAt W g fs) (hg : S g) (hb : KpS S W W') : ConsAt W' g fs := fun k hk => ⟨hb _ _ _ hg (h k hk).1, hb _ _ _ hg (h k hk).2.1, hb _ _ _ hg (h k hk).2.2.1, hb _ _ _ hg (h k hk).2.2.2⟩

/-- The numbers from k on, the greatest first. -/
def dn (n k : Nat) : List (Fin n) := ((List.finRange n).drop k).reverse
theorem dn_top (n : Nat) : dn n n = [] := by unfold dn; rw [List.drop_eq_nil_of_le (by simp)]; rfl
theorem dn_step (n k : Nat) (h : k < n) : dn n k = dn n (k + 1) ++ [⟨k, h⟩] := by
  unfold dn
  rw [List.drop_eq_getElem_cons (by simpa using h), List.reverse_cons]
  simp
theorem dn_len (n k : Nat) : (dn n k).length = n - k := by unfold dn; simp

set_option maxRecDepth 100000 in
set_option maxHeartbeats 2000000 in
theorem backw1_in (F : Fence) (n : Nat) (hF : ∀ k, F.fn k) (hro : F.round = none) (h1 : 1 ≤ n) (hn : 3 ≤ n) (l Bs : Nat) (fs : List CT) (hl : fs.length ≤ 4611686018427387904) (g cap : Nat) (S : Nat → Prop) (hSB : S Bs) (hSg : S g) (J Jx : List (Fin fs.length) → World → Prop)
    (hY : ∀ pre (x : Fin fs.length) W, J pre W → pre.length < fs.length → YieldAt F (n - 1) Tryz.prog l #[.int .i64 (x.1 : Int), .agg #[.string fs[x].1, .int .i64 fs[x].2.1, .string fs[x].2.2.1, .int .i64 fs[x].2.2.2]] W fun e W' =>
      (e = .returned (.bool true) ∧ J (pre ++ [x]) W' ∧ KpS S W W') ∨ (e = .returned (.bool false) ∧ Jx (pre ++ [x]) W'))
    (W : World) (hBs : W.cell? ⟨Bs, 0, none⟩ = some (.slice (some ⟨g, 0, none⟩) fs.length cap)) (hA : ConsAt W g fs) (h0 : J [] W) :
    CallsIn F n Tryz.prog 61 #[.func (.yield l) #[] #[], .pointer (some ⟨Bs, 0, none⟩)] W fun e W' => (∃ v, e = .returned v) ∧
      ((∃ ys, ys = dn fs.length 0 ∧ J ys W') ∨ (∃ pre, True ∧ Jx pre W')) := by
  refine callsIn_of_wp Tryz.func61 rfl (hF _) ?_ hro
  simp only [Tryz.ntmps61, List.size_toArray, List.length_cons, List.length_nil, Nat.reduceAdd, Nat.reduceSub, Array.replicate_succ, Array.replicate_zero, List.push_toArray, List.append_toArray, List.nil_append, List.cons_append]
  have hLi : (fs.length : Int) ≤ 4611686018427387904 := by omega
  gi_wp2
  gi_loopw [3] (fun i wr => ∃ k : Nat, k ≤ fs.length ∧ i = .int .i64 ((k : Int) - 1) ∧ J (dn fs.length k) wr ∧ wr.cell? ⟨Bs, 0, none⟩ = some (.slice (some ⟨g, 0, none⟩) fs.length cap) ∧ Hid (ConsAt wr g fs)) (fun i _ => ((intOf i) + 1).toNat)
  case atStart => exact ⟨fs.length, Nat.le_refl _, rfl, by rw [dn_top]; exact h0, hBs, hA⟩
  case round =>
    obtain ⟨k, hk, rfl, hJs, hbx, hFA⟩ := hrel
    cases k with
    | zero =>
      gi_wp2
      go_end0
      exact ⟨⟨_, rfl⟩, .inl ⟨_, rfl, hJs⟩⟩
    | succ k =>
      have hkl : k < fs.length := by omega
      have hki : (k : Int) < (fs.length : Int) := by omega
      have hq : ((k + 1 : Nat) : Int) - 1 = (k : Int) := by omega
      rw [hq]
      obtain ⟨c0, c1, c2, c3⟩ := hFA.out k hkl
      have hdn := dn_step fs.length k hkl
      have HS : Hid (∀ W' : World, J (dn fs.length (k + 1) ++ [⟨k, hkl⟩]) W' → J (dn fs.length k) W') := fun W' h => by rw [hdn]; exact h
      obtain ⟨fn, tmps, assign, body, hy, hR⟩ := hY _ ⟨k, hkl⟩ wr hJs (by rw [dn_len]; omega)
      dsimp only [Fin.getElem_fin] at hy
      generalize fs[k] = f at *
      clear hdn hq
      gi_wp2
      refine hR.mono ?_
      rintro e W3 (⟨rfl, hJ3, hk3⟩ | ⟨rfl, hJx3⟩)
      · gi_wp2
        go_roundw
        case rel => exact ⟨k, by omega, by go_num, HS.out _ hJ3, hk3 _ _ _ hSB hbx, (hFA.out.kp hSg hk3 : ConsAt _ _ _)⟩
        case measure => simp [intOf]
      · gi_wp2
        refine bodyPost_ret (results_none rfl _ _ _) rfl ?_
        exact ⟨⟨_, rfl⟩, .inr ⟨_, True.intro, hJx3⟩⟩
theorem backw_stops (F : Fence) (n : Nat) (hF : ∀ k, F.fn k) (hro : F.round = none) (hn : 3 ≤ n) (Bs : Nat) (fs : List CT) (hl : fs.length ≤ 4611686018427387904) (g cap : Nat) (S : Nat → Prop) (hSB : S Bs) (hSg : S g) (w : World) (hBs : Bs < w.heap.size) (hg : g < w.heap.size)
    (hc : w.cell? ⟨Bs, 0, none⟩ = some (.slice (some ⟨g, 0, none⟩) fs.length cap)) (hA : ConsAt w g fs) :
    SeqStopsK F n Tryz.prog 61 #[.pointer (some ⟨Bs, 0, none⟩)] (fun x : Fin fs.length => #[Value.int .i64 (x.1 : Int), Value.agg #[.string fs[x].1, .int .i64 fs[x].2.1, .string fs[x].2.2.1, .int .i64 fs[x].2.2.2]]) (KpS S) (fun ys => ys = dn fs.length 0) (fun _ => True) fs.length w :=
  fun l J Jx W hW _ _ hY h0 => backw1_in F n hF hro (by omega) hn l Bs fs hl g cap S hSB hSg J Jx hY W ((hW.cell (p := ⟨Bs, 0, none⟩) hBs).trans hc) (hA.below hg hW) h0

set_option maxHeartbeats 1000000 in
theorem backw_in (F : Fence) (n : Nat) (hF : ∀ k, F.fn k) (hro : F.round = none) (o : Option Addr) (len cap : Nat) (w : World) :
    CallsIn F n Tryz.prog 47 #[.slice o len cap] w fun e w' => e = .returned (.func (.func 61) #[] #[.pointer (some ⟨w.heap.size, 0, none⟩)]) ∧ w' = w.alloc (.cells #[.slice o len cap] 23) := by
  refine callsIn_of_wp Tryz.func47 rfl (hF _) ?_ hro
  simp only [Tryz.ntmps47, List.size_toArray, List.length_cons, List.length_nil, Nat.reduceAdd, Nat.reduceSub, Array.replicate_succ, Array.replicate_zero, List.push_toArray, List.append_toArray, List.nil_append, List.cons_append]
  gi_wp2
  go_ret
  exact ⟨rfl, rfl⟩
theorem blk_kept {W W' : World} {row : Option Nat} {B : Nat} {vs : Array Value} {T : TypeId} (h : Blk W B vs T) (hg : W.grownBy W' row) (hr : ∀ r, row = some r → ∃ o : Obj, W.heap[r]? = some o ∧ o.isCells = false) : Blk W' B vs T := by
  unfold Blk at h ⊢
  rw [hg.block B (Array.getElem?_eq_some_iff.1 h).1 (fun e => by
    obtain ⟨o, h1, h2⟩ := hr B e.symm
    rw [h] at h1
    cases h1
    cases h2), h]
theorem CtSt.kept {W W' : World} {row : Option Nat} {b c B : Nat} {fs : List CT} (h : CtSt W b c fs) (hb : b < B) (hg : W.grownBy W' row) (hr : ∀ r, row = some r → B ≤ r) : CtSt W' b c fs :=
  h.same (hg.block b h.lt (fun e => by have := hr b e.symm; omega))

theorem KpS.alloc (S : Nat → Prop) (W : World) (o : Obj) : KpS S W (W.alloc o) := fun b off v hb e => cell_kept e (World.grownBy_alloc W o none) (fun r e => by cases e)
theorem dn_all (fs : List CT) : ((dn fs.length 0).map (fun x : Fin fs.length => fs[x])).reverse = fs := by
  unfold dn
  rw [List.drop_zero, List.map_reverse, List.reverse_reverse]
  apply List.ext_getElem
  · simp
  · intro i h1 h2
    simp
theorem CtSt.put {W W' : World} {b c : Nat} {fs : List CT} {D : DataW Value} (f : CT) (hD : Maps.IsMap D) (hall : ∀ x : List UInt8, Maps.has D (.string x) = (fstC fs x).isSome ∧ ∀ f, fstC fs x = some f → D.atKey (.string x) (.held cnZ) = .held (cnV f))
    (hown : W'.ownsMap Tryz.prog 9 heldElem b c (D.put (.string f.1.data.toList) (.held (cnV f)))) : CtSt W' b c (f :: fs) := by
  refine ⟨_, hown, ?_, fun x => ?_⟩
  · obtain ⟨es, rfl⟩ := hD
    exact ⟨_, rfl⟩
  · by_cases hx : f.1.data.toList = x
    · subst hx
      have e : fstC (f :: fs) f.1.data.toList = some f := List.find?_cons_of_pos (by simp)
      rw [e]
      refine ⟨by rw [Maps.has_put_same hD (by constructor)]; rfl, fun g hg => ?_⟩
      cases hg
      exact Maps.atKey_put_same hD (by constructor) _ _
    · have e : fstC (f :: fs) x = fstC fs x := List.find?_cons_of_neg (by simpa using hx)
      have hx2 : ¬ (x = f.1.data.toList) := fun h => hx h.symm
      rw [e, Maps.has_put_other (by simpa using hx2)]
      refine ⟨(hall x).1, fun g hg => ?_⟩
      rw [Maps.atKey_put_other (by simpa using hx2)]
      exact (hall x).2 g hg

set_option maxRecDepth 100000 in
set_option maxHeartbeats 2000000 in
theorem finder_in (F : Fence) (n : Nat) (hF : ∀ k, F.fn k) (hro : F.round = none) (h1 : 1 ≤ n) (hn : 6 ≤ n) (fs : List CT) (hl : fs.length ≤ 4611686018427387904) (hs : ∀ f ∈ fs, f.1.size ≤ 9223372036854775807) (g cap : Nat) (w : World) (hg : g < w.heap.size) (hA : ConsAt w g fs) :
    CallsIn F n Tryz.prog 33 #[.slice (some ⟨g, 0, none⟩) fs.length cap] w fun e W' => e = .returned (.func (.func 48) #[] #[.pointer (some ⟨w.heap.size + 1, 0, none⟩)]) ∧ Below w.heap.size w W' ∧ Blk W' (w.heap.size + 1) #[.map (some w.heap.size)] 73 ∧ CtSt W' w.heap.size fs.length fs := by
  refine callsIn_of_wp_marks Tryz.func33 rfl (hF _) ?_ hro
  simp only [Tryz.ntmps33, List.size_toArray, List.length_cons, List.length_nil, Nat.reduceAdd, Nat.reduceSub, Array.replicate_succ, Array.replicate_zero, List.push_toArray, List.append_toArray, List.nil_append, List.cons_append]
  have hmm : ∀ W : World, (Instr.makeMap 73 (some (.int .i64 fs.length))).run Tryz.prog W = .ok (.map (some W.heap.size)) (W.alloc (.map #[] 0)) := fun W => mm_run fs.length W hl
  gi_wp2_with (gi_at_call 47; refine (backw_in F (n - 1) hF hro _ _ _ _).mono ?_; rintro e w' ⟨rfl, rfl⟩)
  have hw0 : Hid ((((w.alloc (.map #[] 0)).alloc (.cells #[.map (some w.heap.size)] 73)).alloc (.cells #[.slice (some ⟨g, 0, none⟩) fs.length cap] 23)).heap.size = w.heap.size + 3) := by show _ = _; simp
  have hB0 : Below w.heap.size w (((w.alloc (.map #[] 0)).alloc (.cells #[.map (some w.heap.size)] 73)).alloc (.cells #[.slice (some ⟨g, 0, none⟩) fs.length cap] 23)) := (((Below.refl _ w).alloc (Nat.le_refl _) _).alloc (by simp) _).alloc (by simp; omega) _
  have bM : CtSt (((w.alloc (.map #[] 0)).alloc (.cells #[.map (some w.heap.size)] 73)).alloc (.cells #[.slice (some ⟨g, 0, none⟩) fs.length cap] 23)) w.heap.size 0 [] := ((ctSt_new w).below ((Below.refl _ _).alloc (Nat.le_refl _) _)).below ((Below.refl _ _).alloc (Nat.le_refl _) _)
  have bB : Blk (((w.alloc (.map #[] 0)).alloc (.cells #[.map (some w.heap.size)] 73)).alloc (.cells #[.slice (some ⟨g, 0, none⟩) fs.length cap] 23)) (w.heap.size + 1) #[.map (some w.heap.size)] 73 := (Blk.new2 w _ _ _).below ((Below.refl _ _).alloc (Nat.le_refl _) _)
  have bS : Blk (((w.alloc (.map #[] 0)).alloc (.cells #[.map (some w.heap.size)] 73)).alloc (.cells #[.slice (some ⟨g, 0, none⟩) fs.length cap] 23)) (w.heap.size + 1 + 1) #[.slice (some ⟨g, 0, none⟩) fs.length cap] 23 := by
    have := Blk.new ((w.alloc (.map #[] 0)).alloc (.cells #[.map (some w.heap.size)] 73)) #[.slice (some ⟨g, 0, none⟩) fs.length cap] 23
    simpa using this
  have hA0 := hA.below hg hB0
  generalize (((w.alloc (.map #[] 0)).alloc (.cells #[.map (some w.heap.size)] 73)).alloc (.cells #[.slice (some ⟨g, 0, none⟩) fs.length cap] 23)) = W0 at *
  refine wpIn_rangeFunc_ownH hro h1 (gf := 61) (lb := #[.pointer (some ⟨w.heap.size + 1 + 1, 0, none⟩)]) rfl (hF _) (enters_of Tryz.func61 (by kernel_rfl) rfl)
    (backw_stops F (n - 1) hF hro (by omega) (w.heap.size + 1 + 1) fs hl g cap (fun b => b = w.heap.size + 1 + 1 ∨ b = g) (.inl rfl) (.inr rfl) W0 (by have := hw0.out; omega) (by have := hw0.out; omega) (bS.cell 0 _ rfl) hA0) KpS.trans (fun W l o o' hl => KpS.put (w := W0) W l o o' hl) (Below.refl _ _) (fun _ => rfl)
    (fun pre W => (CtSt W w.heap.size pre.length ((pre.map (fun x : Fin fs.length => fs[x])).reverse) ∧ Blk W (w.heap.size + 1) #[.map (some w.heap.size)] 73) ∧ Below w.heap.size w W)
    (fun _ _ _ => False)
    (OwnFrom.and (fun pre A B row hs hgr hr => ⟨hs.1.kept (B := W0.heap.size) (by have := hw0.out; omega) hgr (fun r e => (hr r e).1), blk_kept hs.2 hgr (fun r e => (hr r e).2)⟩) (ownFrom_below (Nat.le_refl _) (by have := hw0.out; omega)))
    (fun c s A B row hs _ _ => hs)
    ⟨⟨bM, bB⟩, hB0⟩
    (fun x a' W => ∃ Bx, Blk W Bx #[.string fs[x].1, .int .i64 fs[x].2.1, .string fs[x].2.2.1, .int .i64 fs[x].2.2.2] 38 ∧ a' = { tmps := #[.slice (some ⟨g, 0, none⟩) fs.length cap, undef, .nilFunc, .pointer (some ⟨w.heap.size + 1, 0, none⟩), undef, .pointer (some ⟨Bx, 0, none⟩), .slice (some ⟨g, 0, none⟩) fs.length cap, .int .i64 fs.length, .map (some w.heap.size), .slice (some ⟨g, 0, none⟩) fs.length cap, .func (.func 61) #[] #[.pointer (some ⟨w.heap.size + 1 + 1, 0, none⟩)], .int .i64 (x.1 : Int), .agg #[.string fs[x].1, .int .i64 fs[x].2.1, .string fs[x].2.2.1, .int .i64 fs[x].2.2.2], undef, undef, undef, undef, undef], defers := [] })
    (fun x a' u A B row hs hgr hr => by obtain ⟨Bx, e2, e3⟩ := hs; exact ⟨Bx, blk_kept e2 hgr (fun r e => (hr r e).2), e3⟩)
    ?assign ?body ?done ?stop
  case assign =>
    rintro l pre x W K ⟨⟨i1, i2⟩, i3⟩ hK
    have hb : Below W.heap.size W (W.alloc (.cells #[.string fs[x].1, .int .i64 fs[x].2.1, .string fs[x].2.2.1, .int .i64 fs[x].2.2.2] 38)) := (Below.refl _ _).alloc (Nat.le_refl _) _
    gi_wp2
    exact hK _ _ ((KeepsOthers.alloc _ _).from _) (KpS.alloc _ _ _) ⟨⟨i1.below hb, i2.below hb⟩, i3.trans (hb.mono i3.size)⟩ ⟨W.heap.size, Blk.new _ _ _, rfl⟩
  case body =>
    rintro l pre x a' W hl' ⟨r, hr⟩ ⟨⟨hst, hbx⟩, hB⟩ ⟨Bx, hBk, rfl⟩ hlt
    obtain ⟨D, hown, hD, hall⟩ := hst
    have hm := hbx.cell 0 _ rfl
    have f0 := hBk.cell 0 _ rfl
    have f1 := hBk.cell 1 _ rfl
    have f2 := hBk.cell 2 _ rfl
    have f3 := hBk.cell 3 _ rfl
    have hBl := hBk.lt
    have hml := hbx.lt
    have hkey := key_strN fs[x].1 (hs fs[x] (List.getElem_mem _))
    have HP : Hid (∀ w1 : World, w1.ownsMap Tryz.prog 9 heldElem w.heap.size (pre.length + 1) (D.put (.string fs[x].1.data.toList) (.held (.agg #[.string fs[x].1, .int .i64 fs[x].2.1, .string fs[x].2.2.1, .int .i64 fs[x].2.2.2]))) → W.grownBy w1 (some w.heap.size) → KeepsFrom W0.heap.size W w1 ∧ KpS (fun b => b = w.heap.size + 1 + 1 ∨ b = g) W w1 ∧ (CtSt w1 w.heap.size (pre ++ [x]).length (((pre ++ [x]).map (fun x : Fin fs.length => fs[x])).reverse) ∧ Blk w1 (w.heap.size + 1) #[.map (some w.heap.size)] 73) ∧ Below w.heap.size w w1) := by
      intro w1 ho1 hg1
      obtain ⟨es, clock, k1, k2⟩ := hown
      refine ⟨KeepsFrom.of_grownBy hg1 (fun j e => by cases e; have := hw0.out; omega), fun b off v hb e => cell_kept e hg1 (fun r er => by cases er; exact ⟨_, k1, rfl⟩), ⟨?_, blk_kept hbx hg1 (fun r er => by cases er; exact ⟨_, k1, rfl⟩)⟩, hB.grown hg1 hB.size (fun k e => by cases e; exact Nat.le_refl _)⟩
      have e1 : ((pre ++ [x]).map (fun x : Fin fs.length => fs[x])).reverse = fs[x] :: (pre.map (fun x : Fin fs.length => fs[x])).reverse := by simp
      rw [e1, List.length_append]
      exact CtSt.put (W := W) fs[x] hD hall ho1
    have hpl : pre.length < maxLen := by unfold maxLen; omega
    clear hall hD hlt
    generalize fs[x] = f at *
    gi_wp2_with (gi_at_mapUpdate; refine wpListIn_mapUpdate_own _ rfl _ _ _ 73 rfl 9 38 (string_keyed Tryz.underlying9) Tryz.underlying73 heldElem w.heap.size pre.length D rfl hown hpl _ _ _ rfl rfl hkey (.held (.agg #[.string f.1, .int .i64 f.2.1, .string f.2.2.1, .int .i64 f.2.2.2])) [] rfl ?_; intro w1 hown1 hgrow1)
    exact HP.out w1 hown1 hgrow1
  case done =>
    rintro D ys W hD rfl ⟨⟨hst, hbx⟩, hB⟩ hK
    rw [dn_all, dn_len] at hst
    gi_wp2
    refine ⟨by simp, .inl ⟨_, _, rfl, run_takeDeferred hK, ?_⟩⟩
    have hgp := grownBy_putObj' W D (.deferred none)
    refine ⟨_, results_tmp rfl _ _ _, rfl, hB.trans (belowK_b (w := w) (Nat.le_refl _) _ D _ _ (by have := hw0.out; omega) hK rfl rfl), blk_kept hbx hgp (fun r e => by cases e; exact ⟨_, hK, rfl⟩), ?_⟩
    have := hst.kept (B := W0.heap.size) (by have := hw0.out; omega) hgp (fun r e => by cases e; exact hD)
    simpa using this
  case stop =>
    rintro D c pre W _ _ h _
    exact h.elim


theorem finderC_c (fs : List CT) (hl : fs.length ≤ 4611686018427387904) (hs : ∀ f ∈ fs, f.1.size ≤ 9223372036854775807) (g cap : Nat) (w : World) (hg : g < w.heap.size) (hA : ConsAt w g fs) :
    Calls Tryz.prog 33 #[.slice (some ⟨g, 0, none⟩) fs.length cap] w fun e W' => e = .returned (.func (.func 48) #[] #[.pointer (some ⟨w.heap.size + 1, 0, none⟩)]) ∧ Below w.heap.size w W' ∧ Blk W' (w.heap.size + 1) #[.map (some w.heap.size)] 73 ∧ CtSt W' w.heap.size fs.length fs :=
  (callsIn_wide (n := 9)).1 (finder_in Fence.wide 9 (fun _ => trivial) rfl (by omega) (by omega) fs hl hs g cap w hg hA)
end Go.Proofs.YtdbpggncpkocaaaGreatDoor

namespace Go.Proofs.YtdbpggncpkocaaaGreatDoor
open Go.RowKit Go.Shelf Go.Maps
set_option linter.unusedVariables false

theorem Blk.sets4 {W : World} {E : Nat} {v0 v1 v2 v3 : Value} {T : TypeId} (h : Blk W E #[v0, v1, v2, v3] T) (a0 a1 a2 a3 : Value) : Blk ((((W.setCell ⟨E, 0, none⟩ a0).setCell ⟨E, 1, none⟩ a1).setCell ⟨E, 2, none⟩ a2).setCell ⟨E, 3, none⟩ a3) E #[a0, a1, a2, a3] T := by
  have h0 : Blk (W.setCell ⟨E, 0, none⟩ a0) E #[a0, v1, v2, v3] T := h.set 0 a0
  have h1 : Blk ((W.setCell ⟨E, 0, none⟩ a0).setCell ⟨E, 1, none⟩ a1) E #[a0, a1, v2, v3] T := h0.set 1 a1
  have h2 : Blk (((W.setCell ⟨E, 0, none⟩ a0).setCell ⟨E, 1, none⟩ a1).setCell ⟨E, 2, none⟩ a2) E #[a0, a1, a2, v3] T := h1.set 2 a2
  exact h2.set 3 a3
theorem below_sets4 {w W : World} (h : Below w.heap.size w W) (a0 a1 a2 a3 : Value) : Below w.heap.size w ((((W.setCell ⟨w.heap.size, 0, none⟩ a0).setCell ⟨w.heap.size, 1, none⟩ a1).setCell ⟨w.heap.size, 2, none⟩ a2).setCell ⟨w.heap.size, 3, none⟩ a3) :=
  (((h.setCell (p := ⟨w.heap.size, 0, none⟩) (Nat.le_refl _) _).setCell (p := ⟨w.heap.size, 1, none⟩) (Nat.le_refl _) _).setCell (p := ⟨w.heap.size, 2, none⟩) (Nat.le_refl _) _).setCell (p := ⟨w.heap.size, 3, none⟩) (Nat.le_refl _) _
/-- The name that is asked for: of : Cons. -/
def askC (nm : ByteArray) : ByteArray := if nm.toList = [58] then ⟨#[67, 111, 110, 115]⟩ else nm
/-- What Find answers. -/
def findV (fs : List CT) (nm : ByteArray) : Value := match fstC fs (askC nm).data.toList with | some f => .tuple #[cnV f, .bool true] | none => .tuple #[cnZ, .bool false]
set_option maxRecDepth 100000 in
set_option maxHeartbeats 4000000 in
theorem finder1a_c (fs : List CT) (nm nm2 : ByteArray) (hn : (nm.toList = [58] ∧ nm2 = ⟨#[67, 111, 110, 115]⟩) ∨ (nm.toList ≠ [58] ∧ nm2 = nm)) (hs : nm2.size ≤ 9223372036854775807) (mb b c : Nat) (w : World) (hm : w.cell? ⟨mb, 0, none⟩ = some (.map (some b))) (hmb : mb < w.heap.size) (h : CtSt w b c fs) :
    Calls Tryz.prog 48 #[.string nm, .pointer (some ⟨mb, 0, none⟩)] w fun e w' => e = .returned (match fstC fs nm2.data.toList with | some f => .tuple #[cnV f, .bool true] | none => .tuple #[cnZ, .bool false]) ∧ Below w.heap.size w w' := by
  obtain ⟨w0, hw0⟩ : ∃ w0, w.alloc (.cells #[.string ⟨#[]⟩, .int .i64 0, .string ⟨#[]⟩, .int .i64 0] 38) = w0 := ⟨_, rfl⟩
  have hb0 : Below w.heap.size w w0 := by rw [← hw0]; exact (Below.refl _ w).alloc (Nat.le_refl _) _
  have hst : CtSt w0 b c fs := h.below hb0
  obtain ⟨f, ok, hr, hrun⟩ : ∃ (f : CT) (ok : Bool), (match fstC fs nm2.data.toList with | some f => Value.tuple #[cnV f, .bool true] | none => .tuple #[cnZ, .bool false]) = .tuple #[cnV f, .bool ok] ∧ (Instr.lookup 73 (.map (some b)) (.string nm2) true).run Tryz.prog w0 = .ok (.tuple #[cnV f, .bool ok]) w0 := by
    rcases hst.look nm2 hs with ⟨f, hf, hrun⟩ | ⟨hf, hrun⟩
    · exact ⟨f, true, by rw [hf], hrun⟩
    · exact ⟨(⟨#[]⟩, 0, ⟨#[]⟩, 0), false, by rw [hf]; rfl, hrun⟩
  rw [hr]
  clear hr hst h hs
  obtain ⟨f1, f2, f3, f4⟩ := f
  simp only [cnV] at hrun ⊢
  have HB : Hid (∀ X, Below w0.heap.size w0 X → Below w.heap.size w X) := fun X hX => hb0.trans (hX.mono hb0.size)
  have HV : Hid (w.alloc (.cells #[.string ⟨#[]⟩, .int .i64 0, .string ⟨#[]⟩, .int .i64 0] 38) = w0) := hw0
  rw [← hw0] at hrun
  clear hw0 hb0
  rcases hn with ⟨hn, rfl⟩ | ⟨hn, rfl⟩
  · go_enter Tryz.func48, Tryz.ntmps48
    go_wp2
    exact bodyPost_ret (v := .tuple #[.agg #[.string f1, .int .i64 f2, .string f3, .int .i64 f4], .bool ok]) (by simp [results, Tryz.results48, go_sem]) rfl ⟨rfl, ((Below.refl _ w).alloc (Nat.le_refl _) _).alloc (by simp) _⟩
  · have hn2 : (nm2.toList == [58]) = false := by simpa using hn
    go_enter Tryz.func48, Tryz.ntmps48
    go_wp2
    exact bodyPost_ret (v := .tuple #[.agg #[.string f1, .int .i64 f2, .string f3, .int .i64 f4], .bool ok]) (by simp [results, Tryz.results48, go_sem]) rfl ⟨rfl, ((Below.refl _ w).alloc (Nat.le_refl _) _).alloc (by simp) _⟩
theorem finder1C_c (fs : List CT) (nm : ByteArray) (hs : nm.size ≤ 9223372036854775807) (mb b c : Nat) (w : World) (hm : w.cell? ⟨mb, 0, none⟩ = some (.map (some b))) (hmb : mb < w.heap.size) (h : CtSt w b c fs) :
    Calls Tryz.prog 48 #[.string nm, .pointer (some ⟨mb, 0, none⟩)] w fun e w' => e = .returned (findV fs nm) ∧ Below w.heap.size w w' := by
  by_cases hn : nm.toList = [58]
  · have e : askC nm = ⟨#[67, 111, 110, 115]⟩ := if_pos hn
    have := finder1a_c fs nm ⟨#[67, 111, 110, 115]⟩ (.inl ⟨hn, rfl⟩) (by decide) mb b c w hm hmb h
    unfold findV
    rw [e]
    exact this
  · have e : askC nm = nm := if_neg hn
    have := finder1a_c fs nm nm (.inr ⟨hn, rfl⟩) hs mb b c w hm hmb h
    unfold findV
    rw [e]
    exact this
set_option maxRecDepth 100000 in
set_option maxHeartbeats 4000000 in
theorem find_c (fs : List CT) (hl : fs.length ≤ 4611686018427387904) (hf : ∀ f ∈ fs, f.1.size ≤ 9223372036854775807) (nm : ByteArray) (hs : nm.size ≤ 9223372036854775807) (g cap : Nat) (w : World) (hg : g < w.heap.size) (hA : ConsAt w g fs) :
    Calls Tryz.prog 13 #[.slice (some ⟨g, 0, none⟩) fs.length cap, .string nm] w fun e w' => e = .returned (findV fs nm) ∧ Below w.heap.size w w' := by
  obtain ⟨w0, hw0⟩ : ∃ w0, w.alloc (.cells #[.string ⟨#[]⟩, .int .i64 0, .string ⟨#[]⟩, .int .i64 0] 38) = w0 := ⟨_, rfl⟩
  have hb0 : Below w.heap.size w w0 := by rw [← hw0]; exact (Below.refl _ w).alloc (Nat.le_refl _) _
  have hk0 : Blk w0 w.heap.size #[.string ⟨#[]⟩, .int .i64 0, .string ⟨#[]⟩, .int .i64 0] 38 := by rw [← hw0]; exact Blk.new w _ _
  have HK0 : Hid (Blk w0 w.heap.size #[.string ⟨#[]⟩, .int .i64 0, .string ⟨#[]⟩, .int .i64 0] 38) := hk0
  have HB0 : Hid (Below w.heap.size w w0) := hb0
  have HV : Hid (w.alloc (.cells #[.string ⟨#[]⟩, .int .i64 0, .string ⟨#[]⟩, .int .i64 0] 38) = w0) := hw0
  have HF : Hid (Calls Tryz.prog 33 #[.slice (some ⟨g, 0, none⟩) fs.length cap] w0 fun e W' => e = .returned (.func (.func 48) #[] #[.pointer (some ⟨w0.heap.size + 1, 0, none⟩)]) ∧ Below w0.heap.size w0 W' ∧ Blk W' (w0.heap.size + 1) #[.map (some w0.heap.size)] 73 ∧ CtSt W' w0.heap.size fs.length fs) := finderC_c fs hl hf g cap w0 (Nat.lt_of_lt_of_le hg hb0.size) (hA.below hg hb0)
  have H1 : Hid (∀ (mb b c : Nat) (w : World), w.cell? ⟨mb, 0, none⟩ = some (.map (some b)) → mb < w.heap.size → CtSt w b c fs → Calls Tryz.prog 48 #[.string nm, .pointer (some ⟨mb, 0, none⟩)] w fun e w' => e = .returned (findV fs nm) ∧ Below w.heap.size w w') := finder1C_c fs nm hs
  have eg : ∀ args w, (callFunc 48 args).run Tryz.prog w = .ok (.enter 48 args) w := enters_of Tryz.func48 (by kernel_rfl) rfl
  obtain ⟨f1, f2, f3, f4, ok, hfv⟩ : ∃ f1 f2 f3 f4 ok, findV fs nm = .tuple #[.agg #[.string f1, .int .i64 f2, .string f3, .int .i64 f4], .bool ok] := by
    unfold findV
    cases fstC fs (askC nm).data.toList with
    | none => exact ⟨_, _, _, _, _, rfl⟩
    | some f => exact ⟨_, _, _, _, _, rfl⟩
  rw [hfv] at H1 ⊢
  clear hw0 hb0 hk0 hA hg hl hf hs hfv
  go_enter Tryz.func13, Tryz.ntmps13
  go_wp2_with (go_at_call 33; fail)
  rw [HV.out]
  refine HF.out.mono ?_
  rintro e w1 ⟨rfl, hb1, hk1, hc1⟩
  have HB1 : Hid (Below w0.heap.size w0 w1) := hb1
  have HC : Hid (Calls Tryz.prog 48 #[.string nm, .pointer (some ⟨w0.heap.size + 1, 0, none⟩)] w1 fun e w' => e = .returned (.tuple #[.agg #[.string f1, .int .i64 f2, .string f3, .int .i64 f4], .bool ok]) ∧ Below w1.heap.size w1 w') := H1.out _ _ _ w1 (hk1.cell 0 _ rfl) hk1.lt hc1
  clear hb1 hk1 hc1 HF H1
  go_wp2_with (go_at_fn 48; fail)
  refine HC.out.mono ?_
  rintro e w2 ⟨rfl, hb2⟩
  have hk2 := (HK0.out.below HB1.out).below hb2
  have HB2 : Hid (Below w.heap.size w w2) := HB0.out.trans ((HB1.out.trans (hb2.mono HB1.out.size)).mono HB0.out.size)
  have z0 := hk2.cell 0 _ rfl
  have z1 := hk2.cell 1 _ rfl
  have z2 := hk2.cell 2 _ rfl
  have z3 := hk2.cell 3 _ rfl
  have y0 := hk2.frozen 0
  have y1 := hk2.frozen 1
  have y2 := hk2.frozen 2
  have y3 := hk2.frozen 3
  have hlt := hk2.lt
  have HK2 : Hid (Blk w2 w.heap.size #[.string ⟨#[]⟩, .int .i64 0, .string ⟨#[]⟩, .int .i64 0] 38) := hk2
  clear hb2 hk2 HC
  go_wp2
  have hK := HK2.out.sets4 (.string f1) (.int .i64 f2) (.string f3) (.int .i64 f4)
  have hBW := below_sets4 HB2.out (.string f1) (.int .i64 f2) (.string f3) (.int .i64 f4)
  generalize ((((w2.setCell ⟨w.heap.size, 0, none⟩ (.string f1)).setCell ⟨w.heap.size, 1, none⟩ (.int .i64 f2)).setCell ⟨w.heap.size, 2, none⟩ (.string f3)).setCell ⟨w.heap.size, 3, none⟩ (.int .i64 f4)) = WF at hK hBW ⊢
  have g0 := hK.cell 0 _ rfl
  have g1 := hK.cell 1 _ rfl
  have g2 := hK.cell 2 _ rfl
  have g3 := hK.cell 3 _ rfl
  exact bodyPost_ret (v := .tuple #[.agg #[.string f1, .int .i64 f2, .string f3, .int .i64 f4], .bool ok]) (by simp [results, Tryz.results13, go_sem, g0, g1, g2, g3]) rfl ⟨rfl, hBW⟩
end Go.Proofs.YtdbpggncpkocaaaGreatDoor
