/-
  Package world: makeRoom, by contracts.
-/
import Derived.Test.YtkjbdjobglnphaaWd
namespace Go.Proofs.Ytkjbdjobglnphaa
open Go.RowKit Go.Shelf Go.Maps Go.Conc
set_option linter.unusedVariables false
section
variable {P C cap : Nat} {u : List Int} {fed : Nat} {en : Bool} {o : Option Addr} {n c : Nat}
theorem wrapS (x : Int) (h0 : 0 ≤ x) (h1 : x ≤ 9223372036854775807) : IntKind.i64.wrap x = x := by
  simp [IntKind.wrap, IntKind.signed, IntKind.bits]
  omega
set_option maxRecDepth 100000 in
set_option maxHeartbeats 1000000 in
theorem room_fits (m : Nat) (w : World) (h : WdAt w P C cap u fed en o n c) (hm : u.length + m ≤ cap) : Calls Try.prog 23 #[.pointer (some ⟨P, 0, none⟩), .int .i64 (m : Int)] w fun r W' => r = .returned (.tuple #[]) ∧ W' = w := by
  obtain ⟨c0, c1, c2, c3, c4, f0, f1, f2, f3, f4⟩ := h.blk.all5
  have hl := lenChan h.ch
  have hcp := capChan h.ch
  have hb := h.capb
  have hd : decide (((u.length : Int) + (m : Int)) ≤ (cap : Int)) = true := by simp; omega
  have hle : ((u.length : Int) + (m : Int)) ≤ (cap : Int) := by omega
  have hw := wrapS ((u.length : Int) + (m : Int)) (by omega) (by omega)
  generalize u.length = k at *
  clear h hm hb
  go_enter Try.func23, Try.ntmps23
  go_wp2
  exact bodyPost_ret (v := .tuple #[]) (by simp [results, Try.results23, go_sem]) rfl ⟨rfl, rfl⟩
theorem drop_cons {u : List Int} {j : Nat} {x : Int} (h : u[j]? = some x) : u.drop j = x :: u.drop (j + 1) := by
  obtain ⟨hj, rfl⟩ := List.getElem?_eq_some_iff.1 h
  exact List.drop_eq_getElem_cons hj
theorem take_snoc {u : List Int} {j : Nat} {x : Int} (h : u[j]? = some x) : u.take j ++ [x] = u.take (j + 1) := by
  obtain ⟨hj, rfl⟩ := List.getElem?_eq_some_iff.1 h
  exact (List.take_succ_eq_append_getElem hj).symm
/-- One byte is moved. -/
structure Moved (w wr : World) (P C cap cap2 : Nat) (u : List Int) (j : Nat) (x : Int) (fed : Nat) (en : Bool) (o : Option Addr) (n c s1 r1 s2 r2 : Nat) : Prop where
  ch1 : wr.heap[C]? = some (.chan cap (bvs (x :: u.drop (j + 1))) false s1 r1 false)
  ch0 : wr.heap[w.heap.size]? = some (.chan cap2 (bvs (u.take j)) false s2 r2 false)
  blk : Blk wr P #[.pointer (some ⟨P, 0, none⟩), .chan (some C), .int .i64 (fed : Int), .bool en, .slice o n c] 43
  oth : Oth (fun j => j = P ∨ j = C) w wr
  nP : w.heap.size ≠ P
  nC : w.heap.size ≠ C
  len : (u.take j).length < cap2
theorem Moved.ch2 {w wr : World} {P C cap cap2 : Nat} {u : List Int} {j : Nat} {x : Int} {fed : Nat} {en : Bool} {o : Option Addr} {n c s1 r1 s2 r2 : Nat} (h : Moved w wr P C cap cap2 u j x fed en o n c s1 r1 s2 r2) : (wr.setChan C cap (bvs (u.drop (j + 1))) false s1 (r1 + 1) false).heap[w.heap.size]? = some (.chan cap2 (bvs (u.take j)) false s2 r2 false) := by
  simp only [World.setChan]
  rw [Array.getElem?_setIfInBounds_ne (fun e => h.nC e.symm)]
  exact h.ch0
theorem Moved.room {w wr : World} {P C cap cap2 : Nat} {u : List Int} {j : Nat} {x : Int} {fed : Nat} {en : Bool} {o : Option Addr} {n c s1 r1 s2 r2 : Nat} (h : Moved w wr P C cap cap2 u j x fed en o n c s1 r1 s2 r2) : (bvs (u.take j)).size < cap2 := by rw [bvs_size]; exact h.len
theorem Moved.next {w wr : World} {P C cap cap2 : Nat} {u : List Int} {j : Nat} {x : Int} {fed : Nat} {en : Bool} {o : Option Addr} {n c s1 r1 s2 r2 : Nat} (h : Moved w wr P C cap cap2 u j x fed en o n c s1 r1 s2 r2) :
    ChAt ((wr.setChan C cap (bvs (u.drop (j + 1))) false s1 (r1 + 1) false).setChan w.heap.size cap2 ((bvs (u.take j)).push (.int .u8 x)) false (s2 + 1) r2 false) C cap (u.drop (j + 1)) ∧
    ChAt ((wr.setChan C cap (bvs (u.drop (j + 1))) false s1 (r1 + 1) false).setChan w.heap.size cap2 ((bvs (u.take j)).push (.int .u8 x)) false (s2 + 1) r2 false) w.heap.size cap2 (u.take j ++ [x]) ∧
    Blk ((wr.setChan C cap (bvs (u.drop (j + 1))) false s1 (r1 + 1) false).setChan w.heap.size cap2 ((bvs (u.take j)).push (.int .u8 x)) false (s2 + 1) r2 false) P #[.pointer (some ⟨P, 0, none⟩), .chan (some C), .int .i64 (fed : Int), .bool en, .slice o n c] 43 ∧
    Oth (fun j => j = P ∨ j = C) w ((wr.setChan C cap (bvs (u.drop (j + 1))) false s1 (r1 + 1) false).setChan w.heap.size cap2 ((bvs (u.take j)).push (.int .u8 x)) false (s2 + 1) r2 false) := by
  have hC : C < wr.heap.size := (Array.getElem?_eq_some_iff.1 h.ch1).1
  have hD : w.heap.size < wr.heap.size := (Array.getElem?_eq_some_iff.1 h.ch0).1
  have hCP : C ≠ P := ChAt.ne ⟨s1, r1, h.ch1⟩ h.blk
  refine ⟨⟨s1, r1 + 1, ?_⟩, ⟨s2 + 1, r2, ?_⟩, (h.blk.setChan hCP _ _ _ _ _ _).setChan h.nP _ _ _ _ _ _, (h.oth.setChan (fun _ => .inr rfl) _ _ _ _ _ _).setChan (fun e => absurd e (by omega)) _ _ _ _ _ _⟩
  · show (World.setChan _ _ _ _ _ _ _ _).heap[C]? = _
    simp only [World.setChan]
    rw [Array.getElem?_setIfInBounds_ne h.nC]
    exact heap_setChan _ _ _ _ _ _ _ _ hC
  · rw [bvs_push]
    exact heap_setChan _ _ _ _ _ _ _ _ (by rw [size_setChan]; exact hD)
set_option maxRecDepth 100000 in
set_option maxHeartbeats 1000000 in
theorem room_grows (m : Nat) (w : World) (h : WdAt w P C cap u fed en o n c) (hm : ¬ u.length + m ≤ cap) (hm2 : u.length + m ≤ 1048576) : Calls Try.prog 23 #[.pointer (some ⟨P, 0, none⟩), .int .i64 (m : Int)] w fun r W' => r = .returned (.tuple #[]) ∧ ∃ cap2, u.length + m ≤ cap2 ∧ WdAt W' P w.heap.size cap2 u fed en o n c ∧ Oth (fun j => j = P ∨ j = C) w W' := by
  obtain ⟨c0, c1, c2, c3, c4, f0, f1, f2, f3, f4⟩ := h.blk.all5
  have hl := lenChan h.ch
  have hcp := capChan h.ch
  have hb := h.capb
  have hd : decide (((u.length : Int) + (m : Int)) ≤ (cap : Int)) = false := by simp; omega
  have hle : ¬ ((u.length : Int) + (m : Int)) ≤ (cap : Int) := by omega
  have hw := wrapS ((u.length : Int) + (m : Int)) (by omega) (by omega)
  have hw2 := wrapS (2 * (cap : Int)) (by omega) (by omega)
  have HW : Hid (WdAt w P C cap u fed en o n c) := h
  have HMk : Hid (∀ j : Nat, j ≤ 2097152 → (Instr.makeChan 41 (.int .i64 (j : Int))).run Try.prog w = .ok (.chan (some w.heap.size)) (w.alloc (.chan j #[] false 0 0 false))) := fun j hj => mkChan j hj w
  obtain ⟨k, hk⟩ : ∃ k, u.length = k := ⟨_, rfl⟩
  have HK : Hid (u.length = k ∧ k + m ≤ 1048576 ∧ ¬ k + m ≤ cap ∧ cap ≤ 2097152) := ⟨hk, hk ▸ hm2, hk ▸ hm, hb⟩
  rw [hk] at hl hd hle hw ⊢
  have m1 := HMk.out (k + m) (by have := HK.out; omega)
  have m2 := HMk.out (2 * cap) (by have := HK.out; omega)
  simp only [Int.natCast_add, Int.natCast_mul, Int.cast_ofNat_Int] at m1 m2
  have hw2 := wrapS (2 * (cap : Int)) (by omega) (by omega)
  clear h hm hb hk hm2 HMk
  go_enter Try.func23, Try.ntmps23
  go_upto_region 2 with fail
  go_cut [5] from 20 (fun v5 W => ∃ cap2 : Nat, v5 = .chan (some w.heap.size) ∧ Hid (k + m ≤ cap2 ∧ cap2 ≤ 2097152 ∧ W = w.alloc (.chan cap2 #[] false 0 0 false)))
  case first =>
    go_wp2
    · go_meet
      refine ⟨2 * cap, rfl, ?_⟩
      have := HK.out
      exact ⟨by omega, by omega, rfl⟩
    · go_meet
      refine ⟨k + m, rfl, ?_⟩
      have := HK.out
      exact ⟨by omega, by omega, rfl⟩
  case rest =>
    obtain ⟨cap2, rfl, HCb⟩ := hcut
    have h1 : WdAt wc P C cap u fed en o n c := by rw [HCb.out.2.2]; exact HW.out.below (below1 _ _)
    have h2 : Hid (ChAt wc w.heap.size cap2 []) := by rw [HCb.out.2.2]; exact ⟨0, 0, Array.getElem?_push_size⟩
    have HO : Hid (Oth (fun j => j = P ∨ j = C) w wc) := by rw [HCb.out.2.2]; exact (Oth.refl _ _).alloc _
    have HN : Hid (w.heap.size ≠ P ∧ w.heap.size ≠ C) := ⟨by have := HW.out.blk.lt; omega, by have := HW.out.ch.lt; omega⟩
    clear c0 c1 c2 c3 c4 f0 f1 f2 f3 f4 hl hcp m1 m2 hw2
    obtain ⟨c0, c1, c2, c3, c4, f0, f1, f2, f3, f4⟩ := h1.blk.all5
    have hl := lenChan h1.ch
    rw [HK.out.1] at hl
    have H1 : Hid (WdAt wc P C cap u fed en o n c) := h1
    have hkb : (k : Int) ≤ 1048576 := by have := HK.out; omega
    clear h1
    go_wp2
    go_loopw [34] (fun v34 wr => ∃ j : Nat, v34 = .int .i64 (j : Int) ∧ Hid (j ≤ k ∧ ChAt wr C cap (u.drop j) ∧ ChAt wr w.heap.size cap2 (u.take j) ∧ Blk wr P #[.pointer (some ⟨P, 0, none⟩), .chan (some C), .int .i64 (fed : Int), .bool en, .slice o n c] 43 ∧ Oth (fun j => j = P ∨ j = C) w wr)) (fun v _ => k - (intOf v).toNat)
    case atStart => exact ⟨0, rfl, Nat.zero_le _, by simpa using H1.out.ch, by simpa using h2.out, H1.out.blk, HO.out⟩
    case round =>
      obtain ⟨j, rfl, HI⟩ := hrel
      by_cases hj : j < k
      · have hji : (j : Int) < (k : Int) := by omega
        clear c0 c1 c2 c3 c4 f0 f1 f2 f3 f4 hl
        obtain ⟨c0, c1, c2, c3, c4, f0, f1, f2, f3, f4⟩ := HI.out.2.2.2.1.all5
        go_upto_region 5 with fail
        refine wp_region_to ?_
        refine OpsTo.value rfl (by kernel_rfl) (v := .chan (some w.heap.size)) (by kernel_rfl) ?_
        refine OpsTo.value rfl (by kernel_rfl) (v := .pointer (some ⟨P, 0, none⟩)) (by kernel_rfl) ?_
        refine OpsTo.value rfl (by kernel_rfl) (v := .pointer (some ⟨P, 0, none⟩)) (by kernel_rfl) ?_
        refine OpsTo.value rfl (by kernel_rfl) (v := .pointer (some ⟨P, 1, none⟩)) (by kernel_rfl) ?_
        refine OpsTo.value rfl (by kernel_rfl) (v := .chan (some C)) (by simp [execOp, go_sem, Act.eval, Act.put, c1]) ?_
        obtain ⟨x, hx⟩ : ∃ x, u[j]? = some x := ⟨u[j]'(by have := HK.out; omega), List.getElem?_eq_getElem _⟩
        have hdr : u.drop j = x :: u.drop (j + 1) := drop_cons hx
        have htk : u.take j ++ [x] = u.take (j + 1) := take_snoc hx
        obtain ⟨-, ⟨s1, r1, h1⟩, ⟨s2, r2, h2'⟩, hB, hO⟩ := HI.out
        rw [hdr] at h1
        have HR : Hid (Moved w wr P C cap cap2 u j x fed en o n c s1 r1 s2 r2) := ⟨h1, h2', hB, hO, HN.out.1, HN.out.2, by rw [List.length_take]; have := HK.out; have := HCb.out; omega⟩
        refine OpsTo.recv (c := C) (z := .int .u8 0) rfl (by kernel_rfl) (by kernel_rfl) HR.out.ch1 (by rw [bvs_size]; simp) ?_
        rw [bvs_head, bvs_tail]
        refine OpsTo.send (c := w.heap.size) (v := .int .u8 x) (z' := .tuple #[]) rfl (by kernel_rfl) (by kernel_rfl) HR.out.ch2 HR.out.room ?_
        refine OpsTo.nil ?_
        have HQ : Hid (∃ W, W = (wr.setChan C cap (bvs (u.drop (j + 1))) false s1 (r1 + 1) false).setChan w.heap.size cap2 ((bvs (u.take j)).push (.int .u8 x)) false (s2 + 1) r2 false) := ⟨_, rfl⟩
        obtain ⟨W, hW⟩ := HQ.out
        rw [← hW]
        have HF : Hid (ChAt W C cap (u.drop (j + 1)) ∧ ChAt W w.heap.size cap2 (u.take (j + 1)) ∧ Blk W P #[.pointer (some ⟨P, 0, none⟩), .chan (some C), .int .i64 (fed : Int), .bool en, .slice o n c] 43 ∧ Oth (fun j => j = P ∨ j = C) w W) := by rw [hW, ← htk]; exact HR.out.next
        have HJ : Hid (j < k) := hj
        clear hW HQ HR hdr htk hx hj h1 h2' hB hO c0 c1 c2 c3 c4 f0 f1 f2 f3 f4
        go_wp2
        refine ⟨⟨j + 1, by congr 1, HJ.out, HF.out.1, HF.out.2.1, HF.out.2.2.1, HF.out.2.2.2⟩, ?_⟩
        show k - ((j : Int) + 1).toNat < k - (j : Int).toNat
        have := HJ.out
        omega
      · have hji : ¬ (j : Int) < (k : Int) := by omega
        have HF : Hid (ChAt wr w.heap.size cap2 u) := by
          have h9 := HI.out.2.2.1
          rwa [List.take_of_length_le (by have := HK.out; omega)] at h9
        clear c0 c1 c2 c3 c4 f0 f1 f2 f3 f4 hl
        obtain ⟨c0, c1, c2, c3, c4, f0, f1, f2, f3, f4⟩ := HI.out.2.2.2.1.all5
        clear hj
        go_wp2
        refine bodyPost_end (v := .tuple #[]) (by simp [results, Try.results23, go_sem]) rfl ⟨rfl, cap2, HCb.out.1, ⟨HI.out.2.2.2.1.set 1 _, HF.out.at (Below.heap_setCell _ _ _ _ HN.out.1), by have := HK.out; have := HCb.out; omega, HW.out.le, HW.out.most, HCb.out.2.1⟩, ?_⟩
        exact Oth.setCell (p := ⟨P, 1, none⟩) HI.out.2.2.2.2 (fun _ => .inl rfl) _
end
end Go.Proofs.Ytkjbdjobglnphaa
