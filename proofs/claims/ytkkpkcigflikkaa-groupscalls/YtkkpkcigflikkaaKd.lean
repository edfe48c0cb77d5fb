/-
  Package groups: Push, by a contract.
-/
import Derived.Test.YtkkpkcigflikkaaKc
namespace Go.Proofs.Ytkkpkcigflikkaa
open Go.RowKit Go.Shelf Go.Maps G
set_option linter.unusedVariables false
theorem assertInt (x : Int) (W : World) : (Instr.typeAssert (.iface 3 (.int .i64 x)) 20 3 false).run Try.prog W = .ok (.int .i64 x) W := by kernel_rfl
theorem push_arm {ops : Array Oper} {oo : Oper} {a : Act} {K : Act → World → Prop} {Q : Exit → Act → World → Prop} {E : Prop} {V0 : World} {T : Nat} {v : Value} {l : List Nat} {x : Nat}
    (H : Hid (TurnAt V0 T v l)) (hl : l.length ≤ 100000)
    (s t : Operand) (hgd : oo.guard = none) (ho : oo.op = .call { callee := .builtin .append, args := #[s, t], argTypes := #[58, 58] }) (hs : a.eval s = v) (hx : a.eval t = .slice (some ⟨V0.heap.size, 0, none⟩) 1 1)
    (h : ∀ o7 c7 w7, Hid (TurnAt (w7.setCell ⟨T, 0, none⟩ (.slice (some ⟨o7, 0, none⟩) (l.length + 1) c7)) T (.slice (some ⟨o7, 0, none⟩) (l.length + 1) c7) (l ++ [x]) ∧ Below T V0 w7 ∧ Fr T v V0 (w7.setCell ⟨T, 0, none⟩ (.slice (some ⟨o7, 0, none⟩) (l.length + 1) c7)) (.slice (some ⟨o7, 0, none⟩) (l.length + 1) c7)) → w7.cell? ⟨T, 0, none⟩ = some v → w7.frozen? ⟨T, 0, none⟩ = false → T < w7.heap.size → K (a.put oo.dst (.slice (some ⟨o7, 0, none⟩) (l.length + 1) c7)) w7) :
    if Region.wanted oo (yielded ops a.tmps) = true then Oper.wp Try.prog oo a (V0.alloc (.cells #[.int .i64 (x : Int)] 3)).drew K Q else E := by
  obtain ⟨i0, i1, i2, i3, i4⟩ := info_parts infoInt
  have hh := H.out
  have lT := hh.b.lt
  refine step_append_lies _ hgd s t 58 ho (T + 1) 3 i0 _ 1 8 Try.underlying58 i1 i2 i3 i4 rfl (by decide) v l.length (l.map nv) hs (hh.r.alloc _).drew ⟨V0.heap.size, 0, none⟩ 1 1 [nv x] hx rfl (fun j u hu => by rw [Addr.add_lit, Nat.zero_add]; exact (Blk.new V0 #[.int .i64 (x : Int)] 3).drew.cell j u (by simpa [nv] using hu)) (fun u hu => by simp only [List.mem_cons, List.not_mem_nil, or_false] at hu; rw [hu]; rfl) (by decide) (by unfold maxLen; omega) (by omega) (by show T + 1 ≤ (V0.alloc _).heap.size; simp; omega) (V0.heap.size + 1) (by show (V0.alloc _).heap.size = _; simp) ?_
  intro o7 c7 w7 hown7 hgrow7 hat7 hlt7
  have hne : v.ownBlock ≠ some T := fun e => by have := (owns_lt hh.r e).1; omega
  have hX : Blk w7 T #[v] 60 := (hh.b.alloc _).drew.same (grown_block hgrow7 (by show T < (V0.alloc _).heap.size; simp; omega) hne)
  refine h o7 c7 w7 ⟨⟨hX.set 0 _, ?_⟩, ?_, ?_⟩ (hX.cell 0 _ rfl) (hX.frozen 0) hX.lt
  · have h1 : w7.ownsRow (T + 1) 3 1 (.slice (some ⟨o7, 0, none⟩) (l.length + 1) c7) (l ++ [x]).length ((l ++ [x]).map nv) := by simpa using hown7
    exact owns_same h1 (fun g hg => heap_set_other _ _ _ _ _ (by have := (owns_lt h1 hg).1; omega))
  · exact ((((Below.refl T V0).alloc (by omega) _).drew).grown hgrow7 (by show T ≤ (V0.alloc _).heap.size; simp; omega) (fun g hg => by have := (owns_lt hh.r hg).1; omega))
  · have hsz := hgrow7.size
    refine ⟨by rw [size_set]; have h9 : (V0.alloc (.cells #[.int .i64 (x : Int)] 3)).heap.size ≤ w7.heap.size := hsz; simp at h9; omega, fun k h1 h2 h3 => ?_, fun g hg => ?_⟩
    · refine (heap_set_other _ _ _ _ _ h2).trans ((grown_block hgrow7 (by show k < (V0.alloc _).heap.size; simp; omega) h3).trans ?_)
      exact Below.heap_alloc V0 _ k h1
    · have e : o7 = g := by simpa [Value.ownBlock] using hg
      subst e
      rcases hat7 with h7 | h7
      · exact .inl h7
      · right; omega
set_option maxHeartbeats 4000000 in
set_option maxRecDepth 100000 in
theorem hPush_c (T : Nat) (v : Value) (l : List Nat) (x : Nat) (hl : l.length ≤ 100000) (w : World) (h : TurnAt w T v l) : Calls Try.prog 92 #[.pointer (some ⟨T, 0, none⟩), .iface 3 (.int .i64 (x : Int))] w fun r W' => r = .returned (.tuple #[]) ∧ (∃ v', TurnAt W' T v' (l ++ [x]) ∧ Fr T v w W' v') ∧ Below T w W' := by
  have hdep : Try.prog.follows Departure.mixedOrders = true := by kernel_rfl
  obtain ⟨o0, k0, rfl, hk0, hk1⟩ := owns_form h.r
  have bT := h.b.cell 0 _ rfl
  have fT := h.b.frozen 0
  have lT := h.b.lt
  have HT : Hid (TurnAt w T (.slice o0 l.length k0) l) := h
  have HL : Hid (l.length ≤ 100000) := hl
  have hta := assertInt
  clear h hl
  go_enter Try.func92, Try.ntmps92
  go_upto_region 0 with fail
  go_region_law (first | (refine push_arm (x := x) HT HL.out _ _ (by rfl) (by rfl) (by rfl) (by rfl) ?_; intro o7 c7 w7 H7 c07 f07 l07) | (go_simp; go_wp2_with fail))
  all_goals (
    go_end0
    exact ⟨rfl, ⟨_, H7.out.1, H7.out.2.2⟩, H7.out.2.1.setCell (p := ⟨T, 0, none⟩) (Nat.le_refl _) _⟩)
end Go.Proofs.Ytkkpkcigflikkaa
