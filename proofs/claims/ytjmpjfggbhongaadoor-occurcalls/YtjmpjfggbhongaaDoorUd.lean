/-
  A walk in memory (stage 16): bind, by a contract.
-/
import Derived.Test.YtjmpjfggbhongaaDoorUc
namespace Go.Proofs.YtjmpjfggbhongaaDoor
open Go.RowKit Go.Shelf Go.Maps
set_option linter.unusedVariables false

theorem infoPb : (Tryd.prog.info? 57).map (fun i => (i.zero, i.size, i.bytes)) = some (some (.pointer none), 1, 8) := by kernel_rfl
theorem infoPt : (Tryd.prog.info? 116).map (fun i => (i.zero, i.size, i.bytes)) = some (some (.agg #[.int .i64 0, .int .i64 0]), 2, 16) := by kernel_rfl
theorem info_parts16 {P : Program} {T : TypeId} {z : Value} {s by' : Nat} (h : (P.info? T).map (fun i => (i.zero, i.size, i.bytes)) = some (some z, s, by')) : ∃ i, P.info? T = some i ∧ i.zero = some z ∧ i.size = s ∧ i.bytes = by' := by
  obtain ⟨i, h1, h2⟩ := Option.map_eq_some_iff.1 h
  simp only [Prod.mk.injEq] at h2
  exact ⟨i, h1, h2.1, h2.2.1, h2.2.2⟩
theorem grown_block16 {W W' : World} {ob : Option Nat} (h : W.grownBy W' ob) {k : Nat} (hk : k < W.heap.size) (hn : ob ≠ some k) : W'.heap[k]? = W.heap[k]? := h.block k hk (fun e => hn e.symm)
theorem cell_one16 (V : World) (v : Value) (T : TypeId) : ∀ (j : Nat) (u : Value), [v][j]? = some u → (V.alloc (.cells #[v] T)).cell? ((⟨V.heap.size, 0, none⟩ : Addr).add j) = some u := by
  intro j u hu
  rw [Addr.add_lit, Nat.zero_add]
  exact (Blk.new V #[v] T).cell j u (by simpa using hu)
/-- A binder is put behind those in scope. -/
theorem WkS.pushScope {V w8 : World} {F P : Nat} {s : WS} {bl : Nat → Nat} {pv av : Value} {o : Option Addr} {cap m c i : Nat} (h : WkS V F P s bl pv (.slice o s.scope.length cap) av m c) (hi : i < s.bs.length) {v0 : Value} (hv0 : v0 = ptV bl (some i)) {g8 c8 : Nat}
    (hown : w8.ownsRow F 57 1 (.slice (some ⟨g8, 0, none⟩) (s.scope.length + 1) c8) (s.scope.length + 1) (iL bl s.scope ++ [v0])) (hgr : (V.alloc (.cells #[v0] 57)).grownBy w8 (Value.ownBlock (.slice o s.scope.length cap))) (hat : Value.ownBlock (.slice o s.scope.length cap) = some g8 ∨ g8 = V.heap.size + 1) :
    WkS (w8.setCell ⟨P, 4, none⟩ (.slice (some ⟨g8, 0, none⟩) (s.scope.length + 1) c8)) F P { s with scope := s.scope ++ [i] } bl pv (.slice (some ⟨g8, 0, none⟩) (s.scope.length + 1) c8) av m c ∧ Below F V w8 ∧ w8.cell? ⟨P, 4, none⟩ = some (.slice o s.scope.length cap) ∧ w8.frozen? ⟨P, 4, none⟩ = false ∧ P < w8.heap.size := by
  have hal := h.on (below1 V (.cells #[v0] 57))
  have hsz : (V.alloc (.cells #[v0] 57)).heap.size = V.heap.size + 1 := Array.size_push _
  have hPl := h.blk.lt
  have hX : Blk w8 P #[pv, .int .i64 (s.lam : Int), .int .i64 (s.met : Int), .map (some m), .slice o s.scope.length cap, av] 73 := blk_same hal.blk (grown_block16 hgr (by omega) (fun e => neT (hal.tysv e) hal.tyP (by decide) rfl))
  have hs8 := hgr.size
  have hown2 : w8.ownsRow F 57 1 (.slice (some ⟨g8, 0, none⟩) (s.scope.length + 1) c8) (s.scope ++ [i]).length (iL bl (s.scope ++ [i])) := by
    have e : iL bl (s.scope ++ [i]) = iL bl s.scope ++ [v0] := by unfold iL; rw [List.map_append, hv0]; rfl
    rw [e, List.length_append]; exact hown
  have hP8 : g8 ≠ P := by
    have hty8 : tyOf w8 g8 = some 57 := tyOwn hown (g := g8) rfl
    exact neT hty8 (tyBlk hX) (by decide)
  refine ⟨?_, ?_, hX.cell 4 _ rfl, hX.frozen 4, hX.lt⟩
  · have hbs := But.set P w8 4 (.slice (some ⟨g8, 0, none⟩) (s.scope.length + 1) c8)
    refine hal.setScope (W' := w8.setCell ⟨P, 4, none⟩ (.slice (some ⟨g8, 0, none⟩) (s.scope.length + 1) c8)) (Nat.le_trans hs8 hbs.size) (fun g h1 h2 h3 => (hbs.block g (Nat.lt_of_lt_of_le h1 hs8) h2).trans (grown_block16 hgr h1 h3)) (hX.set 4 _) ?_ (fun g hg => ?_) (fun j hj => ?_)
    · refine owns_same16 hown2 (fun g hg => ?_)
      cases hg
      exact hbs.block g8 (owns_lt hown (g := g8) rfl).2 hP8
    · cases hg
      intro e
      rcases hat with h7 | h7
      · exact h.sa _ h7 e
      · have h6 : g8 < V.heap.size := (owns_lt h.ar e).2; omega
    · rcases List.mem_append.1 hj with h9 | h9
      · exact h.rg.rs j h9
      · simp at h9; omega
  · exact ((Below.refl F V).alloc h.FW _).grown hgr (by have := h.FW; omega) (fun g hg => (owns_lt h.sr hg).1)
/-- A binder is put behind those of the answer. -/
theorem WkS.pushAsked {V w8 : World} {F P : Nat} {s : WS} {bl : Nat → Nat} {pv sv : Value} {o : Option Addr} {cap m c i : Nat} (h : WkS V F P s bl pv sv (.slice o s.asked.length cap) m c) (hi : i < s.bs.length) {v0 : Value} (hv0 : v0 = ptV bl (some i)) {g8 c8 : Nat}
    (hown : w8.ownsRow F 57 1 (.slice (some ⟨g8, 0, none⟩) (s.asked.length + 1) c8) (s.asked.length + 1) (iL bl s.asked ++ [v0])) (hgr : (V.alloc (.cells #[v0] 57)).grownBy w8 (Value.ownBlock (.slice o s.asked.length cap))) (hat : Value.ownBlock (.slice o s.asked.length cap) = some g8 ∨ g8 = V.heap.size + 1) :
    WkS (w8.setCell ⟨P, 5, none⟩ (.slice (some ⟨g8, 0, none⟩) (s.asked.length + 1) c8)) F P { s with asked := s.asked ++ [i] } bl pv sv (.slice (some ⟨g8, 0, none⟩) (s.asked.length + 1) c8) m c ∧ Below F V w8 ∧ w8.cell? ⟨P, 5, none⟩ = some (.slice o s.asked.length cap) ∧ w8.frozen? ⟨P, 5, none⟩ = false ∧ P < w8.heap.size := by
  have hal := h.on (below1 V (.cells #[v0] 57))
  have hsz : (V.alloc (.cells #[v0] 57)).heap.size = V.heap.size + 1 := Array.size_push _
  have hPl := h.blk.lt
  have hX : Blk w8 P #[pv, .int .i64 (s.lam : Int), .int .i64 (s.met : Int), .map (some m), sv, .slice o s.asked.length cap] 73 := blk_same hal.blk (grown_block16 hgr (by omega) (fun e => neT (hal.tyav e) hal.tyP (by decide) rfl))
  have hs8 := hgr.size
  have hown2 : w8.ownsRow F 57 1 (.slice (some ⟨g8, 0, none⟩) (s.asked.length + 1) c8) (s.asked ++ [i]).length (iL bl (s.asked ++ [i])) := by
    have e : iL bl (s.asked ++ [i]) = iL bl s.asked ++ [v0] := by unfold iL; rw [List.map_append, hv0]; rfl
    rw [e, List.length_append]; exact hown
  have hP8 : g8 ≠ P := by
    have hty8 : tyOf w8 g8 = some 57 := tyOwn hown (g := g8) rfl
    exact neT hty8 (tyBlk hX) (by decide)
  refine ⟨?_, ?_, hX.cell 5 _ rfl, hX.frozen 5, hX.lt⟩
  · have hbs := But.set P w8 5 (.slice (some ⟨g8, 0, none⟩) (s.asked.length + 1) c8)
    refine hal.setAsked (W' := w8.setCell ⟨P, 5, none⟩ (.slice (some ⟨g8, 0, none⟩) (s.asked.length + 1) c8)) (Nat.le_trans hs8 hbs.size) (fun g h1 h2 h3 => (hbs.block g (Nat.lt_of_lt_of_le h1 hs8) h2).trans (grown_block16 hgr h1 h3)) (hX.set 5 _) ?_ (fun g hg => ?_) (fun j hj => ?_)
    · refine owns_same16 hown2 (fun g hg => ?_)
      cases hg
      exact hbs.block g8 (owns_lt hown (g := g8) rfl).2 hP8
    · intro e
      cases e
      rcases hat with h7 | h7
      · exact h.sa _ hg h7
      · have h6 : g8 < V.heap.size := (owns_lt h.sr hg).2; omega
    · rcases List.mem_append.1 hj with h9 | h9
      · exact h.rg.ra j h9
      · simp at h9; omega
  · exact ((Below.refl F V).alloc h.FW _).grown hgr (by have := h.FW; omega) (fun g hg => (owns_lt h.ar hg).1)
end Go.Proofs.YtjmpjfggbhongaaDoor
