/-
  A walk in memory (stage 16): leave, by a contract.
-/
import Derived.Test.YtjmpjfggbhongaaDoorUb
namespace Go.Proofs.YtjmpjfggbhongaaDoor
open Go.RowKit Go.Shelf Go.Maps
set_option linter.unusedVariables false

/-- A row's first part. -/
theorem owns_take {W : World} {b e z n : Nat} {o : Option Addr} {cap : Nat} {xs : List Value} (h : W.ownsRow b e z (.slice o n cap) n xs) (hz : 0 < z) {k : Nat} (hk : k ≤ n) (hk0 : o = none → k = 0) : W.ownsRow b e z (.slice o k cap) k (xs.take (k * z)) := by
  rcases h with ⟨hl, ⟨h1, h2⟩ | ⟨g, cp, cur, h1, h2, h3, h4, h5, h6, h7⟩⟩
  · cases h1
    obtain rfl := hk0 rfl
    exact ⟨by simp, .inl ⟨rfl, rfl⟩⟩
  · cases h1
    refine ⟨by rw [List.length_take, hl]; exact Nat.min_eq_left (Nat.mul_le_mul_right z hk), .inr ⟨g, cap, cur, rfl, h2, h3, by omega, h5, h6, ?_⟩⟩
    rw [← h7, List.take_take, Nat.min_eq_left (Nat.mul_le_mul_right z hk)]
theorem pL_tail (l : List (Nat × Option Nat)) : (pL l).take (l.tail.length * 2) = pL l.tail := by
  cases l with
  | nil => rfl
  | cons q r =>
    have : pL (q :: r) = pL r ++ pC q := by unfold pL; rw [List.reverse_cons, List.flatMap_append]; simp
    rw [this]
    show List.take (r.length * 2) _ = _
    rw [← pL_len r, List.take_left]; rfl
set_option maxHeartbeats 8000000 in
set_option maxRecDepth 100000 in
theorem wkLeave_c (F P B d : Nat) (t : Tr (d + 1)) (g off : Nat) (s : WS) (w : World) (h : WkAt w F P s) (hE : ExAt w B (d + 1) t g off) (hB : B ≤ F) (hp : 1 ≤ s.parts.length) (hl : TrN.kind t = 5 → 1 ≤ s.lam) (ht : tot s ≤ 3000000) :
    Calls Tryd.prog 51 #[.pointer (some ⟨P, 0, none⟩), .pointer (some ⟨g, off, none⟩)] w fun e w' => e = .returned (.tuple #[]) ∧ WkAt w' F P (popS (TrN.kind t) s) ∧ Below F w w' := by
  obtain ⟨bl, pv, sv, av, m, c, h⟩ := h
  have HS : Hid (WkS w F P s bl pv sv av m c) := h
  obtain ⟨c0, c1, c2, c3, c4, c5, f0, f1, f2, f4, f5⟩ := h.blk.all6
  have lP := h.blk.lt
  obtain ⟨o, cap, rfl, hn, hcap⟩ := owns_form h.pr
  obtain ⟨hg, e0, -⟩ := hE
  have lg : g < w.heap.size := by have := h.FW; omega
  have hgP : g ≠ P := by have := h.FP; omega
  have ho : ∃ q, o = some q := by
    cases o with
    | none =>
      rcases h.pr with ⟨_, ⟨e1, e2⟩ | ⟨g', cp, cur, e1, _⟩⟩
      · omega
      · cases e1
    | some q => exact ⟨q, rfl⟩
  obtain ⟨q, rfl⟩ := ho
  obtain ⟨n, hnn⟩ : ∃ n, s.parts.length = n := ⟨_, rfl⟩
  have hb1 : tot s = s.met + s.puts + s.bs.length + s.asked.length + s.scope.length + s.parts.length + s.lam := rfl
  have hn1 : (1 : Int) ≤ (n : Int) := by omega
  have hn2 : (n : Int) ≤ 3000000 := by omega
  have hnc : n ≤ cap := by omega
  have HX : Hid (n = s.parts.length ∧ F ≤ P ∧ 1 ≤ n) := ⟨hnn.symm, h.FP, by omega⟩
  have hncI : (n : Int) ≤ (cap : Int) := by omega
  have hcapI : (cap : Int) ≤ 9223372036854775807 := by omega
  rw [hnn] at c0
  have hm1 : ((n : Int) - 1).toNat = n - 1 := by omega
  clear h hn hcap hnn hb1 hp
  go_enter Tryd.func51, Tryd.ntmps51
  go_wp2
  go_region
  have hm2 : (n - 1) = s.parts.tail.length := by rw [List.length_tail]; have := HX.out.1; omega
  obtain ⟨V, hV⟩ : ∃ V, (w.setCell ⟨P, 0, none⟩ (.slice (some q) (n - 1) cap)).drew = V := ⟨_, rfl⟩
  rw [hV]
  have hS1 : WkS V F P { s with parts := s.parts.tail } bl (.slice (some q) (n - 1) cap) sv av m c := by
    have hbs := But.set P w 0 (.slice (some q) (n - 1) cap)
    have hr := owns_take (h := by have := HS.out.pr; rw [← HX.out.1] at this; exact this) (by decide : 0 < 2) (show n - 1 ≤ n by omega) (fun e => by cases e)
    rw [hm2, pL_tail, ← hm2] at hr
    have hx := HS.out.setParts (W' := w.setCell ⟨P, 0, none⟩ (.slice (some q) (n - 1) cap)) hbs.size (fun g h1 h2 h3 => hbs.block g h1 h2) (pv' := .slice (some q) (n - 1) cap) (l := s.parts.tail) (HS.out.blk.set 0 _) (by rw [← hm2]; exact owns_same16 hr (fun g hg => hbs.block g (owns_lt hr hg).2 (neT (HS.out.typv (g := g) hg) HS.out.tyP (by decide))))
    rw [← hV]
    exact hx.drew
  have hB1 : Below F w V := by rw [← hV]; exact ((Below.refl F w).setCell (p := ⟨P, 0, none⟩) HX.out.2.1 _).drew
  have e0' : V.cell? ⟨g, off, none⟩ = some (.int .i64 (TrN.kind t)) := by rw [hB1.cell (p := ⟨g, off, none⟩) (by show g < F; omega)]; exact e0
  have lg' : g < V.heap.size := Nat.lt_of_lt_of_le lg hB1.size
  have HB1 : Hid (Below F w V) := hB1
  have H1 : Hid (WkS V F P { s with parts := s.parts.tail } bl (.slice (some q) (n - 1) cap) sv av m c) := hS1
  clear c0 c1 c2 c3 c4 c5 f0 f1 f2 f4 f5 e0 lP lg hB1
  obtain ⟨c0, c1, c2, c3, c4, c5, f0, f1, f2, f4, f5⟩ := hS1.blk.all6
  have lP := hS1.blk.lt
  clear hS1
  by_cases hk : TrN.kind t = 5
  · have hl1 := hl hk
    obtain ⟨lm, hlm⟩ : ∃ lm, s.lam = lm := ⟨_, rfl⟩
    have hlm1 : (1 : Int) ≤ (lm : Int) := by omega
    have hlm2 : (lm : Int) ≤ 3000000 := by have : tot s = s.met + s.puts + s.bs.length + s.asked.length + s.scope.length + s.parts.length + s.lam := rfl; omega
    have HL : Hid (s.lam = lm ∧ TrN.kind t = 5 ∧ 1 ≤ lm) := ⟨hlm, hk, by omega⟩
    simp only [hlm] at c1
    rw [hk] at e0'
    clear hk hl1 hlm hl ht
    go_wp2
    go_end0
    have e : ((lm : Int) - 1) = ((s.lam - 1 : Nat) : Int) := by have := HL.out; omega
    have hbs := But.set P V 1 (.int .i64 ((lm : Int) - 1))
    refine ⟨rfl, ⟨bl, .slice (some q) (n - 1) cap, sv, av, m, c, ?_⟩, HB1.out.setCell (p := ⟨P, 1, none⟩) HX.out.2.1 _⟩
    have hx := H1.out.setP (W' := V.setCell ⟨P, 1, none⟩ (.int .i64 ((lm : Int) - 1))) hbs.size (fun g h1 h2 => hbs.block g h1 h2) (s.lam - 1) s.met (by rw [← e]; exact H1.out.blk.set 1 _)
    have e2 : popS (TrN.kind t) s = { s with parts := s.parts.tail, lam := s.lam - 1 } := by unfold popS; rw [if_pos HL.out.2.1]
    rw [e2]; exact hx
  · have HK : Hid (¬ TrN.kind t = 5) := hk
    clear hl ht
    go_wp2
    go_end0
    refine ⟨rfl, ⟨bl, .slice (some q) (n - 1) cap, sv, av, m, c, ?_⟩, HB1.out⟩
    have e2 : popS (TrN.kind t) s = { s with parts := s.parts.tail } := by unfold popS; rw [if_neg HK.out]
    rw [e2]; exact H1.out
end Go.Proofs.YtjmpjfggbhongaaDoor
