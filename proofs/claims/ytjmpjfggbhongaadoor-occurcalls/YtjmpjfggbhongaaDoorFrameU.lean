/-
  What the listed variables hold gives the walks what they ask (stage 16).
-/
import Derived.Test.YtjmpjfggbhongaaDoorRows
import Derived.Test.YtjmpjfggbhongaaDoorUj
import Derived.LaidSub
import Derived.MakeChecks
import Derived.Lib.LaidTab
namespace Go.Proofs.YtjmpjfggbhongaaDoor
open Go.RowKit Go.Shelf
set_option linter.unusedVariables false

/-- An array of arrays of numbers, cell for cell. -/
theorem cells_of_tab2 {H : Type} {enc : TypeId × Value → H} {P : Program} {w : World} {base : Nat} {sp : Nat → Bool} {held : Bool} {fuel : Nat} {t r e : TypeId} {n m : Nat} {k : IntKind} {cs : List Value} {rows : List (List Int)} {p : List MemPlace}
    (ht : P.underlying t = some (.array n r)) (hr : P.underlying r = some (.array m e)) (he : P.underlying e = some (.int k)) (hce : P.cellsOf e = 1) (hcr : P.cellsOf r = m) (hct : P.cellsOf t = n * m)
    (h : DataW.trod enc P w base sp held fuel t cs = some (.agg (rows.map (Lib.tabData k)), p)) : ∀ i j, i < n → j < m → cs[i * m + j]? = some (.int k (((rows[i]?).getD [])[j]?.getD 0)) := by
  cases fuel with
  | zero => simp [DataW.trod] at h
  | succ fuel =>
    simp only [DataW.trod, ht, hcr] at h
    split at h
    · rename_i hl
      obtain ⟨xs, hm, hx⟩ := Option.map_eq_some_iff.1 h
      have hxs : xs.map (·.1) = rows.map (Lib.tabData k) := by
        have := congrArg Prod.fst hx
        simpa using this
      have hxl : xs.length = n := by simpa using Lib.mapM_length hm
      intro i j hi hj
      obtain ⟨b, hb, hf⟩ := Lib.mapM_at hm i i (by simp [hi])
      have h2 : (xs.map (·.1))[i]? = some b.1 := by simp [hb]
      rw [hxs] at h2
      simp only [List.getElem?_map, Option.map_eq_some_iff] at h2
      obtain ⟨zs, hz, hzb⟩ := h2
      have hb2 : b = (Lib.tabData k zs, b.2) := by rw [hzb]
      rw [hb2] at hf
      have hcs := Lib.cells_of_tab hr he hce hcr hf
      have hlz : zs.length = m := by
        have := congrArg List.length hcs
        simp at this
        have h3 : i * m + m ≤ n * m := by have := Nat.mul_le_mul_right m (show i + 1 ≤ n by omega); rw [Nat.add_mul, Nat.one_mul] at this; exact this
        have hl2 : cs.length = n * m := hl.trans hct
        rw [hl2] at this
        generalize i * m = a at this h3
        generalize n * m = b at this h3
        omega
      have h1 := congrArg (·[j]?) hcs
      simp only [List.getElem?_take_of_lt hj, List.getElem?_drop, List.getElem?_map] at h1
      rw [h1, hz]
      have hjz : j < zs.length := by omega
      simp [hjz]
    · cases h
theorem only {W : World} {l : List (String × DataW Unit)} (h : laidMetH Tryd.prog l W) (n : String) (d : DataW Unit) (hf : l.filter (fun x => x.1 == n) = [(n, d)]) (hp : d.handleName? = none) : laidMet Tryd.prog [(n, d)] W := by
  have h1 := laidMetH.filter (fun x => x.1 == n) h
  rw [hf] at h1
  have h2 := (laidMetH_iff.1 h1).1
  simpa [hp] using h2
def rowsT : List (List Int) := [[0, 0, 0, 0, 0], [0, 0, 2, 0, 4], [0, 0, 5, 0, 5], [0, 0, 5, 0, 5], [0, 0, 5, 0, 5], [0, 0, 5, 0, 5]]
def rowsA : List (List Int) := [[0, 0, 0, 0, 0], [0, 0, 2, 0, 4], [0, 0, 3, 0, 5], [0, 0, 3, 0, 5], [0, 0, 5, 0, 5], [0, 0, 5, 0, 5]]
theorem gA : Tryd.prog.globalNamed "thunkmill/occur.apart" = some 0 := by kernel_rfl
theorem gT : Tryd.prog.globalNamed "thunkmill/occur.together" = some 1 := by kernel_rfl
theorem tA : (Tryd.prog.globals[0]?).map (·.type) = some 120 := by kernel_rfl
theorem tT : (Tryd.prog.globals[1]?).map (·.type) = some 120 := by kernel_rfl
theorem cellsRow5 : Tryd.prog.cellsOf 119 = 5 := by kernel_rfl
theorem cellsTab : Tryd.prog.cellsOf 120 = 6 * 5 := by kernel_rfl
theorem cellsI3 : Tryd.prog.cellsOf 3 = 1 := by kernel_rfl
theorem tab_of {W : World} {name : String} {g : Nat} {rows : List (List Int)} (hg : Tryd.prog.globalNamed name = some g) (hty : (Tryd.prog.globals[g]?).map (·.type) = some 120) (h : laidMet Tryd.prog [(name, .agg (rows.map (Lib.tabData .i64)))] W) : ∀ i j, i < 6 → j < 5 → W.cell? ⟨g, i * 5 + j, none⟩ = some (.int .i64 (((rows[i]?).getD [])[j]?.getD 0)) := by
  obtain ⟨ps, ⟨g', t', cs, fuel, p, q, hg', ht', hvar, hd, _, _⟩, _⟩ := h
  obtain rfl := Option.some.inj (hg.symm.trans hg')
  obtain rfl := Option.some.inj (hty.symm.trans ht')
  intro i j hi hj
  have h1 := cells_of_tab2 Tryd.underlying120 Tryd.underlying119 Tryd.underlying3 cellsI3 cellsRow5 cellsTab hd i j hi hj
  have h2 := World.var?_cell hg hvar (i * 5 + j)
  rw [h2, ← h1]; simp
theorem gt16_of {W : World} (h : laidMetH Tryd.prog Rows.occurCountsRow.laid W) : GT16 W := by
  have hA := tab_of (rows := rowsA) gA tA (only h "thunkmill/occur.apart" Rows.laid_thunkmill_occur_apart (by rfl) (by rfl))
  have hT := tab_of (rows := rowsT) gT tT (only h "thunkmill/occur.together" Rows.laid_thunkmill_occur_together (by rfl) (by rfl))
  refine ⟨?_, fun o one h1 h2 h3 => ?_, fun o one h1 h2 h3 => ?_⟩
  · have h9 := hT 1 2 (by decide) (by decide)
    rcases Nat.lt_or_ge 1 W.heap.size with h | h
    · omega
    · simp [World.cell?, Array.getElem?_eq_none h] at h9
  · have h9 := hA o one (by omega) (by omega)
    rw [h9]
    rcases five h1 h2 with rfl | rfl | rfl | rfl | rfl <;> rcases h3 with rfl | rfl <;> rfl
  · have h9 := hT o one (by omega) (by omega)
    rw [h9]
    rcases five h1 h2 with rfl | rfl | rfl | rfl | rfl <;> rcases h3 with rfl | rfl <;> rfl
end Go.Proofs.YtjmpjfggbhongaaDoor
