/-
  core.Arity, by a contract.
  constructorsOf, shaped, by contracts.
-/
import Derived.Test.YtegdloenakachaaGreatDoorCN01
import Derived.Test.YtegdloenakachaaGreatDoorCN11
namespace Go.Proofs.YtegdloenakachaaGreatDoor
open Go.RowKit Go.Shelf Go.Maps
set_option linter.unusedVariables false

def ar0 : List (List UInt8) := [[103, 101, 116, 99], [101, 111, 102]]
def ar1 : List (List UInt8) := [[111, 114, 100], [99, 104, 114], [101, 114, 114, 111, 114], [115, 104, 111, 119], [114, 101, 116], [112, 117, 116, 99], [101, 120, 105, 116]]
def ar2 : List (List UInt8) := [[97, 100, 100], [115, 117, 98], [109, 117, 108], [113, 117, 111, 116], [114, 101, 109], [101, 113], [110, 101], [108, 116], [108, 101], [103, 116], [103, 101], [99, 101, 113], [99, 108, 116], [115, 101, 113], [98, 105, 110, 100]]
/-- How many arguments a primitive has. -/
def arM (s : List UInt8) : Int := if ar0.contains s then 0 else if ar1.contains s then 1 else if ar2.contains s then 2 else -1
set_option maxRecDepth 100000 in
set_option maxHeartbeats 4000000 in
theorem arity_c (s : ByteArray) (w : World) : Calls Tryz.prog 8 #[.string s] w fun e w' => e = .returned (.int .i64 (arM s.toList)) ∧ w' = w := by
  by_cases h : s.toList = [103, 101, 116, 99]
  · have t : (s.toList == [103, 101, 116, 99]) = true := by rw [h]; decide
    have HR : Hid (arM s.toList = 0) := by show _ = _; rw [h]; decide
    clear h
    go_enter Tryz.func8, Tryz.ntmps8
    go_wp2
    go_ret
    exact ⟨by rw [HR.out]; rfl, rfl⟩
  have t0 : (s.toList == [103, 101, 116, 99]) = false := by simpa using h
  clear h
  by_cases h : s.toList = [101, 111, 102]
  · have t : (s.toList == [101, 111, 102]) = true := by rw [h]; decide
    have HR : Hid (arM s.toList = 0) := by show _ = _; rw [h]; decide
    clear h
    go_enter Tryz.func8, Tryz.ntmps8
    go_wp2
    go_ret
    exact ⟨by rw [HR.out]; rfl, rfl⟩
  have t1 : (s.toList == [101, 111, 102]) = false := by simpa using h
  clear h
  by_cases h : s.toList = [111, 114, 100]
  · have t : (s.toList == [111, 114, 100]) = true := by rw [h]; decide
    have HR : Hid (arM s.toList = 1) := by show _ = _; rw [h]; decide
    clear h
    go_enter Tryz.func8, Tryz.ntmps8
    go_wp2
    go_ret
    exact ⟨by rw [HR.out]; rfl, rfl⟩
  have t2 : (s.toList == [111, 114, 100]) = false := by simpa using h
  clear h
  by_cases h : s.toList = [99, 104, 114]
  · have t : (s.toList == [99, 104, 114]) = true := by rw [h]; decide
    have HR : Hid (arM s.toList = 1) := by show _ = _; rw [h]; decide
    clear h
    go_enter Tryz.func8, Tryz.ntmps8
    go_wp2
    go_ret
    exact ⟨by rw [HR.out]; rfl, rfl⟩
  have t3 : (s.toList == [99, 104, 114]) = false := by simpa using h
  clear h
  by_cases h : s.toList = [101, 114, 114, 111, 114]
  · have t : (s.toList == [101, 114, 114, 111, 114]) = true := by rw [h]; decide
    have HR : Hid (arM s.toList = 1) := by show _ = _; rw [h]; decide
    clear h
    go_enter Tryz.func8, Tryz.ntmps8
    go_wp2
    go_ret
    exact ⟨by rw [HR.out]; rfl, rfl⟩
  have t4 : (s.toList == [101, 114, 114, 111, 114]) = false := by simpa using h
  clear h
  by_cases h : s.toList = [115, 104, 111, 119]
  · have t : (s.toList == [115, 104, 111, 119]) = true := by rw [h]; decide
    have HR : Hid (arM s.toList = 1) := by show _ = _; rw [h]; decide
    clear h
    go_enter Tryz.func8, Tryz.ntmps8
    go_wp2
    go_ret
    exact ⟨by rw [HR.out]; rfl, rfl⟩
  have t5 : (s.toList == [115, 104, 111, 119]) = false := by simpa using h
  clear h
  by_cases h : s.toList = [114, 101, 116]
  · have t : (s.toList == [114, 101, 116]) = true := by rw [h]; decide
    have HR : Hid (arM s.toList = 1) := by show _ = _; rw [h]; decide
    clear h
    go_enter Tryz.func8, Tryz.ntmps8
    go_wp2
    go_ret
    exact ⟨by rw [HR.out]; rfl, rfl⟩
  have t6 : (s.toList == [114, 101, 116]) = false := by simpa using h
  clear h
  by_cases h : s.toList = [112, 117, 116, 99]
  · have t : (s.toList == [112, 117, 116, 99]) = true := by rw [h]; decide
    have HR : Hid (arM s.toList = 1) := by show _ = _; rw [h]; decide
    clear h
    go_enter Tryz.func8, Tryz.ntmps8
    go_wp2
    go_ret
    exact ⟨by rw [HR.out]; rfl, rfl⟩
  have t7 : (s.toList == [112, 117, 116, 99]) = false := by simpa using h
  clear h
  by_cases h : s.toList = [101, 120, 105, 116]
  · have t : (s.toList == [101, 120, 105, 116]) = true := by rw [h]; decide
    have HR : Hid (arM s.toList = 1) := by show _ = _; rw [h]; decide
    clear h
    go_enter Tryz.func8, Tryz.ntmps8
    go_wp2
    go_ret
    exact ⟨by rw [HR.out]; rfl, rfl⟩
  have t8 : (s.toList == [101, 120, 105, 116]) = false := by simpa using h
  clear h
  by_cases h : s.toList = [97, 100, 100]
  · have t : (s.toList == [97, 100, 100]) = true := by rw [h]; decide
    have HR : Hid (arM s.toList = 2) := by show _ = _; rw [h]; decide
    clear h
    go_enter Tryz.func8, Tryz.ntmps8
    go_wp2
    go_ret
    exact ⟨by rw [HR.out]; rfl, rfl⟩
  have t9 : (s.toList == [97, 100, 100]) = false := by simpa using h
  clear h
  by_cases h : s.toList = [115, 117, 98]
  · have t : (s.toList == [115, 117, 98]) = true := by rw [h]; decide
    have HR : Hid (arM s.toList = 2) := by show _ = _; rw [h]; decide
    clear h
    go_enter Tryz.func8, Tryz.ntmps8
    go_wp2
    go_ret
    exact ⟨by rw [HR.out]; rfl, rfl⟩
  have t10 : (s.toList == [115, 117, 98]) = false := by simpa using h
  clear h
  by_cases h : s.toList = [109, 117, 108]
  · have t : (s.toList == [109, 117, 108]) = true := by rw [h]; decide
    have HR : Hid (arM s.toList = 2) := by show _ = _; rw [h]; decide
    clear h
    go_enter Tryz.func8, Tryz.ntmps8
    go_wp2
    go_ret
    exact ⟨by rw [HR.out]; rfl, rfl⟩
  have t11 : (s.toList == [109, 117, 108]) = false := by simpa using h
  clear h
  by_cases h : s.toList = [113, 117, 111, 116]
  · have t : (s.toList == [113, 117, 111, 116]) = true := by rw [h]; decide
    have HR : Hid (arM s.toList = 2) := by show _ = _; rw [h]; decide
    clear h
    go_enter Tryz.func8, Tryz.ntmps8
    go_wp2
    go_ret
    exact ⟨by rw [HR.out]; rfl, rfl⟩
  have t12 : (s.toList == [113, 117, 111, 116]) = false := by simpa using h
  clear h
  by_cases h : s.toList = [114, 101, 109]
  · have t : (s.toList == [114, 101, 109]) = true := by rw [h]; decide
    have HR : Hid (arM s.toList = 2) := by show _ = _; rw [h]; decide
    clear h
    go_enter Tryz.func8, Tryz.ntmps8
    go_wp2
    go_ret
    exact ⟨by rw [HR.out]; rfl, rfl⟩
  have t13 : (s.toList == [114, 101, 109]) = false := by simpa using h
  clear h
  by_cases h : s.toList = [101, 113]
  · have t : (s.toList == [101, 113]) = true := by rw [h]; decide
    have HR : Hid (arM s.toList = 2) := by show _ = _; rw [h]; decide
    clear h
    go_enter Tryz.func8, Tryz.ntmps8
    go_wp2
    go_ret
    exact ⟨by rw [HR.out]; rfl, rfl⟩
  have t14 : (s.toList == [101, 113]) = false := by simpa using h
  clear h
  by_cases h : s.toList = [110, 101]
  · have t : (s.toList == [110, 101]) = true := by rw [h]; decide
    have HR : Hid (arM s.toList = 2) := by show _ = _; rw [h]; decide
    clear h
    go_enter Tryz.func8, Tryz.ntmps8
    go_wp2
    go_ret
    exact ⟨by rw [HR.out]; rfl, rfl⟩
  have t15 : (s.toList == [110, 101]) = false := by simpa using h
  clear h
  by_cases h : s.toList = [108, 116]
  · have t : (s.toList == [108, 116]) = true := by rw [h]; decide
    have HR : Hid (arM s.toList = 2) := by show _ = _; rw [h]; decide
    clear h
    go_enter Tryz.func8, Tryz.ntmps8
    go_wp2
    go_ret
    exact ⟨by rw [HR.out]; rfl, rfl⟩
  have t16 : (s.toList == [108, 116]) = false := by simpa using h
  clear h
  by_cases h : s.toList = [108, 101]
  · have t : (s.toList == [108, 101]) = true := by rw [h]; decide
    have HR : Hid (arM s.toList = 2) := by show _ = _; rw [h]; decide
    clear h
    go_enter Tryz.func8, Tryz.ntmps8
    go_wp2
    go_ret
    exact ⟨by rw [HR.out]; rfl, rfl⟩
  have t17 : (s.toList == [108, 101]) = false := by simpa using h
  clear h
  by_cases h : s.toList = [103, 116]
  · have t : (s.toList == [103, 116]) = true := by rw [h]; decide
    have HR : Hid (arM s.toList = 2) := by show _ = _; rw [h]; decide
    clear h
    go_enter Tryz.func8, Tryz.ntmps8
    go_wp2
    go_ret
    exact ⟨by rw [HR.out]; rfl, rfl⟩
  have t18 : (s.toList == [103, 116]) = false := by simpa using h
  clear h
  by_cases h : s.toList = [103, 101]
  · have t : (s.toList == [103, 101]) = true := by rw [h]; decide
    have HR : Hid (arM s.toList = 2) := by show _ = _; rw [h]; decide
    clear h
    go_enter Tryz.func8, Tryz.ntmps8
    go_wp2
    go_ret
    exact ⟨by rw [HR.out]; rfl, rfl⟩
  have t19 : (s.toList == [103, 101]) = false := by simpa using h
  clear h
  by_cases h : s.toList = [99, 101, 113]
  · have t : (s.toList == [99, 101, 113]) = true := by rw [h]; decide
    have HR : Hid (arM s.toList = 2) := by show _ = _; rw [h]; decide
    clear h
    go_enter Tryz.func8, Tryz.ntmps8
    go_wp2
    go_ret
    exact ⟨by rw [HR.out]; rfl, rfl⟩
  have t20 : (s.toList == [99, 101, 113]) = false := by simpa using h
  clear h
  by_cases h : s.toList = [99, 108, 116]
  · have t : (s.toList == [99, 108, 116]) = true := by rw [h]; decide
    have HR : Hid (arM s.toList = 2) := by show _ = _; rw [h]; decide
    clear h
    go_enter Tryz.func8, Tryz.ntmps8
    go_wp2
    go_ret
    exact ⟨by rw [HR.out]; rfl, rfl⟩
  have t21 : (s.toList == [99, 108, 116]) = false := by simpa using h
  clear h
  by_cases h : s.toList = [115, 101, 113]
  · have t : (s.toList == [115, 101, 113]) = true := by rw [h]; decide
    have HR : Hid (arM s.toList = 2) := by show _ = _; rw [h]; decide
    clear h
    go_enter Tryz.func8, Tryz.ntmps8
    go_wp2
    go_ret
    exact ⟨by rw [HR.out]; rfl, rfl⟩
  have t22 : (s.toList == [115, 101, 113]) = false := by simpa using h
  clear h
  by_cases h : s.toList = [98, 105, 110, 100]
  · have t : (s.toList == [98, 105, 110, 100]) = true := by rw [h]; decide
    have HR : Hid (arM s.toList = 2) := by show _ = _; rw [h]; decide
    clear h
    go_enter Tryz.func8, Tryz.ntmps8
    go_wp2
    go_ret
    exact ⟨by rw [HR.out]; rfl, rfl⟩
  have t23 : (s.toList == [98, 105, 110, 100]) = false := by simpa using h
  clear h
  have HR : Hid (arM s.toList = -1) := by show _ = _; simp [arM, ar0, ar1, ar2]; simp at t0 t1 t2 t3 t4 t5 t6 t7 t8 t9 t10 t11 t12 t13 t14 t15 t16 t17 t18 t19 t20 t21 t22 t23; simp [*]
  go_enter Tryz.func8, Tryz.ntmps8
  go_wp2
  go_ret
  exact ⟨by rw [HR.out]; rfl, rfl⟩
end Go.Proofs.YtegdloenakachaaGreatDoor

namespace Go.Proofs.YtegdloenakachaaGreatDoor
open Go.RowKit Go.Shelf Go.Maps
set_option linter.unusedVariables false

set_option maxRecDepth 100000 in
set_option maxHeartbeats 2000000 in
theorem constructorsOf_c (fs : List CT) (o : Option Addr) (cap B : Nat) (w : World) (hl : RowIn B 4 (ConAt w) o fs) (hw : B ≤ w.heap.size) (hn : fs.length ≤ 2000000) (hz : ∀ f ∈ fs, f.1.size ≤ maxLen) :
    Calls Tryz.prog 82 #[.slice o fs.length cap] w fun e w' => ∃ c, e = .returned (.map (some w.heap.size)) ∧ CtSt w' w.heap.size c fs ∧ Below w.heap.size w w' := by
  obtain ⟨n, hln⟩ : ∃ n, fs.length = n := ⟨_, rfl⟩
  have HN : Hid (RowIn B 4 (ConAt w) o fs ∧ B ≤ w.heap.size ∧ fs.length = n ∧ (∀ f ∈ fs, f.1.size ≤ maxLen) ∧ n ≤ 2000000) := ⟨hl, hw, hln, hz, by omega⟩
  have hni : (n : Int) ≤ 2000000 := by omega
  have hmm : ∀ W : World, (Instr.makeMap 129 none).run Tryz.prog W = .ok (.map (some W.heap.size)) (W.alloc (.map #[] 0)) := fun W => rfl
  have H0 : Hid (CtSt (w.alloc (.map #[] 0)) w.heap.size 0 [] ∧ Below w.heap.size w (w.alloc (.map #[] 0))) := ⟨ctSt_new w, below1 w _⟩
  rw [hln]
  clear hl hw hln hn hz
  go_enter Tryz.func82, Tryz.ntmps82
  go_wp2
  go_loopw [11] (fun v wr => ∃ k : Nat, v = .int .i64 (k : Int) ∧ Hid (k ≤ n ∧ (∃ c, c ≤ k ∧ CtSt wr w.heap.size c (fs.take k)) ∧ Below w.heap.size w wr)) (fun v _ => n - (intOf v).toNat)
  case atStart => exact ⟨0, rfl, ⟨Nat.zero_le _, ⟨0, Nat.le_refl _, H0.out.1⟩, H0.out.2⟩⟩
  case round =>
    clear H0 hmm
    obtain ⟨k, rfl, HI⟩ := hrel
    by_cases hk : k < n
    · have hkl : k < fs.length := by rw [HN.out.2.2.1]; exact hk
      obtain ⟨g, off, rfl, hg, hx⟩ : ∃ g off, o = some ⟨g, off, none⟩ ∧ g < B ∧ ConAt w fs[k] g (off + k * 4) := by
        rcases HN.out.1 with h9 | ⟨g, off, e, hg, h9⟩
        · rw [h9] at hkl; exact absurd hkl (Nat.not_lt_zero _)
        · exact ⟨g, off, e, hg, h9 k hkl⟩
      have hgw : g < w.heap.size := by have := HN.out.2.1; omega
      obtain ⟨-, ⟨c, hck, hC⟩, hB⟩ := HI.out
      have hgr : g < wr.heap.size := Nat.lt_of_lt_of_le hgw hB.size
      obtain ⟨x0, x1, x2, x3⟩ := hx.same (hB.block g hgw)
      have hki : (k : Int) < (n : Int) := by omega
      obtain ⟨f, hf⟩ : ∃ f, fs[k] = f := ⟨_, rfl⟩
      have hfm : f ∈ fs := by rw [← hf]; exact List.getElem_mem hkl
      rw [hf] at x0 x1 x2 x3
      have htk : fs.take (k + 1) = fs.take k ++ [f] := by rw [List.take_succ_eq_append_getElem hkl, hf]
      have hsz := HN.out.2.2.2.1 f hfm
      have hC1 : CtSt (wr.alloc (.cells #[.string f.1, .int .i64 f.2.1, .string f.2.2.1, .int .i64 f.2.2.2] 59)) w.heap.size c (fs.take k) := hC.below (below1 wr _)
      have hB1 : Below w.heap.size w (wr.alloc (.cells #[.string f.1, .int .i64 f.2.1, .string f.2.2.1, .int .i64 f.2.2.2] 59)) := hB.trans ((below1 wr _).mono hB.size)
      rcases hC1.look f.1 hsz with ⟨y, hy, hr⟩ | ⟨hy, hr⟩
      · have HE : Hid (∀ o, CtSt ((wr.alloc (.cells #[.string f.1, .int .i64 f.2.1, .string f.2.2.1, .int .i64 f.2.2.2] 59)).alloc o) w.heap.size c (fs.take (k + 1)) ∧ Below w.heap.size w ((wr.alloc (.cells #[.string f.1, .int .i64 f.2.1, .string f.2.2.1, .int .i64 f.2.2.2] 59)).alloc o) ∧ c ≤ k + 1 ∧ k < n) := fun o => ⟨by rw [htk]; exact (hC1.below (below1 _ o)).skip f (by rw [hy]; rfl), hB1.trans ((below1 _ o).mono hB1.size), by omega, hk⟩
        unfold cnV at hr
        clear hk hkl hx hg hgw hC hB hC1 hB1 hy hf hfm htk hsz hck
        go_wp2
        refine ⟨⟨k + 1, by congr 1, ⟨(HE.out (.cells #[] 0)).2.2.2, ⟨c, (HE.out (.cells #[] 0)).2.2.1, (HE.out _).1⟩, (HE.out _).2.1⟩⟩, ?_⟩
        show n - ((k : Int) + 1).toNat < n - ((k : Int)).toNat
        have := (HE.out (.cells #[] 0)).2.2.2; omega
      · obtain ⟨W2, hr2, hp2, hg2⟩ := (hC1.below (below1 _ (.cells #[.string ⟨#[]⟩, .int .i64 0, .string ⟨#[]⟩, .int .i64 0] 59))).put (by have := HN.out.2.2.2.2; omega) f hsz hy
        have HE : Hid (CtSt W2 w.heap.size (c + 1) (fs.take (k + 1)) ∧ Below w.heap.size w W2 ∧ c + 1 ≤ k + 1 ∧ k < n) := by
          have hB2 : Below w.heap.size w ((wr.alloc (.cells #[.string f.1, .int .i64 f.2.1, .string f.2.2.1, .int .i64 f.2.2.2] 59)).alloc (.cells #[.string ⟨#[]⟩, .int .i64 0, .string ⟨#[]⟩, .int .i64 0] 59)) := hB1.trans ((below1 _ _).mono hB1.size)
          refine ⟨by rw [htk]; exact hp2, ⟨hg2.os.trans hB2.os, hg2.tape.trans hB2.tape, hg2.output.trans hB2.output, Nat.le_trans hB2.size hg2.size, fun j hj => (hg2.block j (Nat.lt_of_lt_of_le hj hB2.size) (by omega)).trans (hB2.block j hj)⟩, by omega, hk⟩
        unfold cnZ at hr
        unfold cnV at hr2
        clear hk hkl hx hg hgw hC hB hC1 hB1 hy hf hfm htk hsz hck hp2 hg2
        go_wp2
        refine ⟨⟨k + 1, by congr 1, ⟨HE.out.2.2.2, ⟨c + 1, HE.out.2.2.1, HE.out.1⟩, HE.out.2.1⟩⟩, ?_⟩
        show n - ((k : Int) + 1).toNat < n - ((k : Int)).toNat
        have := HE.out.2.2.2; omega
    · have hki : ¬ (k : Int) < (n : Int) := by omega
      have HX : Hid (∃ c, CtSt wr w.heap.size c fs ∧ Below w.heap.size w wr) := by
        obtain ⟨-, ⟨c, hck, hC⟩, hB⟩ := HI.out
        rw [List.take_of_length_le (by have := HN.out.2.2.1; omega)] at hC
        exact ⟨c, hC, hB⟩
      clear hk HI
      go_wp2
      go_ret
      obtain ⟨c, h1, h2⟩ := HX.out
      exact ⟨rfl, ⟨c, h1⟩, h2⟩
end Go.Proofs.YtegdloenakachaaGreatDoor
