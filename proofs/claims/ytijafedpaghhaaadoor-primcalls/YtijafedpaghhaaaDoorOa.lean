/-
  Package prim: Apply of anything, Strict, Simple, Takes, Show, by contracts.
-/
import Derived.Test.YtijafedpaghhaaaDoorNc
import Derived.Test.YtijafedpaghhaaaDoorPh
import Derived.Lib.LaidTab
import Derived.Lib.ItoaNum
namespace Go.Proofs.YtijafedpaghhaaaDoor
open Go.RowKit Go.Shelf Go.Maps
set_option linter.unusedVariables false

/-- The table of powers lies in its place. -/
def GP (w : World) : Prop := Lib.TabIs Tryd.prog w "internal/strconv.uint64pow10" .u64 Lib.pow10Tab ∧ 0 < w.heap.size
theorem GP.below {w w' : World} (h : GP w) (hb : Below w.heap.size w w') : GP w' := by
  obtain ⟨h, hs⟩ := h
  refine ⟨?_, Nat.lt_of_lt_of_le hs hb.size⟩
  have hn : Tryd.prog.globalNamed "internal/strconv.uint64pow10" = some 0 := by kernel_rfl
  simp only [Lib.TabIs, World.var?, hn, Option.bind_some] at h ⊢
  rw [hb.block 0 hs]
  exact h
theorem below_grow' (w : World) (k : Nat) (os : Array Obj) : Below w.heap.size w (Go.Sort.grow (w.drewN k) os) :=
  ⟨rfl, rfl, rfl, by simp [Go.Sort.grow, World.drewN], fun i hi => by
    show (w.heap ++ os)[i]? = _
    rw [Array.getElem?_append_left hi]⟩
def shM (n : Int) : ByteArray := ⟨(Lib.itoa n).toArray⟩
set_option maxRecDepth 100000 in
set_option maxHeartbeats 1000000 in
theorem show_c (n : Int) (wn : Lit.wf (.int .i64 n) = true) (w : World) (hG : GP w) : Calls Tryd.prog 11 #[.int .i64 n] w fun e w' => e = .returned (.string (shM n)) ∧ Below w.heap.size w w' := by
  have hn := wf64 wn
  have HC : Hid (Calls Tryd.prog 31 #[.int .i64 n, .int .i64 10] w fun e w' => e = .returned (.string (shM n)) ∧ Below w.heap.size w w') := (Tryd.strconv_FormatInt n hn.1 hn.2 w hG.1).mono (by rintro e w' ⟨rfl, k, os, rfl⟩; exact ⟨rfl, below_grow' w k os⟩)
  clear wn hn hG
  go_enter Tryd.func11, Tryd.ntmps11
  go_wp2_with (go_at_call 31; refine HC.out.mono ?_; rintro e w1 ⟨rfl, hb⟩)
  go_ret
  exact ⟨rfl, hb⟩

theorem ite_cases {α : Type} {c : Prop} [Decidable c] {x y z : α} (h : (if c then x else y) = z) : x = z ∨ y = z := by
  by_cases hc : c
  · rw [if_pos hc] at h; exact .inl h
  · rw [if_neg hc] at h; exact .inr h
theorem opOf_pv (x : List UInt8) (tk : Int) (g : Int → Int → Value) (h : opOf x = some (tk, g)) (a b : Int) : ∃ k n t, g a b = pv k n t := by
  unfold opOf at h
  iterate 15
    rcases ite_cases h with h | h
    · first
        | (cases h; exact ⟨_, _, _, rfl⟩)
        | (cases h; unfold quotM; split <;> exact ⟨_, _, _, rfl⟩)
        | (cases h; unfold remM; split <;> exact ⟨_, _, _, rfl⟩)
        | (cases h; unfold chrM; split <;> exact ⟨_, _, _, rfl⟩)
  cases h
/-- What Apply answers. -/
def applyM (x : List UInt8) (ps : List PT) : Value × Int := match opOf x with
  | none => (pz, 2)
  | some (tk, g) => if (ps.length : Int) = arM x ∧ ps.all (okP tk) = true then (g (ps.head?.elim 0 PT.n) (ps.getLast?.elim 0 PT.n), 0) else (pz, 2)
theorem apply_c (s : ByteArray) (hs : s.size ≤ maxLen) (o : Option Addr) (cap : Nat) (ps : List PT) (w : World) (hps : PsIn w w.heap.size o ps) (hwf : ∀ p ∈ ps, Lit.wf (.int .i64 p.n) = true) :
    Calls Tryd.prog 8 #[.string s, .slice o ps.length cap] w fun e w' => e = .returned (.tuple #[(applyM s.data.toList ps).1, .int .i64 (applyM s.data.toList ps).2]) ∧ Below w.heap.size w w' := by
  rcases tab_find s.data.toList with ⟨_, h⟩ | ⟨tk, f, g, h1, h2, h3, h4⟩
  · have e : applyM s.data.toList ps = (pz, 2) := by unfold applyM; rw [h]
    rw [e]
    exact apply_none s hs o ps.length cap w h
  · by_cases hl : (ps.length : Int) = arM s.data.toList
    · by_cases hok : ps.all (okP tk) = true
      · have hpos : 0 < ps.length := by omega
        have e : applyM s.data.toList ps = (g ps[0].n ps[ps.length - 1].n, 0) := by
          unfold applyM
          rw [h2]
          simp only [hl, hok, and_self, if_true]
          rw [List.head?_eq_getElem?, List.getLast?_eq_getElem?, List.getElem?_eq_getElem hpos, List.getElem?_eq_getElem (by omega)]
          rfl
        obtain ⟨kv, nv, tv, hg⟩ := opOf_pv _ tk g h2 ps[0].n ps[ps.length - 1].n
        rw [e, hg]
        exact apply_yes s hs o cap ps w tk f g h3 h1 hl (by omega) hpos hps hwf (fun i hi => by rw [List.all_eq_true] at hok; exact hok _ (List.getElem_mem _)) kv nv tv hg
      · have e : applyM s.data.toList ps = (pz, 2) := by unfold applyM; rw [h2]; simp [hok]
        rw [e]
        obtain ⟨j, hj, hbad, hbef⟩ : ∃ j, ∃ h : j < ps.length, okP tk ps[j] = false ∧ ∀ i (h : i < ps.length), i < j → okP tk ps[i] = true := by
          have hne : ps.findIdx (fun p => !okP tk p) < ps.length := by
            rw [List.findIdx_lt_length]
            have : ∃ p ∈ ps, okP tk p = false := by
              apply Classical.byContradiction
              intro hn
              apply hok
              rw [List.all_eq_true]
              intro p hp
              cases hq : okP tk p
              · exact absurd ⟨p, hp, hq⟩ hn
              · rfl
            obtain ⟨p, hp, hq⟩ := this
            exact ⟨p, hp, by simp [hq]⟩
          refine ⟨_, hne, ?_, ?_⟩
          · have := List.findIdx_getElem (w := hne)
            simpa using this
          · intro i hi hlt
            have := List.not_of_lt_findIdx hlt
            simpa using this
        exact apply_bad s hs o cap ps w tk f h1 hl (by omega) hps j hj hbef hbad
    · have e : applyM s.data.toList ps = (pz, 2) := by unfold applyM; rw [h2]; simp [hl]
      rw [e]
      exact apply_len s hs o ps.length cap w tk f h1 hl
end Go.Proofs.YtijafedpaghhaaaDoor
