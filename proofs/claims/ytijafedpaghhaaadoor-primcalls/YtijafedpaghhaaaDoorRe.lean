/-
  The document's Apply of anything, by a contract.
-/
import Derived.Test.YtijafedpaghhaaaDoorRd
namespace Go.Proofs.YtijafedpaghhaaaDoor
open Go.RowKit Go.Shelf Go.Maps
set_option linter.unusedVariables false

theorem ar_two (x : List UInt8) (p : Int × (Int → Int → Value)) (h : opOf x = some p) (h1 : x ≠ [111, 114, 100]) (h2 : x ≠ [99, 104, 114]) : arM x = 2 := by
  by_cases k0 : x = [97, 100, 100]
  · subst k0; decide
  by_cases k1 : x = [115, 117, 98]
  · subst k1; decide
  by_cases k2 : x = [109, 117, 108]
  · subst k2; decide
  by_cases k3 : x = [113, 117, 111, 116]
  · subst k3; decide
  by_cases k4 : x = [114, 101, 109]
  · subst k4; decide
  by_cases k5 : x = [101, 113]
  · subst k5; decide
  by_cases k6 : x = [110, 101]
  · subst k6; decide
  by_cases k7 : x = [108, 116]
  · subst k7; decide
  by_cases k8 : x = [108, 101]
  · subst k8; decide
  by_cases k9 : x = [103, 116]
  · subst k9; decide
  by_cases k10 : x = [103, 101]
  · subst k10; decide
  by_cases k11 : x = [99, 101, 113]
  · subst k11; decide
  by_cases k12 : x = [99, 108, 116]
  · subst k12; decide
  exfalso
  simp [opOf, *] at h
theorem rapply_c (s : ByteArray) (o : Option Addr) (cap : Nat) (ps : List PT) (w : World) (hps : PsIn w w.heap.size o ps) :
    Calls Tryd.prog 12 #[.string s, .slice o ps.length cap] w fun e w' => e = .returned (.tuple #[(applyM s.toList ps).1, .int .i64 (applyM s.toList ps).2]) ∧ Below w.heap.size w w' := by
  rcases tab_find s.toList with ⟨_, h⟩ | ⟨tk, f, g, h1, h2, h3, h4⟩
  · have e : applyM s.toList ps = (pz, 2) := by unfold applyM; rw [h]
    rw [e]
    exact rapply_none s o ps.length cap w (by unfold simpleM; rw [h]; rfl)
  · have hsim : simpleM s.toList = true := by unfold simpleM; rw [h2]; rfl
    by_cases hl : (ps.length : Int) = arM s.toList
    · by_cases hok : ps.all (okP tk) = true
      · have hpos : 0 < ps.length := by omega
        have hall : ∀ i (h : i < ps.length), okP tk ps[i] = true := fun i hi => by rw [List.all_eq_true] at hok; exact hok _ (List.getElem_mem _)
        have e : applyM s.toList ps = (g ps[0].n ps[ps.length - 1].n, 0) := by
          unfold applyM
          rw [h2]
          simp only [hl, hok, and_self, if_true]
          rw [List.head?_eq_getElem?, List.getLast?_eq_getElem?, List.getElem?_eq_getElem hpos, List.getElem?_eq_getElem (by omega)]
          rfl
        rw [e]
        by_cases ho : s.toList = [111, 114, 100]
        · have hg : g = ordM := by rw [ho] at h2; simp [opOf] at h2; exact h2.2.symm
          have hl1 : ps.length = 1 := by rw [ho] at hl; have h9 : arM [111, 114, 100] = 1 := (by decide); omega
          rw [hg]
          exact rapply_ord s o cap ps w tk g h2 hl (by omega) hl1 hps hall ho
        by_cases hc : s.toList = [99, 104, 114]
        · have hg : g = chrM := by rw [hc] at h2; simp [opOf] at h2; exact h2.2.symm
          have hl1 : ps.length = 1 := by rw [hc] at hl; have h9 : arM [99, 104, 114] = 1 := (by decide); omega
          rw [hg]
          cases hin : inCode (ps[0]).n
          · have hv : chrM (ps[0]).n (ps[ps.length - 1]).n = pv 4 0 chrRange := by unfold chrM; rw [if_neg (by simp [hin])]
            rw [hv]
            exact rapply_chrbad s o cap ps w tk g h2 hl (by omega) hl1 hps hall hc hin
          · have hv : chrM (ps[0]).n (ps[ps.length - 1]).n = pv 2 (ps[0]).n noText := by unfold chrM; rw [if_pos hin]
            rw [hv]
            exact rapply_chr s o cap ps w tk g h2 hl (by omega) hl1 hps hall hc hin
        have hl2 : ps.length = 2 := by have := ar_two _ _ h2 ho hc; omega
        obtain ⟨kv, nv, tv, hgm⟩ := opOf_pv _ tk g h2 (ps[0]).n (ps[1]).n
        have hlast : (ps[ps.length - 1]'(by omega)) = ps[1] := by congr 1; omega
        rw [hlast, hgm]
        exact rapply_two s o cap ps w tk g h2 hl (by omega) hl2 hps hall ho hc kv nv tv hgm
      · have e : applyM s.toList ps = (pz, 2) := by unfold applyM; rw [h2]; simp [hok]
        rw [e]
        obtain ⟨j, hj, hbad, hbef⟩ : ∃ j, ∃ h : j < ps.length, okP tk ps[j] = false ∧ ∀ i (h : i < ps.length), i < j → okP tk ps[i] = true := by
          have hne : ps.findIdx (fun p => !okP tk p) < ps.length := by
            rw [List.findIdx_lt_length]
            have : ∃ p ∈ ps, okP tk p = false := by
              apply Classical.byContradiction
              intro hn
              apply hok
              rw [List.all_eq_true]
              intro p hp
              cases hq : okP tk p
              · exact absurd ⟨p, hp, hq⟩ hn
              · rfl
            obtain ⟨p, hp, hq⟩ := this
            exact ⟨p, hp, by simp [hq]⟩
          refine ⟨_, hne, ?_, ?_⟩
          · have := List.findIdx_getElem (w := hne)
            simpa using this
          · intro i hi hlt
            have := List.not_of_lt_findIdx hlt
            simpa using this
        exact rapply_bad s o cap ps w tk g h2 hl (by omega) hps j hj hbef hbad
    · have e : applyM s.toList ps = (pz, 2) := by unfold applyM; rw [h2]; simp [hl]
      rw [e]
      exact rapply_len s o ps.length cap w hsim hl
end Go.Proofs.YtijafedpaghhaaaDoor
