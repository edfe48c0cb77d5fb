/-
  A chain of one operator brought in order: as mathematics.
  A chain of one operator may be, if the operator may.
  What a chain of one operator comes to, as mathematics.
-/
import Derived.Test.YtppnhaacmhfenabGreatDoorGFxB
import Derived.Test.YtppnhaacmhfenabGreatDoorGSame
import Derived.Test.YtppnhaacmhfenabGreatDoorGChk
import Derived.Test.YtppnhaacmhfenabGreatDoorGFxC
namespace Go.Proofs.YtppnhaacmhfenabGreatDoor
open Go.RowKit Go.Shelf Go.Maps
set_option linter.unusedVariables false

def nmO (k : Nat) : Nd := .mk 13 [] (k : Int) [] 0
def opO (nm : List UInt8) : Nd := .mk 5 nm 0 [] 0
/-- Operators and operands from number k on, so many. -/
def tailO (nm : List UInt8) : Nat → Nat → List Nd
  | _, 0 => []
  | k, c + 1 => opO nm :: nmO k :: tailO nm (k + 1) c
def itsO (nm : List UInt8) (k c : Nat) : List It := (tailO nm k c).map (fun n => ⟨n, false⟩)
theorem itsO_zero (nm : List UInt8) (k : Nat) : itsO nm k 0 = [] := rfl
theorem itsO_succ (nm : List UInt8) (k c : Nat) : itsO nm k (c + 1) = ⟨opO nm, false⟩ :: ⟨nmO k, false⟩ :: itsO nm (k + 1) c := rfl
/-- Leaning to the left. -/
def leftT (nm : List UInt8) : Nat → Nat → Nd → Nd
  | _, 0, l => l
  | k, c + 1, l => leftT nm (k + 1) c (appM 17 (opO nm) l (nmO k))
/-- Leaning to the right. -/
def rightT (nm : List UInt8) : Nat → Nat → Nd → Nd
  | _, 0, l => l
  | k, c + 1, l => appM 17 (opO nm) l (rightT nm (k + 1) c (nmO k))


theorem clash_top (nm : List UInt8) (hnm : nm ≠ []) (f : Fx) (hf : 0 ≤ f.level) (hold : List UInt8 → Fx) (hh : hold nm = f) : clashM ⟨[], 3, -1⟩ f = false := by
  unfold clashM
  rw [decide_eq_false (show ¬ ((-1 : Int) = f.level) by omega), Bool.false_and]
theorem keeps_top (nm : List UInt8) (hnm : nm ≠ []) (f : Fx) (hf : 0 ≤ f.level) (hold : List UInt8 → Fx) (hh : hold nm = f) : keepsM ⟨[], 3, -1⟩ f = false := by
  unfold keepsM
  rw [decide_eq_false (show ¬ (f.level < -1) by omega), decide_eq_false (show ¬ ((-1 : Int) = f.level) by omega)]
  rfl
theorem may_op (nm : List UInt8) : mayM 17 nm = true := rfl

/-- One operator of a left side, and what follows it. -/
theorem rd_left (nm : List UInt8) (hnm : nm ≠ []) (f : Fx) (hf : 0 ≤ f.level) (hold : List UInt8 → Fx) (hh : hold nm = f) (h1 : f.side = 1) (m d k c : Nat) (hm : 1 ≤ m) : rdM 17 hold m (d + 1) f (⟨nmO k, false⟩ :: itsO nm (k + 1) c) = .ok (nmO k) (itsO nm (k + 1) c) := by
  obtain ⟨m, rfl⟩ : ∃ j, m = j + 1 := ⟨m - 1, by omega⟩
  show (opdM _ f _).on _ = _
  simp only [opdM, if_true, RR.on]
  cases c with
  | zero => rfl
  | succ c =>
    rw [itsO_succ]
    simp only [loopM]
    rw [if_neg (show ¬ (opO nm).name = [] from hnm)]
    have e : hold (opO nm).name = f := hh
    have hc : clashM f f = false := by unfold clashM; simp [h1]
    have hk : keepsM f f = true := by unfold keepsM; simp [h1]
    rw [e, hc, hk, show mayM 17 (opO nm).name = true from rfl]
    rfl
theorem top_left (nm : List UInt8) (hnm : nm ≠ []) (f : Fx) (hf : 0 ≤ f.level) (hold : List UInt8 → Fx) (hh : hold nm = f) (h1 : f.side = 1) (m d : Nat) : ∀ (c k mm : Nat) (l : Nd), c + 1 ≤ mm → 1 ≤ m → loopM (rdM 17 hold m (d + 1)) 17 hold ⟨[], 3, -1⟩ mm l [] (itsO nm k c) = .ok (leftT nm k c l) []
  | 0, k, mm, l, h, hm => by
    obtain ⟨mm, rfl⟩ : ∃ j, mm = j + 1 := ⟨mm - 1, by omega⟩
    rfl
  | c + 1, k, mm, l, h, hm => by
    obtain ⟨mm, rfl⟩ : ∃ j, mm = j + 1 := ⟨mm - 1, by omega⟩
    rw [itsO_succ]
    simp only [loopM]
    rw [if_neg (show ¬ (opO nm).name = [] from hnm)]
    have e : hold (opO nm).name = f := hh
    rw [e, clash_top nm hnm f hf hold hh, keeps_top nm hnm f hf hold hh, show mayM 17 (opO nm).name = true from rfl]
    rw [if_neg (by decide), if_neg (by decide), if_neg (show ¬ ((-1 : Int) = f.level) by omega), rd_left nm hnm f hf hold hh h1 m d k c hm]
    exact top_left nm hnm f hf hold hh h1 m d c (k + 1) mm _ (by omega) hm
theorem loop_right (nm : List UInt8) (hnm : nm ≠ []) (f : Fx) (hf : 0 ≤ f.level) (hold : List UInt8 → Fx) (hh : hold nm = f) (h2 : f.side = 2) (rd : Fx → List It → RR) : ∀ (c k mm : Nat) (l : Nd) (wait : List (Nd × Nd)), l.kids = [] → c + 1 ≤ mm → loopM rd 17 hold f mm l wait (itsO nm k c) = .ok (unw 17 wait (rightT nm k c l)) []
  | 0, k, mm, l, wait, hl, h => by
    obtain ⟨mm, rfl⟩ : ∃ j, mm = j + 1 := ⟨mm - 1, by omega⟩
    rfl
  | c + 1, k, mm, l, wait, hl, h => by
    obtain ⟨mm, rfl⟩ : ∃ j, mm = j + 1 := ⟨mm - 1, by omega⟩
    rw [itsO_succ]
    simp only [loopM]
    rw [if_neg (show ¬ (opO nm).name = [] from hnm)]
    have e : hold (opO nm).name = f := hh
    have hc : clashM f f = false := by unfold clashM; simp [h2]
    have hk : keepsM f f = false := by unfold keepsM; simp [h2]
    rw [e, hc, hk, show mayM 17 (opO nm).name = true from rfl]
    rw [if_neg (by decide), if_neg (by decide), if_pos rfl, if_neg (by simp [hl])]
    simp only [opdM, if_true, RR.on]
    rw [loop_right nm hnm f hf hold hh h2 rd c (k + 1) mm (nmO k) ((l, opO nm) :: wait) rfl (by omega)]
    rfl
theorem rd_right (nm : List UInt8) (hnm : nm ≠ []) (f : Fx) (hf : 0 ≤ f.level) (hold : List UInt8 → Fx) (hh : hold nm = f) (h2 : f.side = 2) (m d k c : Nat) (hm : c + 1 ≤ m) : rdM 17 hold m (d + 1) f (⟨nmO k, false⟩ :: itsO nm (k + 1) c) = .ok (rightT nm (k + 1) c (nmO k)) [] := by
  show (opdM _ f _).on _ = _
  simp only [opdM, if_true, RR.on]
  rw [loop_right nm hnm f hf hold hh h2 _ c (k + 1) m (nmO k) [] rfl hm]
  rfl
theorem top_right (nm : List UInt8) (hnm : nm ≠ []) (f : Fx) (hf : 0 ≤ f.level) (hold : List UInt8 → Fx) (hh : hold nm = f) (h2 : f.side = 2) (m d c k mm : Nat) (l : Nd) (hmm : 2 ≤ mm) (hm : c ≤ m) : loopM (rdM 17 hold m (d + 1)) 17 hold ⟨[], 3, -1⟩ mm l [] (itsO nm k c) = .ok (rightT nm k c l) [] := by
  obtain ⟨mm, rfl⟩ : ∃ j, mm = j + 1 + 1 := ⟨mm - 2, by omega⟩
  cases c with
  | zero => rfl
  | succ c =>
    rw [itsO_succ]
    conv => lhs; unfold loopM
    simp only
    rw [if_neg (show ¬ (opO nm).name = [] from hnm)]
    have e : hold (opO nm).name = f := hh
    rw [e, clash_top nm hnm f hf hold hh, keeps_top nm hnm f hf hold hh, show mayM 17 (opO nm).name = true from rfl]
    rw [if_neg (by decide), if_neg (by decide), if_neg (show ¬ ((-1 : Int) = f.level) by omega), rd_right nm hnm f hf hold hh h2 m d k c (by omega)]
    rfl
theorem top_none1 (nm : List UInt8) (hnm : nm ≠ []) (f : Fx) (hf : 0 ≤ f.level) (hold : List UInt8 → Fx) (hh : hold nm = f) (m d k mm : Nat) (l : Nd) (hmm : 2 ≤ mm) (hm : 1 ≤ m) : loopM (rdM 17 hold m (d + 1)) 17 hold ⟨[], 3, -1⟩ mm l [] (itsO nm k 1) = .ok (leftT nm k 1 l) [] := by
  obtain ⟨mm, rfl⟩ : ∃ j, mm = j + 1 + 1 := ⟨mm - 2, by omega⟩
  obtain ⟨m, rfl⟩ : ∃ j, m = j + 1 := ⟨m - 1, by omega⟩
  rw [itsO_succ]
  conv => lhs; unfold loopM
  simp only
  rw [if_neg (show ¬ (opO nm).name = [] from hnm)]
  have e : hold (opO nm).name = f := hh
  rw [e, clash_top nm hnm f hf hold hh, keeps_top nm hnm f hf hold hh, show mayM 17 (opO nm).name = true from rfl]
  rw [if_neg (by decide), if_neg (by decide), if_neg (show ¬ ((-1 : Int) = f.level) by omega)]
  rfl
theorem top_none2 (nm : List UInt8) (hnm : nm ≠ []) (f : Fx) (hf : 0 ≤ f.level) (hold : List UInt8 → Fx) (hh : hold nm = f) (h3 : f.side = 3) (m d c k mm : Nat) (l : Nd) (hmm : 1 ≤ mm) (hm : 1 ≤ m) : loopM (rdM 17 hold m (d + 1)) 17 hold ⟨[], 3, -1⟩ mm l [] (itsO nm k (c + 2)) = .bad 0 := by
  obtain ⟨mm, rfl⟩ : ∃ j, mm = j + 1 := ⟨mm - 1, by omega⟩
  obtain ⟨m, rfl⟩ : ∃ j, m = j + 1 := ⟨m - 1, by omega⟩
  rw [itsO_succ, itsO_succ]
  conv => lhs; unfold loopM
  simp only
  rw [if_neg (show ¬ (opO nm).name = [] from hnm)]
  have e : hold (opO nm).name = f := hh
  rw [e, clash_top nm hnm f hf hold hh, keeps_top nm hnm f hf hold hh, show mayM 17 (opO nm).name = true from rfl]
  rw [if_neg (by decide), if_neg (by decide), if_neg (show ¬ ((-1 : Int) = f.level) by omega)]
  have hr : rdM 17 hold (m + 1) (d + 1) f (⟨nmO k, false⟩ :: ⟨opO nm, false⟩ :: ⟨nmO (k + 1), false⟩ :: itsO nm (k + 1 + 1) c) = .bad 0 := by
    show (opdM _ f _).on _ = _
    simp only [opdM, if_true, RR.on, loopM]
    rw [if_neg (show ¬ (opO nm).name = [] from hnm), e]
    have hc : clashM f f = true := by unfold clashM; simp [h3]
    rw [hc, Bool.or_true, if_pos rfl]
    rfl
  rw [hr]
  rfl
theorem nst_leaf (D : Nat) (h : 1 ≤ D) (n : Nd) (hk : n.kids = []) : nst D n = true := by
  obtain ⟨D, rfl⟩ : ∃ j, D = j + 1 := ⟨D - 1, by omega⟩
  show allK (nst D) n.kids = true
  rw [hk]; rfl
theorem nst_app (D : Nat) (hD : 1 ≤ D) (op l r : Nd) (ho : op.kids = []) (hl : nst D l = true) (hr : nst D r = true) : nst (D + 1) (appM 17 op l r) = true := by
  show allK (nst D) [opHead op, l, r] = true
  have h1 : nst D (opHead op) = true := nst_leaf D hD _ ho
  simp only [allK, h1, hl, hr, if_true]
theorem nst_left (nm : List UInt8) : ∀ (c k D : Nat) (l : Nd), 1 ≤ D → nst D l = true → nst (D + c) (leftT nm k c l) = true
  | 0, k, D, l, hD, h => h
  | c + 1, k, D, l, hD, h => by
    rw [show D + (c + 1) = (D + 1) + c by omega]
    exact nst_left nm c (k + 1) (D + 1) _ (by omega) (nst_app D hD _ _ _ rfl h (nst_leaf D hD _ rfl))
theorem nst_right (nm : List UInt8) : ∀ (c k D : Nat) (l : Nd), 1 ≤ D → l.kids = [] → nst (D + c) (rightT nm k c l) = true
  | 0, k, D, l, hD, h => nst_leaf _ hD _ h
  | c + 1, k, D, l, hD, h => nst_app (D + c) (by omega) _ _ _ rfl (nst_leaf _ (by omega) _ h) (nst_right nm c (k + 1) D (nmO k) hD rfl)
end Go.Proofs.YtppnhaacmhfenabGreatDoor

namespace Go.Proofs.YtppnhaacmhfenabGreatDoor
open Go.RowKit Go.Shelf Go.Maps
set_option linter.unusedVariables false

def chainO (nm : List UInt8) (n : Nat) : Nd := .mk 17 [] 0 (nmO 0 :: tailO nm 1 n) 0
theorem tailO_len (nm : List UInt8) : ∀ (c k : Nat), (tailO nm k c).length = 2 * c
  | 0, k => rfl
  | c + 1, k => by show (tailO nm (k + 1) c).length + 1 + 1 = _; rw [tailO_len nm c (k + 1)]; omega
theorem tailO_mem (nm : List UInt8) : ∀ (c k : Nat) (x : Nd), x ∈ tailO nm k c → x = opO nm ∨ ∃ j, x = nmO j ∧ j < k + c
  | 0, k, x, h => by cases h
  | c + 1, k, x, h => by
    rcases List.mem_cons.1 h with h | h
    · exact .inl h
    · rcases List.mem_cons.1 h with h | h
      · exact .inr ⟨k, h, by omega⟩
      · rcases tailO_mem nm c (k + 1) x h with h | ⟨j, h, hj⟩
        · exact .inl h
        · exact .inr ⟨j, h, by omega⟩
theorem hK_leaves (d : Nat) : ∀ (l : List Nd) (m : Nat), (∀ x ∈ l, x.kids = []) → l.length ≤ m → hK (hN (d + 1)) m l = (true, m - l.length)
  | [], m, _, _ => rfl
  | x :: l, m, hl, hm => by
    obtain ⟨m, rfl⟩ : ∃ j, m = j + 1 := ⟨m - 1, by simp at hm; omega⟩
    have e : hN (d + 1) (m + 1) x = (true, m) := by
      unfold hN
      rw [if_neg (by omega), hl x List.mem_cons_self]
      rfl
    unfold hK
    rw [e, if_pos rfl, hK_leaves d l m (fun y hy => hl y (List.mem_cons_of_mem _ hy)) (by simpa using hm)]
    simp
theorem chain_leaf (nm : List UInt8) (n : Nat) : ∀ x ∈ (chainO nm n).kids, x.kids = [] := by
  intro x hx
  rcases List.mem_cons.1 hx with h | h
  · rw [h]; rfl
  · rcases tailO_mem nm n 1 x h with h | ⟨j, h, _⟩ <;> rw [h] <;> rfl
theorem turns_tail (nm : List UInt8) : ∀ (c k : Nat), turnsN (onlyB 5) isExpB (kinds (tailO nm k c)) = 2 * c
  | 0, k => rfl
  | c + 1, k => by
    show (if (onlyB 5 5 && isExpB 13) = true then turnsN (onlyB 5) isExpB (kinds (tailO nm (k + 1) c)) + 2 else 0) = _
    rw [turns_tail nm c (k + 1), if_pos (by decide)]
    omega
theorem op_own {nm : List UInt8} (h : chkM (opO nm) = 0) : ownM (opO nm) = true := by
  unfold chkM at h
  split at h
  · split at h
    · rename_i h2
      have : mbM 256 (opO nm) = (ownM (opO nm) && (opO nm).kids.all (mbM 255)) := rfl
      rw [this, Bool.and_eq_true] at h2
      exact h2.1
    · cases h
  · cases h
theorem op_ne {nm : List UInt8} (h : chkM (opO nm) = 0) : nm ≠ [] := by
  rintro rfl
  have := op_own h
  revert this
  decide
theorem num_own (j : Nat) (h : j ≤ 1000) : ownM (nmO j) = true := by
  show (nameM 13 (bs []) 0 && numM 13 (j : Int) && fitsB [] []) = true
  have h1 : nameM 13 (bs []) 0 = true := by decide
  have h2 : numM 13 (j : Int) = true := by
    unfold numM
    have : gnM 13 = 9223372036854775807 := rfl
    rw [this]
    exact decide_eq_true ⟨by omega, by omega⟩
  rw [h1, h2]
  rfl
theorem chain_own (nm : List UInt8) (n : Nat) (hn : 1 ≤ n) : ownM (chainO nm n) = true := by
  have e : kp 17 = some [oneP isExpB, turnsP (onlyB 5) isExpB] := rfl
  show (match kp 17 with | none => false | some ps => nameM 17 (bs []) (chainO nm n).kids.length && numM 17 0 && fitsB ps (kinds (chainO nm n).kids)) = true
  rw [e]
  have h1 : nameM 17 (bs []) (chainO nm n).kids.length = true := by unfold nameM; simp [bs]
  have h2 : numM 17 0 = true := by decide
  have h3 : fitsB [oneP isExpB, turnsP (onlyB 5) isExpB] (kinds (chainO nm n).kids) = true := by
    have ho : oneP isExpB (kinds (chainO nm n).kids) = 1 := rfl
    have ht : turnsP (onlyB 5) isExpB (kinds (tailO nm 1 n)) = ((2 * n : Nat) : Int) := by
      unfold turnsP
      rw [turns_tail, if_neg (by omega)]
    unfold fitsB
    rw [ho, if_neg (by decide)]
    show fitsB [turnsP (onlyB 5) isExpB] (kinds (tailO nm 1 n)) = true
    unfold fitsB
    rw [ht, if_neg (by omega)]
    show (List.drop (2 * n) (kinds (tailO nm 1 n))).isEmpty = true
    rw [List.drop_eq_nil_of_le (by rw [kinds_len, tailO_len]; exact Nat.le_refl _)]
    rfl
  simp only [h1, h2, h3, Bool.and_self]
theorem chain_chk (nm : List UInt8) (n : Nat) (hn : 1 ≤ n) (hn2 : n ≤ 100) (h : chkM (opO nm) = 0) : chkM (chainO nm n) = 0 := by
  have h1 : (hN 256 1048576 (chainO nm n)).1 = true := by
    have e : hN 256 1048576 (chainO nm n) = hK (hN 255) 1048575 (chainO nm n).kids := rfl
    rw [e, hK_leaves 254 _ _ (chain_leaf nm n) (by show (tailO nm 1 n).length + 1 ≤ _; rw [tailO_len]; omega)]
  have h2 : mbM 256 (chainO nm n) = true := by
    have e : mbM 256 (chainO nm n) = (ownM (chainO nm n) && (chainO nm n).kids.all (mbM 255)) := rfl
    rw [e, chain_own nm n hn, Bool.true_and, List.all_eq_true]
    intro x hx
    have hx' : ownM x = true := by
      rcases List.mem_cons.1 hx with h' | h'
      · rw [h']; exact num_own 0 (by omega)
      · rcases tailO_mem nm n 1 x h' with h' | ⟨j, h', hj⟩ <;> rw [h']
        · exact op_own h
        · exact num_own j (by omega)
    show (ownM x && x.kids.all (mbM 254)) = true
    rw [hx', chain_leaf nm n x hx]
    rfl
  unfold chkM
  rw [if_pos h1, if_pos h2]
end Go.Proofs.YtppnhaacmhfenabGreatDoor

namespace Go.Proofs.YtppnhaacmhfenabGreatDoor
open Go.RowKit Go.Shelf Go.Maps
set_option linter.unusedVariables false

theorem hold_one (nm : List UInt8) (s l : Int) : holdM [⟨nm, s, l⟩] nm = ⟨nm, s, l⟩ := by
  unfold holdM
  simp
/-- What Resolve comes to. -/
def levR (nm : List UInt8) (side : Int) (n : Nat) : RR := if side = 1 then .ok (leftT nm 1 n (nmO 0)) [] else if side = 2 then .ok (rightT nm 1 n (nmO 0)) [] else if n = 1 then .ok (leftT nm 1 1 (nmO 0)) [] else .bad 0
theorem lev_res (nm : List UInt8) (hnm : nm ≠ []) (side level : Int) (hs1 : 1 ≤ side) (hs3 : side ≤ 3) (hl : 0 ≤ level) (n : Nat) (h1 : 1 ≤ n) (h2 : n ≤ 100) : rdM 17 (holdM [⟨nm, side, level⟩]) 200 3 topF (leafIts (chainO nm n).kids) = levR nm side n := by
  show loopM (rdM 17 (holdM [⟨nm, side, level⟩]) 200 2) 17 (holdM [⟨nm, side, level⟩]) ⟨[], 3, -1⟩ 200 (nmO 0) [] (itsO nm 1 n) = _
  have hh : holdM [⟨nm, side, level⟩] nm = ⟨nm, side, level⟩ := hold_one _ _ _
  unfold levR
  by_cases e1 : side = 1
  · rw [if_pos e1]
    exact top_left nm hnm ⟨nm, side, level⟩ hl _ hh e1 200 1 n 1 200 (nmO 0) (by omega) (by omega)
  · rw [if_neg e1]
    by_cases e2 : side = 2
    · rw [if_pos e2]
      exact top_right nm hnm ⟨nm, side, level⟩ hl _ hh e2 200 1 n 1 200 (nmO 0) (by omega) (by omega)
    · rw [if_neg e2]
      by_cases e3 : n = 1
      · subst e3
        rw [if_pos rfl]
        exact top_none1 nm hnm ⟨nm, side, level⟩ hl _ hh 200 1 1 200 (nmO 0) (by omega) (by omega)
      · rw [if_neg e3]
        obtain ⟨c, rfl⟩ : ∃ c, n = c + 2 := ⟨n - 2, by omega⟩
        exact top_none2 nm hnm ⟨nm, side, level⟩ hl _ hh (show side = 3 by omega) 200 1 c 1 200 (nmO 0) (by omega) (by omega)
theorem leftT_snoc (nm : List UInt8) : ∀ (c k : Nat) (l : Nd), leftT nm k (c + 1) l = appM 17 (opO nm) (leftT nm k c l) (nmO (k + c))
  | 0, k, l => rfl
  | c + 1, k, l => by
    show leftT nm (k + 1) (c + 1) (appM 17 (opO nm) l (nmO k)) = _
    rw [leftT_snoc nm c (k + 1), show k + 1 + c = k + (c + 1) by omega]
    rfl
/-- The tree at a round of the loop that goes down. -/
def stT (nm : List UInt8) (side : Int) (n i : Nat) : Nd := if side = 2 then rightT nm (i + 1) (n - i) (nmO i) else leftT nm 1 (n - i) (nmO 0)
theorem stT_zero (nm : List UInt8) (side : Int) (n : Nat) (hs1 : 1 ≤ side) (hs3 : side ≤ 3) (h : ¬ (side = 3 ∧ 1 < n)) (hn : 1 ≤ n) : levR nm side n = .ok (stT nm side n 0) [] := by
  unfold levR stT
  by_cases e1 : side = 1
  · rw [if_pos e1, if_neg (by omega)]
    rfl
  · rw [if_neg e1]
    by_cases e2 : side = 2
    · rw [if_pos e2, if_pos e2]
      rfl
    · have : n = 1 := by omega
      subst this
      rw [if_neg e2, if_pos rfl, if_neg e2]
theorem levR_bad (nm : List UInt8) (side : Int) (n : Nat) (h : side = 3 ∧ 1 < n) : levR nm side n = .bad 0 := by
  unfold levR
  rw [if_neg (by omega), if_neg (by omega), if_neg (by omega)]
theorem stT_end (nm : List UInt8) (side : Int) (n : Nat) : (stT nm side n n).kind = 13 := by
  unfold stT
  rw [Nat.sub_self]
  by_cases e2 : side = 2
  · rw [if_pos e2]; rfl
  · rw [if_neg e2]; rfl
theorem appM_mk (op l r : Nd) : appM 17 op l r = .mk 16 [] 0 [opHead op, l, r] l.pos := by
  unfold appM
  rw [if_neg (by decide)]
/-- One step down. -/
theorem stT_step (nm : List UInt8) (side : Int) (n i : Nat) (hi : i < n) : ∃ h p A B, stT nm side n i = .mk 16 [] 0 [h, A, B] p ∧ ((side = 2 ∧ A = nmO i ∧ B = stT nm side n (i + 1)) ∨ (side ≠ 2 ∧ A = stT nm side n (i + 1) ∧ B = nmO (n - i))) := by
  obtain ⟨c, hc⟩ : ∃ c, n - i = c + 1 := ⟨n - i - 1, by omega⟩
  have hc' : n - (i + 1) = c := by omega
  unfold stT
  rw [hc, hc']
  by_cases e2 : side = 2
  · rw [if_pos e2, if_pos e2]
    refine ⟨_, _, _, _, appM_mk _ _ _, .inl ⟨e2, rfl, rfl⟩⟩
  · rw [if_neg e2, if_neg e2, leftT_snoc]
    refine ⟨_, _, _, _, appM_mk _ _ _, .inr ⟨e2, rfl, ?_⟩⟩
    rw [Nat.add_comm]
theorem stT_nst (nm : List UInt8) (side : Int) (n : Nat) (h1 : 1 ≤ n) (h2 : n ≤ 100) : nst 256 (stT nm side n 0) = true := by
  have hD : 256 - n + n = 256 := by omega
  unfold stT
  rw [Nat.sub_zero]
  by_cases e2 : side = 2
  · rw [if_pos e2]
    have := nst_right nm n (0 + 1) (256 - n) (nmO 0) (by omega) rfl
    rw [hD] at this
    exact this
  · rw [if_neg e2]
    have := nst_left nm n 1 (256 - n) (nmO 0) (by omega) (nst_leaf _ (by omega) _ rfl)
    rw [hD] at this
    exact this
theorem chain_hk (nm : List UInt8) (n : Nat) : ∀ x ∈ (chainO nm n).kids, x.kids = [] ∧ x.kind ≠ 17 ∧ x.kind ≠ 44 ∧ x.kind ≠ 18 := by
  intro x hx
  rcases List.mem_cons.1 hx with h' | h'
  · subst h'; exact ⟨rfl, by decide, by decide, by decide⟩
  · rcases tailO_mem nm n 1 x h' with h' | ⟨j, h', hj⟩ <;> subst h'
    · exact ⟨rfl, show (5 : Int) ≠ 17 by decide, show (5 : Int) ≠ 44 by decide, show (5 : Int) ≠ 18 by decide⟩
    · exact ⟨rfl, show (13 : Int) ≠ 17 by decide, show (13 : Int) ≠ 44 by decide, show (13 : Int) ≠ 18 by decide⟩
theorem chain_wf (nm : List UInt8) (hnl : nm.length ≤ 9223372036854775807) (n : Nat) (hn : n ≤ 100) : ∀ x ∈ (chainO nm n).kids, (-9223372036854775808 ≤ x.kind ∧ x.kind ≤ 9223372036854775807) ∧ x.name.length ≤ 9223372036854775807 ∧ (-9223372036854775808 ≤ x.num ∧ x.num ≤ 9223372036854775807) := by
  intro x hx
  rcases List.mem_cons.1 hx with h' | h'
  · subst h'; exact ⟨by decide, by decide, by decide⟩
  · rcases tailO_mem nm n 1 x h' with h' | ⟨j, h', hj⟩ <;> subst h'
    · exact ⟨show (-9223372036854775808 : Int) ≤ 5 ∧ (5 : Int) ≤ 9223372036854775807 by decide, hnl, show (-9223372036854775808 : Int) ≤ 0 ∧ (0 : Int) ≤ 9223372036854775807 by decide⟩
    · refine ⟨show (-9223372036854775808 : Int) ≤ 13 ∧ (13 : Int) ≤ 9223372036854775807 by decide, show (0 : Nat) ≤ 9223372036854775807 by decide, ?_, ?_⟩
      · show (-9223372036854775808 : Int) ≤ (j : Int); omega
      · show (j : Int) ≤ 9223372036854775807; omega
end Go.Proofs.YtppnhaacmhfenabGreatDoor
