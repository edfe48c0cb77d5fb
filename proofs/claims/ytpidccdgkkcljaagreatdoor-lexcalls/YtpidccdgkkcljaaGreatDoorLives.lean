/-
  The chapter's first example, by contracts.
-/
import Derived.Test.YtpidccdgkkcljaaGreatDoorAll
namespace Go.Proofs.YtpidccdgkkcljaaGreatDoor
open Go.RowKit Go.Shelf Go.Maps
set_option linter.unusedVariables false

def plainK (k : Nat) : Prop := k = 1 ∨ k = 2 ∨ k = 3 ∨ k = 4 ∨ k = 8 ∨ k = 9 ∨ k = 10

set_option maxHeartbeats 8000000 in
set_option maxRecDepth 100000 in
theorem text_plain (k : Nat) (hk : plainK k) (tx : ByteArray) (num a l c : Int) (f : Bool) (w : World) :
    Calls Tryz.prog 16 #[.agg #[.int .i64 (k : Int), .string tx, .int .i64 num, .int .i64 a, .int .i64 l, .int .i64 c, .bool f]] w fun e W' => e = .returned (.string tx) ∧ Below w.heap.size w W' := by
  have hB : Hid (∀ o : Obj, Below w.heap.size w (w.alloc o)) := fun o => (Below.refl _ w).alloc (Nat.le_refl _) _
  rcases hk with rfl | rfl | rfl | rfl | rfl | rfl | rfl
  all_goals go_enter Tryz.func16, Tryz.ntmps16
  all_goals go_wp2
  all_goals go_ret
  all_goals exact ⟨rfl, hB.out _⟩

theorem all_inr (s : ByteArray) (ts : List M.Tk) (hs : s.size ≤ 70000) (hc : chk s = (0, 0)) (hts : M.scanAll s.data.toList = .inr ts) (w : World) (hG : GOK w) :
    Calls Tryz.prog 10 #[.string s] w fun r W' => ∃ v, r = .returned (.tuple #[v, .agg #[.int .i64 0, .int .i64 0]]) ∧ Hid (W'.ownsRow w.heap.size 30 7 v ts.length (tksC ts)) ∧ Below w.heap.size w W' := by
  refine (all_ok s hs hc w hG).mono ?_
  rintro r W' ⟨v, f, rfl, hb, hp⟩
  have hp' := hp.out
  unfold AllPost at hp'
  rw [hts] at hp'
  obtain ⟨rfl, _, ho⟩ := hp'
  exact ⟨v, rfl, ho, hb⟩
theorem all_inl (s : ByteArray) (a : Nat) (hs : s.size ≤ 70000) (hc : chk s = (0, 0)) (hts : M.scanAll s.data.toList = .inl a) (w : World) (hG : GOK w) :
    Calls Tryz.prog 10 #[.string s] w fun r W' => r = .returned (.tuple #[.slice none 0 0, .agg #[.int .i64 4, .int .i64 (a : Int)]]) ∧ Below w.heap.size w W' := by
  refine (all_ok s hs hc w hG).mono ?_
  rintro r W' ⟨v, f, rfl, hb, hp⟩
  have hp' := hp.out
  unfold AllPost at hp'
  rw [hts] at hp'
  obtain ⟨rfl, rfl⟩ := hp'
  exact ⟨rfl, hb⟩

/-- A slice of texts in memory. -/
def TextsAt (W : World) (g : Nat) (L : List ByteArray) : Prop := ∀ j (h : j < L.length), W.cell? ⟨g, j, none⟩ = some (.string L[j])
theorem Tryz.info9 : (Tryz.prog.info? 9).map (fun i => (i.zero, i.size, i.bytes)) = some (some (.string ⟨#[]⟩), 1, 16) := by kernel_rfl
theorem ownsRow_succ' {W : World} {b e z m : Nat} {v : Value} {xs : List Value} (h : W.ownsRow b e z v (m + 1) xs) : ∃ g cap, v = .slice (some ⟨g, 0, none⟩) (m + 1) cap := by
  rcases h with ⟨_, ⟨_, h⟩ | ⟨g, cap, cur, h, _⟩⟩
  · omega
  · exact ⟨g, cap, h⟩

set_option maxRecDepth 100000 in
set_option maxHeartbeats 4000000 in
theorem same_c (L : List ByteArray) (m g cap g' cap' : Nat) (hm : L.length = m + 1) (hm2 : m ≤ 4000) (w : World) (ht : Hid (TextsAt w g L)) (ht' : Hid (TextsAt w g' L)) (hg : g < w.heap.size) (hg' : g' < w.heap.size) :
    Calls Tryz.prog 11 #[.slice (some ⟨g, 0, none⟩) (m + 1) cap, .slice (some ⟨g', 0, none⟩) (m + 1) cap'] w fun e W' => e = .returned (.bool true) ∧ Below w.heap.size w W' := by
  have hdep : Tryz.prog.follows Departure.mixedOrders = true := by kernel_rfl
  have HM : Hid (L.length = m + 1) := hm
  clear hm
  go_enter Tryz.func11, Tryz.ntmps11
  go_wp2
  go_loopw [5] (fun i wr => ∃ k : Nat, k ≤ m + 1 ∧ i = .int .i64 k ∧ Below w.heap.size w wr) (fun i _ => m + 1 - (intOf i).toNat)
  case atStart => exact ⟨0, Nat.zero_le _, rfl, Below.refl _ _⟩
  case round =>
    obtain ⟨k, hk, rfl, hB⟩ := hrel
    by_cases hlt : k < m + 1
    · have hkL : k < L.length := by rw [HM.out]; exact hlt
      have hc : wr.cell? ⟨g, k, none⟩ = some (.string L[k]) := (hB.cell (p := ⟨g, k, none⟩) hg).trans (ht.out k hkL)
      have hc' : wr.cell? ⟨g', k, none⟩ = some (.string L[k]) := (hB.cell (p := ⟨g', k, none⟩) hg').trans (ht'.out k hkL)
      generalize L[k] = T at hc hc'
      clear hkL ht ht' HM
      have hki : (k : Int) < (m : Int) + 1 := by omega
      go_wp2
      go_region
      all_goals go_wp2
      all_goals go_roundw
      all_goals first | (refine ⟨k + 1, by omega, by go_num, ?_⟩; repeat (first | exact hB | apply Below.drew)) | (simp [intOf]; omega)
    · go_wp2
      go_ret
      exact ⟨rfl, hB⟩

theorem tks_cell {W : World} {b g m cap : Nat} {ts : List M.Tk} (hm : ts.length = m) (h : W.ownsRow b 30 7 (.slice (some ⟨g, 0, none⟩) m cap) ts.length (tksC ts)) (k : Nat) (hk : k < ts.length) (q : Nat) (hq : q < 7) (u : Value) (hu : (tkC ts[k])[q]? = some u) : W.cell? ⟨g, k * 7 + q, none⟩ = some u := by
  subst hm
  have h1 := h.cellAt (k * 7 + q) (by omega)
  rw [h1]
  have key : ∀ (ts : List M.Tk) (k : Nat) (hk : k < ts.length), (tksC ts)[k * 7 + q]? = (tkC ts[k])[q]? := by
    intro ts
    induction ts with
    | nil => intro k hk; simp at hk
    | cons t ts ih =>
      intro k hk
      have hl : (tkC t).length = 7 := rfl
      have he : tksC (t :: ts) = tkC t ++ tksC ts := by simp [tksC]
      rw [he]
      cases k with
      | zero => rw [List.getElem?_append_left (by rw [hl]; omega)]; simp
      | succ k =>
        rw [List.getElem?_append_right (by rw [hl]; omega), hl]
        have : (k + 1) * 7 + q - 7 = k * 7 + q := by omega
        rw [this, ih k (by simpa using hk)]
        rfl
  rw [key ts k hk, hu]

end Go.Proofs.YtpidccdgkkcljaaGreatDoor
