/-
  A walk in memory (stage 16): bindAll, by a contract.
-/
import Derived.Test.YtjmpjfggbhongaaDoorUe
namespace Go.Proofs.YtjmpjfggbhongaaDoor
open Go.RowKit Go.Shelf Go.Maps
set_option linter.unusedVariables false

theorem binds_snoc (o : Nat) (l : List ByteArray) (k : Nat) (h : k < l.length) (s : WS) : bindsS o (l.take (k + 1)) s = bindS o l[k] (bindsS o (l.take k) s) := by
  unfold bindsS; rw [List.take_succ_eq_append_getElem h, List.foldl_append]; rfl
theorem TxIn.at16 {W : World} {B : Nat} {o : Option Addr} {l : List ByteArray} (h : TxIn W B o l) {k : Nat} (hk : k < l.length) : ∃ g off, o = some ⟨g, off, none⟩ ∧ g < B ∧ W.cell? ⟨g, off + k, none⟩ = some (.string l[k]) := by
  rcases h with h | ⟨g, off, e, hg, h⟩
  · subst h; cases hk
  · exact ⟨g, off, e, hg, h k hk⟩
set_option maxHeartbeats 8000000 in
set_option maxRecDepth 100000 in
theorem wkBindAll_c (F P B : Nat) (l : List ByteArray) (hls : ∀ x ∈ l, x.size ≤ maxLen) (ol : Option Addr) (cl : Nat) (s : WS) (outer : Nat) (w : World) (h : WkAt w F P s) (hl : TxIn w B ol l) (hB : B ≤ F) (hF : F ≤ w.heap.size) (ht : tot s + 4 * l.length ≤ 3000000) (ho : outer ≤ 3000000) :
    Calls Tryd.prog 67 #[.pointer (some ⟨P, 0, none⟩), .slice ol l.length cl, .int .i64 (outer : Int)] w fun e w' => e = .returned (.tuple #[]) ∧ WkAt w' F P (bindsS outer l s) ∧ Below F w w' := by
  have HA : Hid (∀ k (hk : k < l.length), ∃ g off, ol = some ⟨g, off, none⟩ ∧ g < w.heap.size ∧ ∀ W : World, Below F w W → W.cell? ⟨g, off + k, none⟩ = some (.string l[k])) := by
    intro k hk
    obtain ⟨g, off, e, hg, hc⟩ := hl.at16 hk
    exact ⟨g, off, e, by omega, fun W hW => (hW.cell (p := ⟨g, off + k, none⟩) (by show g < F; omega)).trans hc⟩
  have HC : Hid (∀ k (hk : k < l.length), ∀ W : World, WkAt W F P (bindsS outer (l.take k) s) → Calls Tryd.prog 40 #[.pointer (some ⟨P, 0, none⟩), .string l[k], .int .i64 (outer : Int)] W fun e w' => e = .returned (.tuple #[]) ∧ WkAt w' F P (bindsS outer (l.take (k + 1)) s) ∧ Below F W w') := by
    intro k hk W hW
    have h1 := tot_binds outer (l.take k) s
    have h2 : (l.take k).length ≤ l.length := by simp; omega
    have := wkBind_c F P (bindsS outer (l.take k) s) outer l[k] (hls _ (List.getElem_mem hk)) W hW (by omega) ho
    rw [← binds_snoc outer l k hk s] at this
    exact this
  have HI : Hid (WkAt w F P (bindsS outer (l.take 0) s) ∧ Below F w w) := ⟨h, Below.refl _ _⟩
  obtain ⟨n, hn⟩ : ∃ n, l.length = n := ⟨_, rfl⟩
  have HN : Hid (l.length = n) := hn
  rw [hn]
  have hni : (n : Int) ≤ 3000000 := by omega
  clear hl hB hF h hn ht hls
  go_enter Tryd.func67, Tryd.ntmps67
  go_wp2
  go_loopw [10] (fun i wr => ∃ k : Nat, k ≤ n ∧ i = .int .i64 k ∧ Hid (WkAt wr F P (bindsS outer (l.take k) s) ∧ Below F w wr)) (fun i _ => n - (intOf i).toNat)
  case atStart => exact ⟨0, Nat.zero_le _, rfl, HI⟩
  case round =>
    obtain ⟨k, hk, rfl, hS⟩ := hrel
    clear HI
    by_cases hkn : k < n
    · have hkl : k < l.length := by rw [HN.out]; exact hkn
      obtain ⟨g, off, rfl, hg, hcell⟩ := HA.out k hkl
      have hc := hcell wr hS.out.2
      have hgw : g < wr.heap.size := Nat.lt_of_lt_of_le hg hS.out.2.size
      have HCk : Hid (Calls Tryd.prog 40 #[.pointer (some ⟨P, 0, none⟩), .string l[k], .int .i64 (outer : Int)] wr fun e w' => e = .returned (.tuple #[]) ∧ WkAt w' F P (bindsS outer (l.take (k + 1)) s) ∧ Below F w w') := by
        refine (HC.out k hkl wr hS.out.1).mono ?_
        rintro e w' ⟨rfl, h1, h2⟩
        exact ⟨rfl, h1, hS.out.2.trans h2⟩
      generalize l[k] = nm at hc HCk
      clear hcell hkl hS HA HC hk hg
      go_wp2_with (go_at_call 40; fail)
      refine HCk.out.mono ?_
      rintro e w2 ⟨rfl, hr⟩
      have HR2 : Hid (WkAt w2 F P (bindsS outer (l.take (k + 1)) s) ∧ Below F w w2) := hr
      clear hr HCk hc
      go_wp2
      go_roundw
      case rel => exact ⟨k + 1, hkn, by go_num, HR2⟩
      case measure => simp [intOf]; omega
    · have HF : Hid (WkAt wr F P (bindsS outer l s) ∧ Below F w wr) := by
        have e : l.take k = l := List.take_of_length_le (by rw [HN.out]; omega)
        have h3 := hS.out
        rw [e] at h3
        exact h3
      clear hS HA HC
      go_wp2
      go_end0
      exact ⟨rfl, HF.out⟩
end Go.Proofs.YtjmpjfggbhongaaDoor
