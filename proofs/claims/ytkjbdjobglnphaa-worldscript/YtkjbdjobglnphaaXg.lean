/-
  WorldScript: the kit's Pick, Bytes, SameBytes.
-/
import Derived.Test.YtkjbdjobglnphaaXf
namespace Go.Proofs.Ytkjbdjobglnphaa
open Go.RowKit Go.Shelf Go.Maps Go.Conc
set_option linter.unusedVariables false
def pickM (k : Int) : Int := if k.tmod 6 < 0 then k.tmod 6 + 6 else k.tmod 6
theorem tmod6 (k : Int) : -6 < k.tmod 6 ∧ k.tmod 6 < 6 := ⟨Int.lt_tmod_of_pos k (by decide), Int.tmod_lt_of_pos k (by decide)⟩
theorem pick_range (k : Int) : 0 ≤ pickM k ∧ pickM k < 6 := by
  have := tmod6 k
  unfold pickM
  split <;> omega
set_option maxRecDepth 100000 in
set_option maxHeartbeats 1000000 in
theorem pick_c (k : Int) (w : World) : Calls Try.prog 15 #[.int .i64 k, .int .i64 6] w fun r W' => r = .returned (.int .i64 (pickM k)) ∧ W' = w := by
  have hb := tmod6 k
  by_cases h : k.tmod 6 < 0
  · have HE : Hid (pickM k = k.tmod 6 + 6) := if_pos h
    have hw := wrapS (k.tmod 6 + 6) (by omega) (by omega)
    clear hb
    go_enter Try.func15, Try.ntmps15
    go_wp2
    go_ret
    exact ⟨by rw [HE.out]; rfl, rfl⟩
  · have HE : Hid (pickM k = k.tmod 6) := if_neg h
    clear hb
    go_enter Try.func15, Try.ntmps15
    go_wp2
    go_ret
    exact ⟨by rw [HE.out]; rfl, rfl⟩
/-- A row of one's own, made of bytes that lay there. -/
def Copied (n : Nat) (l : List Int) (w : World) (r : Ending) (W' : World) : Prop := ∃ o' c', r = .returned (.slice o' n c') ∧ W'.ownsRow w.heap.size 5 1 (.slice o' n c') n (vals l) ∧ Below w.heap.size w W'
theorem mkByte (l c : Int) (h0 : 0 ≤ l) (hlc : l ≤ c) (hc : c ≤ 10000000) (w : World) : (Instr.makeSlice 27 (.int .i64 l) (.int .i64 c)).run Try.prog w = .ok (.slice (some ⟨w.heap.size, 0, none⟩) l.toNat c.toNat) (w.alloc (.cells (madeCells #[.int .u8 0] c.toNat) 5)) := by
  obtain ⟨i, hi, hz, hsz, hby⟩ := infoByte
  have := run_make (P := Try.prog) w 27 5 i (.int .u8 0) Try.underlying27 hi hz .i64 .i64 l c h0 hlc (by rw [hby]; omega) (by omega)
  rw [hsz, Nat.mul_one] at this
  exact this
theorem made_size (c : Nat) : (madeCells #[.int .u8 0] c).size = c := by
  first | exact madeCells_size _ _ | simp [madeCells]
set_option maxRecDepth 100000 in
set_option maxHeartbeats 1000000 in
theorem bytes_c (o : Option Addr) (n c : Nat) (l : List Int) (hl : l.length = n) (hln : n ≤ 4000) (hn : o = none → l = [] ∧ c = 0) (w : World) (h : BytAt w o l) : Calls Try.prog 26 #[.slice o n c] w (Copied n l w) := by
  have hw := wrapS ((n : Int) + 3) (by omega) (by omega)
  have hmk := mkByte 0 ((n : Int) + 3) (by decide) (by omega) (by omega) w
  simp only [show (0 : Int).toNat = 0 from rfl, show ((n : Int) + 3).toNat = n + 3 by omega] at hmk
  have hni : (n : Int) ≤ 4000 := by omega
  have HX : Hid ((w.alloc (.cells (madeCells #[.int .u8 0] (n + 3)) 5)).ownsRow w.heap.size 5 1 (.slice (some ⟨w.heap.size, 0, none⟩) 0 (n + 3)) 0 (vals []) ∧ BytAt (w.alloc (.cells (madeCells #[.int .u8 0] (n + 3)) 5)) o l ∧ l.length = n ∧ n ≤ 4000 ∧ (o = none → l = [] ∧ c = 0)) := ⟨World.ownsRow_made w _ (n + 3) (Nat.le_refl _) (by unfold maxLen; omega) (by rw [made_size, Nat.mul_one]), h.oth (Oth.of_below (S := fun _ => False) (below1 w _)) (fun _ _ _ e => e), hl, hln, hn⟩
  clear h hl hn hln
  go_enter Try.func26, Try.ntmps26
  go_wp2_with (at_builtin; refine app_bytes rfl _ _ rfl w.heap.size (.slice (some ⟨w.heap.size, 0, none⟩) 0 (n + 3)) 0 [] rfl rfl HX.out.1 o n c l rfl HX.out.2.2.1 HX.out.2.2.2.2 HX.out.2.1 (by have := HX.out.2.2; omega) (by simp) ?_; intro o' c' w3 h31 h32 h33; have H3 : Hid (w3.ownsRow w.heap.size 5 1 (.slice o' (0 + n) c') ([] ++ l).length (vals ([] ++ l)) ∧ Oth (fun k => Value.ownBlock (.slice (some ⟨w.heap.size, 0, none⟩) 0 (n + 3)) = some k) (w.alloc (.cells (madeCells #[.int .u8 0] (n + 3)) 5)) w3) := ⟨h31, h32⟩; clear h31 h32 h33)
  go_ret
  have h1 := H3.out.1
  rw [List.nil_append, HX.out.2.2.1, Nat.zero_add] at h1
  exact ⟨o', c', by simp, h1, (below1 w _).trans ((H3.out.2.below (by simp) (fun j hj => by cases hj; exact Nat.le_refl _)))⟩
set_option maxHeartbeats 4000000 in
set_option maxRecDepth 100000 in
theorem sameBytes_c (oa ob : Option Addr) (ca cb n : Nat) (l : List Int) (hl : l.length = n) (hln : n ≤ 1048576) (w : World) (ha : BytAt w oa l) (hb : BytAt w ob l) : Calls Try.prog 32 #[.slice oa n ca, .slice ob n cb] w fun r W' => r = .returned (.bool true) ∧ Below w.heap.size w W' := by
  have hdep : Try.prog.follows Departure.mixedOrders = true := by kernel_rfl
  have HA : Hid (BytAt w oa l ∧ BytAt w ob l ∧ l.length = n) := ⟨ha, hb, hl⟩
  have hni : (n : Int) ≤ 1048576 := by omega
  clear ha hb hl hln
  go_enter Try.func32, Try.ntmps32
  go_wp2
  go_loopw [5] (fun v5 wr => ∃ k : Nat, v5 = .int .i64 (k : Int) ∧ Hid (k ≤ n ∧ Below w.heap.size w wr)) (fun v _ => n - (intOf v).toNat)
  case atStart => exact ⟨0, rfl, ⟨Nat.zero_le _, Below.refl _ _⟩⟩
  case round =>
    obtain ⟨k, rfl, HI⟩ := hrel
    by_cases hk : k < n
    · obtain ⟨x, hx⟩ : ∃ x, l[k]? = some x := ⟨l[k]'(by have := HA.out.2.2; omega), List.getElem?_eq_getElem _⟩
      obtain ⟨g1, f1, rfl, l1, r1⟩ := HA.out.1.at hx
      obtain ⟨g2, f2, rfl, l2, r2⟩ := HA.out.2.1.at hx
      have x1 : wr.cell? ⟨g1, f1 + k, none⟩ = some (.int .u8 x) := (HI.out.2.cell (p := ⟨g1, f1 + k, none⟩) l1).trans r1
      have y1 : wr.cell? ⟨g2, f2 + k, none⟩ = some (.int .u8 x) := (HI.out.2.cell (p := ⟨g2, f2 + k, none⟩) l2).trans r2
      have lx : g1 < wr.heap.size := Nat.lt_of_lt_of_le l1 HI.out.2.size
      have ly : g2 < wr.heap.size := Nat.lt_of_lt_of_le l2 HI.out.2.size
      have hki : (k : Int) < (n : Int) := by omega
      have HK : Hid (k < n) := hk
      clear r1 r2 l1 l2 hx hk
      go_wp2
      go_region
      go_wp2
      refine ⟨⟨k + 1, by congr 1, ⟨HK.out, HI.out.2.drew⟩⟩, ?_⟩
      show n - ((k : Int) + 1).toNat < n - ((k : Int)).toNat
      have := HK.out; omega
    · have hki : ¬ (k : Int) < (n : Int) := by omega
      clear hk
      go_wp2
      go_ret
      exact ⟨rfl, HI.out.2⟩
end Go.Proofs.Ytkjbdjobglnphaa
