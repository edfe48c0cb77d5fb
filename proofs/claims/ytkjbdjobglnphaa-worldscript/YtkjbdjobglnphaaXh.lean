/-
  WorldScript: same.
-/
import Derived.Test.YtkjbdjobglnphaaXg
import Derived.Deep.RegionHeld3
namespace Go.Proofs.Ytkjbdjobglnphaa
open Go.RowKit Go.Shelf Go.Maps Go.Conc
set_option linter.unusedVariables false
set_option maxHeartbeats 8000000 in
set_option maxRecDepth 100000 in
theorem same_c {w W : World} {F G : Nat → Prop} {P R : Nat} {s : St} (h : Sc w W F G P R s) : Calls Try.prog 18 #[.pointer (some ⟨P, 0, none⟩), .pointer (some ⟨R, 0, none⟩)] W fun r W' => r = .returned (.bool true) ∧ Below W.heap.size W W' := by
  have hdep : Try.prog.follows Departure.mixedOrders = true := by kernel_rfl
  have hr := h.r
  obtain ⟨oi, ci, ow, cw, h1, h2, h3, h4, h5, h6, h7⟩ := hr
  have HO : Hid (∀ X : World, Hid (Below W.heap.size W X) → Calls Try.prog 21 #[.pointer (some ⟨P, 0, none⟩)] X fun r X' => ∃ o' c', r = .returned (.slice o' s.out.length c') ∧ BytAt X' o' s.out ∧ Below W.heap.size W X') := fun X hX => by
    refine ((h.p.below hX.out).outs h.ok).mono ?_
    rintro r X' ⟨o', c', rfl, h8, h9⟩
    exact ⟨o', c', rfl, h8, hX.out.trans (h9.mono hX.out.size)⟩
  have HU : Hid (∀ X : World, Hid (Below W.heap.size W X) → Calls Try.prog 12 #[.pointer (some ⟨P, 0, none⟩)] X fun r X' => r = .returned (.int .i64 (s.rd : Int)) ∧ Below W.heap.size W X') := fun X hX => by
    refine ((h.p.below hX.out).used h.ok).mono ?_
    rintro r X' ⟨rfl, h9⟩
    exact ⟨rfl, hX.out.trans (h9.mono hX.out.size)⟩
  have HL : Hid (∀ X : World, Hid (Below W.heap.size W X) → Calls Try.prog 13 #[.pointer (some ⟨P, 0, none⟩)] X fun r X' => r = .returned (.int .i64 ((s.inn.length - s.rd : Nat) : Int)) ∧ Below W.heap.size W X') := fun X hX => by
    refine ((h.p.below hX.out).left).mono ?_
    rintro r X' ⟨rfl, h9⟩
    exact ⟨rfl, hX.out.trans (h9.mono hX.out.size)⟩
  have HRL : Hid (∀ X : World, Hid (Below W.heap.size W X) → Calls Try.prog 33 #[.pointer (some ⟨R, 0, none⟩)] X fun r X' => r = .returned (.int .i64 ((s.inn.length - s.rd : Nat) : Int)) ∧ Below W.heap.size W X') := fun X hX => by
    refine ((h.r.below hX.out).left h.ok).mono ?_
    rintro r X' ⟨rfl, h9⟩
    exact ⟨rfl, hX.out.trans (h9.mono hX.out.size)⟩
  have HE : Hid (∀ X : World, Hid (Below W.heap.size W X) → Calls Try.prog 14 #[.pointer (some ⟨P, 0, none⟩)] X fun r X' => r = .returned (.bool s.en) ∧ Below W.heap.size W X') := fun X hX => by
    refine ((h.p.below hX.out).ended).mono ?_
    rintro r X' ⟨rfl, h9⟩
    exact ⟨rfl, hX.out.trans (h9.mono hX.out.size)⟩
  have HSm : Hid (∀ (X : World) (o' : Option Addr) (c' : Nat), BytAt X o' s.out → Hid (Below W.heap.size W X) → Calls Try.prog 32 #[.slice o' s.out.length c', .slice ow s.out.length cw] X fun r X' => r = .returned (.bool true) ∧ Below W.heap.size W X') := fun X o' c' hby hX => by
    refine (sameBytes_c o' ow c' cw s.out.length s.out rfl h.ok.out X hby ((owns_byt h3).oth (Oth.of_below (S := fun _ => False) hX.out) (fun _ _ _ e => e))).mono ?_
    rintro r X' ⟨rfl, h9⟩
    exact ⟨rfl, hX.out.trans (h9.mono hX.out.size)⟩
  have hmk : Hid (∀ X : World, Hid (Below W.heap.size W X) → (Hid (Below W.heap.size W X) ∧ X.cell? ⟨R, 0, none⟩ = some (.slice oi s.inn.length ci) ∧ X.cell? ⟨R, 1, none⟩ = some (.int .i64 (s.rd : Int)) ∧ X.cell? ⟨R, 2, none⟩ = some (.bool s.en) ∧ X.cell? ⟨R, 3, none⟩ = some (.slice ow s.out.length cw))) := fun X hX => by
    obtain ⟨c0, c1, c2, c3, -⟩ := (h1.below hX.out h1.lt).all4
    exact ⟨hX, c0, c1, c2, c3⟩
  have hB0 : Hid (Below W.heap.size W W) := Below.refl _ _
  have hBd : Hid (Below W.heap.size W W.drew) := (Below.refl _ _).drew
  have HX : Hid (∃ z : List Int, z = s.out) := ⟨_, rfl⟩
  obtain ⟨z, hz⟩ := HX.out
  rw [← hz] at HO HSm hmk
  clear h h1 h2 h3 h4 h5 h6 h7 hz HX
  generalize z.length = n at *
  generalize s.inn.length - s.rd = lf at *
  generalize s.inn.length = ni at *
  generalize s.rd = rd at *
  generalize s.en = en at *
  go_enter Try.func18, Try.ntmps18
  go_wp2
  go_region_held3 (fun X : World => Hid (Below W.heap.size W X) ∧ X.cell? ⟨R, 0, none⟩ = some (.slice oi ni ci) ∧ X.cell? ⟨R, 1, none⟩ = some (.int .i64 (rd : Int)) ∧ X.cell? ⟨R, 2, none⟩ = some (.bool en) ∧ X.cell? ⟨R, 3, none⟩ = some (.slice ow n cw))
    (first
      | with_reducible exact hmk.out _ hSf
      | with_reducible exact hmk.out _ hSe
      | with_reducible exact hmk.out _ hSd
      | with_reducible exact hmk.out _ hSc
      | with_reducible exact hmk.out _ hSb
      | with_reducible exact hmk.out _ hSa
      | with_reducible exact hmk.out _ hBd
      | with_reducible exact hmk.out _ hB0)
    (first
      | (go_at_call 21; refine (HO.out _ (And.left (by with_reducible assumption))).mono ?_; rintro r xa ⟨oa, ca, rfl, hba, hb⟩; have hSa : Hid (Below W.heap.size W xa) := hb; have HBa : Hid (BytAt xa oa z) := hba; clear hb hba)
      | (go_at_call 32; refine (HSm.out _ _ _ HBa.out hSa).mono ?_; rintro r xb ⟨rfl, hb⟩; have hSb : Hid (Below W.heap.size W xb) := hb; clear hb)
      | (go_at_call 12; refine (HU.out _ (And.left (by with_reducible assumption))).mono ?_; rintro r xc ⟨rfl, hb⟩; have hSc : Hid (Below W.heap.size W xc) := hb; clear hb)
      | (go_at_call 13; refine (HL.out _ (And.left (by with_reducible assumption))).mono ?_; rintro r xd ⟨rfl, hb⟩; have hSd : Hid (Below W.heap.size W xd) := hb; clear hb)
      | (go_at_call 33; refine (HRL.out _ (And.left (by with_reducible assumption))).mono ?_; rintro r xe ⟨rfl, hb⟩; have hSe : Hid (Below W.heap.size W xe) := hb; clear hb)
      | (go_at_call 14; refine (HE.out _ (And.left (by with_reducible assumption))).mono ?_; rintro r xf ⟨rfl, hb⟩; have hSf : Hid (Below W.heap.size W xf) := hb; clear hb))
  go_wp2
  go_ret
  exact ⟨rfl, hSf.out⟩
end Go.Proofs.Ytkjbdjobglnphaa
