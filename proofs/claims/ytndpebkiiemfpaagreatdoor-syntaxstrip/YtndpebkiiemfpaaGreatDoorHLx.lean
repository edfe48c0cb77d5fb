/-
  The kit's SmallNode: it answers, and changes nothing.
  The kit's SmallNode: it answers, and changes nothing.
  A node that was handed in, opened.
  A node's lexemes and its text, by contracts.
  The chapter's examples: their trees, checked and told.
  The law on the chapter's examples, by contracts.
  The chapter's examples in memory, and the law's first example.
-/
import Derived.Test.YtndpebkiiemfpaaGreatDoorChk
import Derived.Deep.LoopGhost
import Derived.ProofKit
import Derived.OpenShut
import Derived.Deep.Slices
import Derived.Test.YtndpebkiiemfpaaGreatDoorHWr
import Derived.Test.YtndpebkiiemfpaaGreatDoorHTa
namespace Go.Proofs.YtndpebkiiemfpaaGreatDoor
open Go.RowKit Go.Shelf Go.Maps
set_option linter.unusedVariables false

/-- A part of a node, as it is handed over by value. -/
theorem ndIn_of {W : World} {B : Nat} {n : Nd} {g off : Nat} (h : NdAt W B n g off) : ∃ o cap, W.cell? ⟨g, off, none⟩ = some (.int .i64 n.kind) ∧ W.cell? ⟨g, off + 1, none⟩ = some (.string (bs n.name)) ∧ W.cell? ⟨g, off + 2, none⟩ = some (.int .i64 n.num) ∧ W.cell? ⟨g, off + 3, none⟩ = some (.slice o n.kids.length cap) ∧ W.cell? ⟨g, off + 4, none⟩ = some (.int .i64 n.pos) ∧ NdIn W B n o cap := by
  have hw := h.wf
  obtain ⟨o, cap, h0, h1, h2, h3, h4, h5, h6, h7⟩ := h.cells
  exact ⟨o, cap, h0, h1, h2, h3, h4, h7, h5, h6, hw⟩
theorem NdIn.mono {W : World} {B B' : Nat} {n : Nd} {o : Option Addr} {cap : Nat} (h : NdIn W B n o cap) (hb : B ≤ B') : NdIn W B' n o cap := by
  refine ⟨?_, h.2⟩
  rcases h.1 with h | ⟨g, off, e, hg, hk⟩
  · exact .inl h
  · exact .inr ⟨g, off, e, by omega, KidsAt.mono hb n.kids g off hk⟩
set_option maxRecDepth 100000 in
set_option maxHeartbeats 4000000 in
theorem nodes_c (most : Int) (hm : 0 ≤ most ∧ most ≤ 1000000) : ∀ (d : Nat) (hd : d ≤ 1000) (n : Nd) (o : Option Addr) (cap : Nat) (w : World), NdIn w w.heap.size n o cap →
    Calls Tryz.prog 21 #[.agg #[.int .i64 n.kind, .string (bs n.name), .int .i64 n.num, .slice o n.kids.length cap, .int .i64 n.pos], .int .i64 most, .int .i64 d] w fun e W' => ∃ x : Int, e = .returned (.int .i64 x) ∧ Below w.heap.size w W'
  | 0, hd, n, o, cap, w, hn => by
    have hl : (bs n.name).size ≤ 9223372036854775807 := hn.2.2.2.2.1
    have hl2 : ((bs n.name).size : Int) ≤ 9223372036854775807 := by omega
    have HB : Hid (∀ a, Below w.heap.size w (w.alloc a)) := fun a => (Below.refl _ w).alloc (Nat.le_refl _) _
    clear hn
    generalize bs n.name = nm at *
    go_enter Tryz.func21, Tryz.ntmps21
    go_wp2
    go_ret
    exact ⟨_, rfl, HB.out _⟩
  | d + 1, hd, n, o, cap, w, hn => by
    have hl : (bs n.name).size ≤ 9223372036854775807 := hn.2.2.2.2.1
    have hl2 : ((bs n.name).size : Int) ≤ 9223372036854775807 := by omega
    have HN : Hid (NdIn w w.heap.size n o cap) := hn
    have HIH : Hid (∀ (n : Nd) (o : Option Addr) (cap : Nat) (w : World), NdIn w w.heap.size n o cap → Calls Tryz.prog 21 #[.agg #[.int .i64 n.kind, .string (bs n.name), .int .i64 n.num, .slice o n.kids.length cap, .int .i64 n.pos], .int .i64 most, .int .i64 d] w fun e W' => ∃ x : Int, e = .returned (.int .i64 x) ∧ Below w.heap.size w W') := fun n o cap w h => nodes_c most hm d (by omega) n o cap w h
    have hd0 : ¬ ((d + 1 : Nat) : Int) = 0 := by omega
    have hd1 : (((d + 1 : Nat) : Int) == 0) = false := by simpa using hd0
    have hdw : ((d + 1 : Nat) : Int) - 1 = (d : Int) := by omega
    have hcap : n.kids.length ≤ cap ∧ cap ≤ 9223372036854775807 := ⟨hn.2.1, hn.2.2.1⟩
    have hLi : (n.kids.length : Int) ≤ 9223372036854775807 := by omega
    obtain ⟨dd, hdd⟩ : ∃ dd : Int, dd = ((d + 1 : Nat) : Int) := ⟨_, rfl⟩
    have HDD : Hid (dd - 1 = (d : Int)) := by show _ = _; omega
    have hdw2 : IntKind.i64.wrap (dd - 1) = dd - 1 := by rw [IntKind.wrap_i64]; omega
    rw [← hdd] at hd0 hd1 ⊢
    have HV : Hid (∀ W : World, Below w.heap.size w W → Blk W w.heap.size #[.int .i64 n.kind, .string (bs n.name), .int .i64 n.num, .slice o n.kids.length cap, .int .i64 n.pos] 24 → True) := fun _ _ _ => trivial
    have HB0 : Hid (Below w.heap.size w (w.alloc (.cells #[.int .i64 n.kind, .string (bs n.name), .int .i64 n.num, .slice o n.kids.length cap, .int .i64 n.pos] 24)) ∧ Blk (w.alloc (.cells #[.int .i64 n.kind, .string (bs n.name), .int .i64 n.num, .slice o n.kids.length cap, .int .i64 n.pos] 24)) w.heap.size #[.int .i64 n.kind, .string (bs n.name), .int .i64 n.num, .slice o n.kids.length cap, .int .i64 n.pos] 24) := ⟨(Below.refl _ w).alloc (Nat.le_refl _) _, Blk.new w _ _⟩
    clear hn hdw hdd HV hd
    generalize hnm : bs n.name = nm at *
    have HNM : Hid (bs n.name = nm) := hnm
    clear hnm
    go_enter Tryz.func21, Tryz.ntmps21
    go_wp2
    go_loopg [7, 8] n.kids.length (fun g v7 v8 wr => ∃ (x : Int) (k : Nat), v7 = .int .i64 x ∧ v8 = .int .i64 k ∧ k ≤ n.kids.length ∧ n.kids.length - k ≤ g ∧ Hid (Below w.heap.size w wr ∧ Blk wr w.heap.size #[.int .i64 n.kind, .string nm, .int .i64 n.num, .slice o n.kids.length cap, .int .i64 n.pos] 24))
    case atStart => exact ⟨_, 0, rfl, rfl, Nat.zero_le _, Nat.le_refl _, HB0⟩
    case round =>
      clear HB0
      obtain ⟨x, k, rfl, rfl, hk, hg, HI⟩ := hrel
      have hBk := HI.out.2
      have hlt := hBk.lt
      have b3 := hBk.cell 3 _ rfl
      by_cases hkl : k < n.kids.length
      · have hkz : (k : Int) < (n.kids.length : Int) := by omega
        by_cases hx : x ≤ most
        · obtain ⟨g1, off1, ho, hg1, hKA⟩ := HN.out.1.at k hkl
          have hnk := KidsAt.get n.kids g1 off1 k hkl hKA
          obtain ⟨o2, cap2, c0, c1, c2, c3, c4, hni⟩ := ndIn_of hnk
          have e0 := (HI.out.1.cell (p := ⟨g1, off1 + k * 5, none⟩) hg1).trans c0
          have e1 := (HI.out.1.cell (p := ⟨g1, off1 + k * 5 + 1, none⟩) hg1).trans c1
          have e2 := (HI.out.1.cell (p := ⟨g1, off1 + k * 5 + 2, none⟩) hg1).trans c2
          have e3 := (HI.out.1.cell (p := ⟨g1, off1 + k * 5 + 3, none⟩) hg1).trans c3
          have e4 := (HI.out.1.cell (p := ⟨g1, off1 + k * 5 + 4, none⟩) hg1).trans c4
          have HC : Hid (Calls Tryz.prog 21 #[.agg #[.int .i64 n.kids[k].kind, .string (bs n.kids[k].name), .int .i64 n.kids[k].num, .slice o2 n.kids[k].kids.length cap2, .int .i64 n.kids[k].pos], .int .i64 most, .int .i64 d] wr fun e W' => ∃ x : Int, e = .returned (.int .i64 x) ∧ Below wr.heap.size wr W') := HIH.out n.kids[k] o2 cap2 wr ((hni.below HI.out.1).mono HI.out.1.size)
          generalize n.kids[k] = kd at e0 e1 e2 e3 e4 HC
          subst ho
          clear c0 c1 c2 c3 c4 hni hnk hKA hBk
          go_wp2_with (go_at_call 21; fail)
          rw [HDD.out]
          refine HC.out.mono ?_
          rintro e w2 ⟨y, rfl, hb2⟩
          have HF : Hid (Below w.heap.size w w2 ∧ Blk w2 w.heap.size #[.int .i64 n.kind, .string nm, .int .i64 n.num, .slice (some ⟨g1, off1, none⟩) n.kids.length cap, .int .i64 n.pos] 24) := ⟨HI.out.1.trans (hb2.mono HI.out.1.size), HI.out.2.below hb2⟩
          rw [← HDD.out]
          clear hb2 HC
          go_wp2
          go_roundg (n.kids.length - (k + 1))
          case measure => omega
          case rel => exact ⟨_, k + 1, rfl, by go_num, by omega, Nat.le_refl _, HF⟩
        · go_wp2
          go_ret
          first | exact ⟨_, rfl, HI.out.1⟩ | exact ⟨⟨_, rfl⟩, HI.out.1⟩
      · have hkz : ¬ (k : Int) < (n.kids.length : Int) := by omega
        go_wp2
        go_ret
        first | exact ⟨_, rfl, HI.out.1⟩ | exact ⟨⟨_, rfl⟩, HI.out.1⟩
set_option maxRecDepth 100000 in
set_option maxHeartbeats 4000000 in
theorem smallNode_c (most : Int) (hm : 0 ≤ most ∧ most ≤ 1000000) (d : Nat) (hd : d ≤ 1000) (n : Nd) (o : Option Addr) (cap : Nat) (w : World) (hn : NdIn w w.heap.size n o cap) :
    Calls Tryz.prog 6 #[.agg #[.int .i64 n.kind, .string (bs n.name), .int .i64 n.num, .slice o n.kids.length cap, .int .i64 n.pos], .int .i64 most, .int .i64 d] w fun e W' => ∃ b : Bool, e = .returned (.bool b) ∧ Below w.heap.size w W' := by
  have hb0 : Below w.heap.size w (w.alloc (.cells #[.int .i64 n.kind, .string (bs n.name), .int .i64 n.num, .slice o n.kids.length cap, .int .i64 n.pos] 24)) := (Below.refl _ w).alloc (Nat.le_refl _) _
  have HC : Hid (Calls Tryz.prog 21 #[.agg #[.int .i64 n.kind, .string (bs n.name), .int .i64 n.num, .slice o n.kids.length cap, .int .i64 n.pos], .int .i64 most, .int .i64 d] (w.alloc (.cells #[.int .i64 n.kind, .string (bs n.name), .int .i64 n.num, .slice o n.kids.length cap, .int .i64 n.pos] 24)) fun e W' => ∃ x : Int, e = .returned (.int .i64 x) ∧ Below (w.alloc (.cells #[.int .i64 n.kind, .string (bs n.name), .int .i64 n.num, .slice o n.kids.length cap, .int .i64 n.pos] 24)).heap.size (w.alloc (.cells #[.int .i64 n.kind, .string (bs n.name), .int .i64 n.num, .slice o n.kids.length cap, .int .i64 n.pos] 24)) W') := nodes_c most hm d hd n o cap _ ((hn.below hb0).mono hb0.size)
  have HB : Hid (Below w.heap.size w (w.alloc (.cells #[.int .i64 n.kind, .string (bs n.name), .int .i64 n.num, .slice o n.kids.length cap, .int .i64 n.pos] 24))) := hb0
  clear hn hb0
  go_enter Tryz.func6, Tryz.ntmps6
  go_wp2_with (go_at_call 21; fail)
  refine HC.out.mono ?_
  rintro e w2 ⟨x, rfl, hb2⟩
  have HF : Hid (Below w.heap.size w w2) := HB.out.trans (hb2.mono HB.out.size)
  clear hb2 HC
  go_wp2
  go_ret
  exact ⟨_, rfl, HF.out⟩
end Go.Proofs.YtndpebkiiemfpaaGreatDoor

namespace Go.Proofs.YtndpebkiiemfpaaGreatDoor
open Go.RowKit Go.Shelf Go.Maps
set_option linter.unusedVariables false

mutual
/-- How long all names of a tree are together. -/
def nmA : Nd → Nat
  | .mk _ nm _ l _ => nm.length + nmL l
def nmL : List Nd → Nat
  | [] => 0
  | x :: l => nmA x + nmL l
end
theorem nmA_eq (n : Nd) : nmA n = n.name.length + nmL n.kids := by cases n; simp only [nmA, Nd.name, Nd.kids]
theorem nmL_take : ∀ (l : List Nd) (k : Nat) (h : k < l.length), nmL (l.take (k + 1)) = nmL (l.take k) + nmA l[k]
  | x :: l, 0, h => by simp [nmL]
  | x :: l, k + 1, h => by
    have := nmL_take l k (by simpa using h)
    simp only [List.take_succ_cons, nmL, List.getElem_cons_succ]
    omega
set_option maxRecDepth 100000 in
set_option maxHeartbeats 4000000 in
theorem nodes4_c (most : Int) (hm : 0 ≤ most ∧ most ≤ 1000000) : ∀ (d : Nat) (hd : d ≤ 1000) (n : Nd) (o : Option Addr) (cap : Nat) (w : World), NdIn w w.heap.size n o cap →
    Calls Tryz.prog 21 #[.agg #[.int .i64 n.kind, .string (bs n.name), .int .i64 n.num, .slice o n.kids.length cap, .int .i64 n.pos], .int .i64 most, .int .i64 d] w fun e W' => ∃ x : Int, e = .returned (.int .i64 x) ∧ (1 ≤ x ∧ x ≤ 200000000000000000 + 2000000 * (d : Int) ∧ (x ≤ most → (nmA n : Int) ≤ 64 * x)) ∧ Below w.heap.size w W'
  | 0, hd, n, o, cap, w, hn => by
    have hl : (bs n.name).size ≤ 9223372036854775807 := hn.2.2.2.2.1
    have hl2 : ((bs n.name).size : Int) ≤ 9223372036854775807 := by omega
    have HB : Hid (∀ a, Below w.heap.size w (w.alloc a)) := fun a => (Below.refl _ w).alloc (Nat.le_refl _) _
    clear hn
    generalize bs n.name = nm at *
    go_enter Tryz.func21, Tryz.ntmps21
    go_wp2
    go_ret
    exact ⟨_, rfl, ⟨by omega, by omega, fun h => by omega⟩, HB.out _⟩
  | d + 1, hd, n, o, cap, w, hn => by
    have hl : (bs n.name).size ≤ 9223372036854775807 := hn.2.2.2.2.1
    have hl2 : ((bs n.name).size : Int) ≤ 9223372036854775807 := by omega
    have HN : Hid (NdIn w w.heap.size n o cap) := hn
    have HSZ : Hid ((bs n.name).size = n.name.length) := rfl
    obtain ⟨nl, hnl⟩ : ∃ nl : Int, nl = (n.name.length : Int) := ⟨_, rfl⟩
    have HNL : Hid (nl = (n.name.length : Int)) := hnl
    have hnz : ((bs n.name).size : Int) = nl := hnl.symm
    clear hnl
    have hdB : (d : Int) ≤ 1000 := by omega
    have hdB0 : 0 ≤ (d : Int) := by omega
    have HIH : Hid (∀ (n : Nd) (o : Option Addr) (cap : Nat) (w : World), NdIn w w.heap.size n o cap → Calls Tryz.prog 21 #[.agg #[.int .i64 n.kind, .string (bs n.name), .int .i64 n.num, .slice o n.kids.length cap, .int .i64 n.pos], .int .i64 most, .int .i64 d] w fun e W' => ∃ x : Int, e = .returned (.int .i64 x) ∧ (1 ≤ x ∧ x ≤ 200000000000000000 + 2000000 * (d : Int) ∧ (x ≤ most → (nmA n : Int) ≤ 64 * x)) ∧ Below w.heap.size w W') := fun n o cap w h => nodes4_c most hm d (by omega) n o cap w h
    have hd0 : ¬ ((d + 1 : Nat) : Int) = 0 := by omega
    have hd1 : (((d + 1 : Nat) : Int) == 0) = false := by simpa using hd0
    have hdw : ((d + 1 : Nat) : Int) - 1 = (d : Int) := by omega
    have hcap : n.kids.length ≤ cap ∧ cap ≤ 9223372036854775807 := ⟨hn.2.1, hn.2.2.1⟩
    have hLi : (n.kids.length : Int) ≤ 9223372036854775807 := by omega
    obtain ⟨dd, hdd⟩ : ∃ dd : Int, dd = ((d + 1 : Nat) : Int) := ⟨_, rfl⟩
    have HDD : Hid (dd - 1 = (d : Int)) := by show _ = _; omega
    have hdw2 : IntKind.i64.wrap (dd - 1) = dd - 1 := by rw [IntKind.wrap_i64]; omega
    rw [← hdd] at hd0 hd1 ⊢
    have HV : Hid (∀ W : World, Below w.heap.size w W → Blk W w.heap.size #[.int .i64 n.kind, .string (bs n.name), .int .i64 n.num, .slice o n.kids.length cap, .int .i64 n.pos] 24 → True) := fun _ _ _ => trivial
    have HB0 : Hid (Below w.heap.size w (w.alloc (.cells #[.int .i64 n.kind, .string (bs n.name), .int .i64 n.num, .slice o n.kids.length cap, .int .i64 n.pos] 24)) ∧ Blk (w.alloc (.cells #[.int .i64 n.kind, .string (bs n.name), .int .i64 n.num, .slice o n.kids.length cap, .int .i64 n.pos] 24)) w.heap.size #[.int .i64 n.kind, .string (bs n.name), .int .i64 n.num, .slice o n.kids.length cap, .int .i64 n.pos] 24) := ⟨(Below.refl _ w).alloc (Nat.le_refl _) _, Blk.new w _ _⟩
    clear hn hdw hdd HV hd
    generalize hnm : bs n.name = nm at *
    have HNM : Hid (bs n.name = nm) := hnm
    clear hnm
    go_enter Tryz.func21, Tryz.ntmps21
    go_wp2
    go_loopg [7, 8] n.kids.length (fun g v7 v8 wr => ∃ (x : Int) (k : Nat), v7 = .int .i64 x ∧ v8 = .int .i64 k ∧ k ≤ n.kids.length ∧ n.kids.length - k ≤ g ∧ (1 ≤ x ∧ x ≤ 200000000000000000 + 2000000 * ((d : Int) + 1)) ∧ Hid (x ≤ most → nl + (nmL (n.kids.take k) : Int) ≤ 64 * x) ∧ Hid (Below w.heap.size w wr ∧ Blk wr w.heap.size #[.int .i64 n.kind, .string nm, .int .i64 n.num, .slice o n.kids.length cap, .int .i64 n.pos] 24))
    case atStart => exact ⟨_, 0, rfl, rfl, Nat.zero_le _, Nat.le_refl _, ⟨by omega, by omega⟩, (fun _ => by simp [nmL]; omega), HB0⟩
    case round =>
      clear HB0
      obtain ⟨x, k, rfl, rfl, hk, hg, ⟨hx1, hx2⟩, HX, HI⟩ := hrel
      have hBk := HI.out.2
      have hlt := hBk.lt
      have b3 := hBk.cell 3 _ rfl
      by_cases hkl : k < n.kids.length
      · have hkz : (k : Int) < (n.kids.length : Int) := by omega
        by_cases hx : x ≤ most
        · obtain ⟨g1, off1, ho, hg1, hKA⟩ := HN.out.1.at k hkl
          have hnk := KidsAt.get n.kids g1 off1 k hkl hKA
          obtain ⟨o2, cap2, c0, c1, c2, c3, c4, hni⟩ := ndIn_of hnk
          have e0 := (HI.out.1.cell (p := ⟨g1, off1 + k * 5, none⟩) hg1).trans c0
          have e1 := (HI.out.1.cell (p := ⟨g1, off1 + k * 5 + 1, none⟩) hg1).trans c1
          have e2 := (HI.out.1.cell (p := ⟨g1, off1 + k * 5 + 2, none⟩) hg1).trans c2
          have e3 := (HI.out.1.cell (p := ⟨g1, off1 + k * 5 + 3, none⟩) hg1).trans c3
          have e4 := (HI.out.1.cell (p := ⟨g1, off1 + k * 5 + 4, none⟩) hg1).trans c4
          have HC : Hid (Calls Tryz.prog 21 #[.agg #[.int .i64 n.kids[k].kind, .string (bs n.kids[k].name), .int .i64 n.kids[k].num, .slice o2 n.kids[k].kids.length cap2, .int .i64 n.kids[k].pos], .int .i64 most, .int .i64 d] wr fun e W' => ∃ x : Int, e = .returned (.int .i64 x) ∧ (1 ≤ x ∧ x ≤ 200000000000000000 + 2000000 * (d : Int) ∧ (x ≤ most → (nmA n.kids[k] : Int) ≤ 64 * x)) ∧ Below wr.heap.size wr W') := HIH.out n.kids[k] o2 cap2 wr ((hni.below HI.out.1).mono HI.out.1.size)
          have HTK : Hid (nmL (n.kids.take (k + 1)) = nmL (n.kids.take k) + nmA n.kids[k]) := nmL_take _ _ hkl
          generalize n.kids[k] = kd at e0 e1 e2 e3 e4 HC HTK
          subst ho
          clear c0 c1 c2 c3 c4 hni hnk hKA hBk
          go_wp2_with (go_at_call 21; fail)
          rw [HDD.out]
          refine HC.out.mono ?_
          rintro e w2 ⟨y, rfl, ⟨hy1, hy2, hy3⟩, hb2⟩
          have HY : Hid (y ≤ most → (nmA kd : Int) ≤ 64 * y) := hy3
          clear hy3
          have HF : Hid (Below w.heap.size w w2 ∧ Blk w2 w.heap.size #[.int .i64 n.kind, .string nm, .int .i64 n.num, .slice (some ⟨g1, off1, none⟩) n.kids.length cap, .int .i64 n.pos] 24) := ⟨HI.out.1.trans (hb2.mono HI.out.1.size), HI.out.2.below hb2⟩
          rw [← HDD.out]
          clear hb2 HC
          go_wp2
          go_roundg (n.kids.length - (k + 1))
          case measure => omega
          case rel =>
            refine ⟨_, k + 1, rfl, by go_num, by omega, Nat.le_refl _, ⟨by omega, by omega⟩, ?_, HF⟩
            intro hxy
            have h1 := HX.out hx
            have h2 := HY.out (by omega)
            rw [HTK.out]
            omega
        · go_wp2
          go_ret
          exact ⟨x, rfl, ⟨hx1, by have := HDD.out; omega, fun h => by omega⟩, HI.out.1⟩
      · have hkz : ¬ (k : Int) < (n.kids.length : Int) := by omega
        go_wp2
        go_ret
        refine ⟨x, rfl, ⟨hx1, by have := HDD.out; omega, fun h => ?_⟩, HI.out.1⟩
        have h1 := HX.out h
        have h2 : n.kids.take k = n.kids := List.take_of_length_le (by omega)
        rw [h2] at h1
        rw [nmA_eq]
        have h3 := HNL.out
        omega
set_option maxRecDepth 100000 in
set_option maxHeartbeats 4000000 in
theorem smallNode4_c (most : Int) (hm : 0 ≤ most ∧ most ≤ 1000000) (d : Nat) (hd : d ≤ 1000) (n : Nd) (o : Option Addr) (cap : Nat) (w : World) (hn : NdIn w w.heap.size n o cap) :
    Calls Tryz.prog 6 #[.agg #[.int .i64 n.kind, .string (bs n.name), .int .i64 n.num, .slice o n.kids.length cap, .int .i64 n.pos], .int .i64 most, .int .i64 d] w fun e W' => ∃ b : Bool, e = .returned (.bool b) ∧ (b = true → (nmA n : Int) ≤ 64 * most) ∧ Below w.heap.size w W' := by
  have hb0 : Below w.heap.size w (w.alloc (.cells #[.int .i64 n.kind, .string (bs n.name), .int .i64 n.num, .slice o n.kids.length cap, .int .i64 n.pos] 24)) := (Below.refl _ w).alloc (Nat.le_refl _) _
  have HC : Hid (Calls Tryz.prog 21 #[.agg #[.int .i64 n.kind, .string (bs n.name), .int .i64 n.num, .slice o n.kids.length cap, .int .i64 n.pos], .int .i64 most, .int .i64 d] (w.alloc (.cells #[.int .i64 n.kind, .string (bs n.name), .int .i64 n.num, .slice o n.kids.length cap, .int .i64 n.pos] 24)) fun e W' => ∃ x : Int, e = .returned (.int .i64 x) ∧ (1 ≤ x ∧ x ≤ 200000000000000000 + 2000000 * (d : Int) ∧ (x ≤ most → (nmA n : Int) ≤ 64 * x)) ∧ Below (w.alloc (.cells #[.int .i64 n.kind, .string (bs n.name), .int .i64 n.num, .slice o n.kids.length cap, .int .i64 n.pos] 24)).heap.size (w.alloc (.cells #[.int .i64 n.kind, .string (bs n.name), .int .i64 n.num, .slice o n.kids.length cap, .int .i64 n.pos] 24)) W') := nodes4_c most hm d hd n o cap _ ((hn.below hb0).mono hb0.size)
  have HB : Hid (Below w.heap.size w (w.alloc (.cells #[.int .i64 n.kind, .string (bs n.name), .int .i64 n.num, .slice o n.kids.length cap, .int .i64 n.pos] 24))) := hb0
  clear hn hb0
  go_enter Tryz.func6, Tryz.ntmps6
  go_wp2_with (go_at_call 21; fail)
  refine HC.out.mono ?_
  rintro e w2 ⟨x, rfl, ⟨hx1, hx2, hx3⟩, hb2⟩
  have HX : Hid (x ≤ most → (nmA n : Int) ≤ 64 * x) := hx3
  clear hx3 hx1 hx2
  have HF : Hid (Below w.heap.size w w2) := HB.out.trans (hb2.mono HB.out.size)
  clear hb2 HC
  go_wp2
  go_ret
  refine ⟨_, rfl, fun hb => ?_, HF.out⟩
  have h1 : x ≤ most := by simpa using hb
  have := HX.out h1
  omega
end Go.Proofs.YtndpebkiiemfpaaGreatDoor

namespace Go.Proofs.YtndpebkiiemfpaaGreatDoor
open Go.ChangeShapes Go.WideShapes Go.ChangeAt Go.RowKit
set_option linter.unusedVariables false

theorem list5 {α : Type} : ∀ {l : List α}, l.length = 5 → ∃ c0 c1 c2 c3 c4, l = [c0, c1, c2, c3, c4]
  | [c0, c1, c2, c3, c4], _ => ⟨c0, c1, c2, c3, c4, rfl⟩
/-- A node's five cells. -/
def ndL (n : Nd) (o : Option Addr) (cap : Nat) : List Value := [.int .i64 n.kind, .string (bs n.name), .int .i64 n.num, .slice o n.kids.length cap, .int .i64 n.pos]
/-- Trees one behind the other, given one by one. -/
theorem kidsAt_of {W : World} {B g : Nat} : ∀ (ns : List Nd) (off : Nat), (∀ k (hk : k < ns.length), NdAt W B ns[k] g (off + k * 5)) → KidsAt W B ns g off
  | [], _, _ => by simp only [KidsAt]
  | n :: ns, off, h => by
    simp only [KidsAt]
    have h0 := h 0 (by simp)
    rw [Nat.zero_mul, Nat.add_zero] at h0
    refine ⟨h0, kidsAt_of ns (off + 5) (fun k hk => ?_)⟩
    have := h (k + 1) (by simpa using hk)
    rw [show off + (k + 1) * 5 = off + 5 + k * 5 by omega] at this
    exact this
theorem ndAt_cells {W : World} {B g off : Nat} {n : Nd} {o : Option Addr} {cap : Nat} (h : NdIn W B n o cap) (hc : ∀ j u, (ndL n o cap)[j]? = some u → W.cell? ⟨g, off + j, none⟩ = some u) : NdAt W B n g off := by
  obtain ⟨h1, h2, h3, h4, h5, h6⟩ := h
  have c0 := hc 0 _ rfl
  have c1 := hc 1 _ rfl
  have c2 := hc 2 _ rfl
  have c3 := hc 3 _ rfl
  have c4 := hc 4 _ rfl
  cases n
  simp only [NdAt]
  exact ⟨o, cap, c0, c1, c2, c3, c4, h2, h3, ⟨h4, h5, h6⟩, h1⟩
theorem bs_of (s : ByteArray) : bs s.data.toList = s := bytes_inj rfl
theorem wf_bnd {x : Int} (h : Lit.wf (.int .i64 x) = true) : -9223372036854775808 ≤ x ∧ x ≤ 9223372036854775807 := by
  simp [Lit.wf, IntKind.min, IntKind.max, IntKind.signed, IntKind.bits] at h
  omega
set_option maxRecDepth 100000 in
theorem open_nd {H : Type} {enc : TypeId × Value → H} {w : World} {spare : Nat → Bool} {held : Bool} : ∀ (n : Nat) {cs : List Value} {x : DataW H × List MemPlace}, DataW.trod enc Tryz.prog w 0 spare held n 24 cs = some x →
    ∃ (nd : Nd) (o : Option Addr) (cap : Nat), cs = ndL nd o cap ∧ NdIn w w.heap.size nd o cap := by
  intro n
  induction n using Nat.strongRecOn with
  | ind n ih =>
    intro cs x h
    obtain ⟨xs, m, hmn, rfl, hl, hlen, hf⟩ := DataW.trod_struct Tryz.underlying24 h
    have hc : Tryz.prog.cellsOf 24 = 5 := by kernel_rfl
    rw [hc] at hl
    obtain ⟨c0, c1, c2, c3, c4, rfl⟩ := list5 hl
    obtain ⟨x0, x1, x2, x3, x4, rfl⟩ := list5 (show xs.length = 5 from hlen)
    have k2 : Tryz.prog.cellsOf 2 = 1 := by kernel_rfl
    have k3 : Tryz.prog.cellsOf 3 = 1 := by kernel_rfl
    have k9 : Tryz.prog.cellsOf 9 = 1 := by kernel_rfl
    have kK : Tryz.prog.cellsOf 22 = 1 := by kernel_rfl
    have h0 : DataW.trod enc Tryz.prog w 0 spare held m 3 (([c0, c1, c2, c3, c4].drop 0).take (Tryz.prog.cellsOf 3)) = some x0 := hf 0 _ rfl
    have h1 : DataW.trod enc Tryz.prog w 0 spare held m 9 (([c0, c1, c2, c3, c4].drop 1).take (Tryz.prog.cellsOf 9)) = some x1 := hf 1 _ rfl
    have h2 : DataW.trod enc Tryz.prog w 0 spare held m 2 (([c0, c1, c2, c3, c4].drop 2).take (Tryz.prog.cellsOf 2)) = some x2 := hf 2 _ rfl
    have h3 : DataW.trod enc Tryz.prog w 0 spare held m 22 (([c0, c1, c2, c3, c4].drop 3).take (Tryz.prog.cellsOf 22)) = some x3 := hf 3 _ rfl
    have h4 : DataW.trod enc Tryz.prog w 0 spare held m 3 (([c0, c1, c2, c3, c4].drop 4).take (Tryz.prog.cellsOf 3)) = some x4 := hf 4 _ rfl
    clear hf
    rw [k3] at h0 h4
    rw [k2] at h2
    rw [k9] at h1
    rw [kK] at h3
    obtain ⟨a0, e0, _, w0⟩ := DataW.trod_int Tryz.underlying3 h0
    obtain ⟨a1, e1, _, w1⟩ := DataW.trod_string Tryz.underlying9 h1
    obtain ⟨a2, e2, _, w2⟩ := DataW.trod_int Tryz.underlying2 h2
    obtain ⟨a4, e4, _, w4⟩ := DataW.trod_int Tryz.underlying3 h4
    simp only [List.drop_succ_cons, List.drop_zero, List.take_succ_cons, List.take_zero, List.cons.injEq, and_true] at e0 e1 e2 e4 h3
    subst e0 e1 e2 e4
    clear h0 h1 h2 h4 hl h hlen
    rcases DataW.trod_slice Tryz.underlying22 h3 with ⟨hc3, _⟩ | ⟨a, len, cap, elems, rest, n', hm', hcs, _, _, hlc, hcm, hlen2, hel, _, _⟩
    · simp only [List.cons.injEq, and_true] at hc3
      subst hc3
      refine ⟨.mk a0 a1.data.toList a2 [] a4, none, 0, ?_, .inl rfl, Nat.le_refl _, by decide, wf_bnd w0, ?_, wf_bnd w2⟩
      · simp [ndL, Nd.kind, Nd.name, Nd.num, Nd.kids, Nd.pos, bs_of]
      · have : a1.data.toList.length = a1.size := by rw [Lib.size_eq]
        show a1.data.toList.length ≤ _
        rw [this]
        exact w1
    · simp only [List.cons.injEq, and_true] at hcs
      subst hcs
      rw [hc] at hel
      have hall : ∀ i, i < len → ∃ p : Nd × Option Addr × Nat, w.cells? 0 (a.add (i * 5)) 5 = some (ndL p.1 p.2.1 p.2.2) ∧ NdIn w w.heap.size p.1 p.2.1 p.2.2 := by
        intro i hi
        have h5 := hel i hi
        rw [List.getElem?_eq_getElem (by omega)] at h5
        obtain ⟨cs', h6, h7⟩ := Option.bind_eq_some_iff.1 h5
        obtain ⟨nd, o, cp, rfl, h8⟩ := ih n' (by omega) h7
        exact ⟨(nd, o, cp), h6, h8⟩
      haveI : Inhabited (Nd × Option Addr × Nat) := ⟨(.mk 0 [] 0 [] 0, none, 0)⟩
      obtain ⟨f, hf2⟩ := Go.Deep.choose_lt hall
      refine ⟨.mk a0 a1.data.toList a2 ((List.range len).map (fun i => (f i).1)) a4, some a, cap, ?_, ?_, by simpa [Nd.kids] using hlc, by simpa [maxLen] using hcm, wf_bnd w0, ?_, wf_bnd w2⟩
      · simp [ndL, Nd.kind, Nd.name, Nd.num, Nd.kids, Nd.pos, bs_of]
      · rcases Nat.eq_zero_or_pos len with h0 | h0
        · subst h0; exact .inl rfl
        · right
          obtain ⟨b, off, spot⟩ := a
          have hcell : ∀ i, i < len → ∀ q u, (ndL (f i).1 (f i).2.1 (f i).2.2)[q]? = some u → w.cell? ((⟨b, off, spot⟩ : Addr).add (i * 5 + q)) = some u := by
            intro i hi q u hu
            have h1 := World.cells?_some (hf2 i hi).1
            have hq : q < 5 := (List.getElem?_eq_some_iff.1 hu).1
            have h2 := h1.2.2 q hq
            rw [hu, Go.Deep.add_add] at h2
            exact h2
          have hspot : spot = none := by simpa [Addr.add] using World.cell?_spot (hcell 0 h0 0 _ rfl)
          subst hspot
          refine ⟨b, off, rfl, ?_, ?_⟩
          · have h1 := World.cells?_block (hf2 0 h0).1 (by omega)
            rw [Addr.add_lit] at h1
            exact h1
          · show KidsAt w w.heap.size ((List.range len).map (fun i => (f i).1)) b off
            refine kidsAt_of _ off (fun k hk => ?_)
            have hk2 : k < len := by simpa using hk
            have e : ((List.range len).map (fun i => (f i).1))[k] = (f k).1 := by simp
            rw [e]
            refine ndAt_cells (hf2 k hk2).2 (fun q u hu => ?_)
            have h1 := hcell k hk2 q u hu
            rw [Addr.add_lit, ← Nat.add_assoc] at h1
            exact h1
      · have : a1.data.toList.length = a1.size := by rw [Lib.size_eq]
        show a1.data.toList.length ≤ _
        rw [this]
        exact w1
end Go.Proofs.YtndpebkiiemfpaaGreatDoor

namespace Go.Proofs.YtndpebkiiemfpaaGreatDoor
open Go.RowKit Go.Shelf Go.Maps
set_option linter.unusedVariables false

theorem tC_get : ∀ (ts : List TkT) (k : Nat) (h : k < ts.length) (q : Nat), q < 7 → (ts.flatMap tC)[k * 7 + q]? = (tC ts[k])[q]?
  | t :: ts, 0, h, q, hq => by
    rw [List.flatMap_cons, Nat.zero_mul, Nat.zero_add, List.getElem?_append_left (by show q < 7; exact hq)]; rfl
  | t :: ts, k + 1, h, q, hq => by
    have hf : (tC t).length = 7 := rfl
    rw [List.flatMap_cons, List.getElem?_append_right (by rw [hf]; omega), hf, show (k + 1) * 7 + q - 7 = k * 7 + q by omega]
    exact tC_get ts k (by simpa using h) q hq
theorem tkin_row {W : World} {b : Nat} {v : Value} {ts : List TkT} (h : W.ownsRow b 39 7 v ts.length (ts.flatMap tC)) : ∃ o cap, v = .slice o ts.length cap ∧ TkIn W W.heap.size o ts := by
  have h0 := h
  rcases h with ⟨hl, ⟨hv, hz⟩ | ⟨g, cap, cur, hv, hb, hg, hr⟩⟩
  · exact ⟨none, 0, by rw [hz]; exact hv, .inl (List.length_eq_zero_iff.1 hz)⟩
  · refine ⟨some ⟨g, 0, none⟩, cap, hv, .inr ⟨g, 0, rfl, (Array.getElem?_eq_some_iff.1 hg).1, fun k hk q u hu => ?_⟩⟩
    have hq : q < 7 := (List.getElem?_eq_some_iff.1 hu).1
    have := h0.cells (g := g) (by rw [hv]; rfl) (k * 7 + q) u (by rw [tC_get ts k hk q hq]; exact hu)
    rw [Addr.add_lit, ← Nat.add_assoc] at this
    exact this
set_option maxRecDepth 100000 in
set_option maxHeartbeats 4000000 in
theorem lexemes_c (n : Nd) (o : Option Addr) (cap : Nat) (w : World) (hn : NdIn w w.heap.size n o cap) (hG : GOK w) (hck : chkM n = 0) (out : List TkT) (k : Nat) (hk : k ≤ 4611686018426000000) (hl : out.length ≤ 1000000000) (ht : ∀ B bl T, TellOK B bl T 23 n out k) :
    Calls Tryz.prog 8 #[.agg #[.int .i64 n.kind, .string (bs n.name), .int .i64 n.num, .slice o n.kids.length cap, .int .i64 n.pos]] w fun e W' => ∃ o' cap', e = .returned (.tuple #[.slice o' out.length cap', .int .i64 0]) ∧ TkIn W' W'.heap.size o' out ∧ Below w.heap.size w W' := by
  have hmm : ∀ W : World, (Instr.makeMap 54 none).run Tryz.prog W = .ok (.map (some W.heap.size)) (W.alloc (.map #[] 0)) := fun W => rfl
  obtain ⟨V, hV⟩ : ∃ V, w.alloc (.cells #[.int .i64 n.kind, .string (bs n.name), .int .i64 n.num, .slice o n.kids.length cap, .int .i64 n.pos] 24) = V := ⟨_, rfl⟩
  have hVb : Below w.heap.size w V := by rw [← hV]; exact (Below.refl _ w).alloc (Nat.le_refl _) _
  have hVs : V.heap.size = w.heap.size + 1 := by rw [← hV]; simp
  have hB1 : Blk V w.heap.size #[.int .i64 n.kind, .string (bs n.name), .int .i64 n.num, .slice o n.kids.length cap, .int .i64 n.pos] 24 := by rw [← hV]; exact Blk.new w _ _
  have hA : Below V.heap.size V (V.alloc (.map #[] 0)) := (Below.refl _ _).alloc (Nat.le_refl _) _
  have hVA : Below w.heap.size w (V.alloc (.map #[] 0)) := hVb.trans (hA.mono (by omega))
  have HGs : Hid (6 ≤ w.heap.size + 1) := by have := hG.size; show _ ≤ _; omega
  have HC : Hid (Calls Tryz.prog 22 #[.agg #[.int .i64 n.kind, .string (bs n.name), .int .i64 n.num, .slice o n.kids.length cap, .int .i64 n.pos], .map (some (w.heap.size + 1))] (V.alloc (.map #[] 0)) fun e W' => e = .returned (.int .i64 0) ∧ But (w.heap.size + 1) (V.alloc (.map #[] 0)) W' ∧ LexSt W' (w.heap.size + 1) (0 + 1048576)) := by
    have hL := lexSt_new V
    rw [hVs] at hL
    have := nodeChk_c n o cap w.heap.size (w.heap.size + 1) 0 (V.alloc (.map #[] 0)) (hn.below hVA) (by omega) (hG.below hVA) HGs.out hL (by omega)
    rw [hck] at this
    exact this
  have HB : Hid (∀ X : World, But (w.heap.size + 1) (V.alloc (.map #[] 0)) X → Below w.heap.size w X ∧ Blk X w.heap.size #[.int .i64 n.kind, .string (bs n.name), .int .i64 n.num, .slice o n.kids.length cap, .int .i64 n.pos] 24 ∧ GOK X ∧ NdIn X w.heap.size n o cap) := fun X hX => by
    have h1 : Below w.heap.size w X := hVA.trans (hX.below (by omega) hVA.size)
    exact ⟨h1, (hB1.below hA).but (by omega) hX, hG.below h1, hn.below h1⟩
  have HX : Hid (∀ X : World, Below w.heap.size w X → GOK X → NdIn X w.heap.size n o cap → LexSt X (w.heap.size + 1) (0 + 1048576) → Calls Tryz.prog 23 #[.pointer (some ⟨X.heap.size, 0, none⟩), .agg #[.int .i64 n.kind, .string (bs n.name), .int .i64 n.num, .slice o n.kids.length cap, .int .i64 n.pos]] (X.alloc (.cells #[.map (some (w.heap.size + 1)), .slice none 0 0] 56)) fun e W' => e = .returned (.tuple #[]) ∧ ∃ o' cap', Blk W' X.heap.size #[.map (some (w.heap.size + 1)), .slice o' out.length cap'] 56 ∧ TkIn W' W'.heap.size o' out ∧ Below w.heap.size w W') := by
    intro X hX hGX hnX hLX
    have hbl := hLX.lt
    have hal : Below X.heap.size X (X.alloc (.cells #[.map (some (w.heap.size + 1)), .slice none 0 0] 56)) := (Below.refl _ _).alloc (Nat.le_refl _) _
    have hS : TSt w.heap.size (w.heap.size + 1) X.heap.size (0 + 1048576) (X.alloc (.cells #[.map (some (w.heap.size + 1)), .slice none 0 0] 56)) (.slice none 0 0) [] := ⟨⟨by omega, hbl, HGs.out⟩, hGX.below hal, hLX.below hal, Blk.new _ _ _, World.ownsRow_nil _ _ _ _⟩
    refine (ht w.heap.size (w.heap.size + 1) X.heap.size [] _ _ _ o cap (hnX.below (hal.mono (by omega))) hS (by omega) (by simpa using hl)).mono ?_
    rintro e W' ⟨rfl, v', h1, h2⟩
    rw [List.nil_append] at h1
    obtain ⟨o', cap', rfl, hT⟩ := tkin_row h1.2.2.2.2
    exact ⟨rfl, o', cap', h1.2.2.2.1, hT, hX.trans ((hal.mono (by omega)).trans (h2.below hS))⟩
  have c0 : V.cell? ⟨w.heap.size, 0, none⟩ = some (.int .i64 n.kind) := hB1.cell 0 _ rfl
  have c1 : V.cell? ⟨w.heap.size, 1, none⟩ = some (.string (bs n.name)) := hB1.cell 1 _ rfl
  have c2 : V.cell? ⟨w.heap.size, 2, none⟩ = some (.int .i64 n.num) := hB1.cell 2 _ rfl
  have c3 : V.cell? ⟨w.heap.size, 3, none⟩ = some (.slice o n.kids.length cap) := hB1.cell 3 _ rfl
  have c4 : V.cell? ⟨w.heap.size, 4, none⟩ = some (.int .i64 n.pos) := hB1.cell 4 _ rfl
  clear hn hG hVb hB1 hA hVA hck ht hk hl
  go_enter Tryz.func8, Tryz.ntmps8
  go_wp2_with (go_at_call 22; fail)
  refine HC.out.mono ?_
  rintro e w1 ⟨rfl, hb, hL1⟩
  obtain ⟨h1, h2, h3, h4⟩ := HB.out _ hb
  have HC2 : Hid (Calls Tryz.prog 23 #[.pointer (some ⟨w1.heap.size, 0, none⟩), .agg #[.int .i64 n.kind, .string (bs n.name), .int .i64 n.num, .slice o n.kids.length cap, .int .i64 n.pos]] (w1.alloc (.cells #[.map (some (w.heap.size + 1)), .slice none 0 0] 56)) fun e W' => e = .returned (.tuple #[]) ∧ ∃ o' cap', Blk W' w1.heap.size #[.map (some (w.heap.size + 1)), .slice o' out.length cap'] 56 ∧ TkIn W' W'.heap.size o' out ∧ Below w.heap.size w W') := HX.out w1 h1 h3 h4 hL1
  have d0 : w1.cell? ⟨w.heap.size, 0, none⟩ = some (.int .i64 n.kind) := h2.cell 0 _ rfl
  have d1 : w1.cell? ⟨w.heap.size, 1, none⟩ = some (.string (bs n.name)) := h2.cell 1 _ rfl
  have d2 : w1.cell? ⟨w.heap.size, 2, none⟩ = some (.int .i64 n.num) := h2.cell 2 _ rfl
  have d3 : w1.cell? ⟨w.heap.size, 3, none⟩ = some (.slice o n.kids.length cap) := h2.cell 3 _ rfl
  have d4 : w1.cell? ⟨w.heap.size, 4, none⟩ = some (.int .i64 n.pos) := h2.cell 4 _ rfl
  have hlt1 := h2.lt
  clear hb hL1 h1 h2 h3 h4 c0 c1 c2 c3 c4 hmm hV hVs HC HB HX
  go_wp2_with (go_at_call 23; fail)
  refine HC2.out.mono ?_
  rintro e w2 ⟨rfl, o', cap', hBk, hTk, hBl⟩
  have HTk : Hid (TkIn w2 w2.heap.size o' out) := hTk
  have HBl : Hid (Below w.heap.size w w2) := hBl
  have e1 : w2.cell? ⟨w1.heap.size, 1, none⟩ = some (.slice o' out.length cap') := hBk.cell 1 _ rfl
  have hlt2 := hBk.lt
  clear hBk hTk hBl d0 d1 d2 d3 d4 HC2
  go_wp2
  go_ret2
  exact ⟨o', cap', rfl, HTk.out, HBl.out⟩
set_option maxRecDepth 100000 in
set_option maxHeartbeats 4000000 in
theorem textS_c (n : Nd) (o : Option Addr) (cap : Nat) (w : World) (hn : NdIn w w.heap.size n o cap) (hG : GOK w) (hck : chkM n = 0) (out : List TkT) (k : Nat) (hk : k ≤ 4611686018426000000) (hx : ∀ t ∈ out, t.num ≤ 9223372036854775807 ∧ t.text.length ≤ 70000) (hJ : (out.flatMap jnF).length ≤ 1000000000) (ht : ∀ B bl T, TellOK B bl T 23 n out k) :
    Calls Tryz.prog 9 #[.agg #[.int .i64 n.kind, .string (bs n.name), .int .i64 n.num, .slice o n.kids.length cap, .int .i64 n.pos]] w fun e W' => e = .returned (.tuple #[.string (bs (jnT out)), .int .i64 0]) ∧ Below w.heap.size w W' := by
  have hl : out.length ≤ 1000000000 := by
    refine Nat.le_trans ?_ hJ
    clear hx ht hJ hk
    induction out with
    | nil => simp
    | cons t ts ih => simp only [List.flatMap_cons, List.length_append, List.length_cons, jnF]; omega
  obtain ⟨V, hV⟩ : ∃ V, w.alloc (.cells #[.int .i64 n.kind, .string (bs n.name), .int .i64 n.num, .slice o n.kids.length cap, .int .i64 n.pos] 24) = V := ⟨_, rfl⟩
  have hVb : Below w.heap.size w V := by rw [← hV]; exact (Below.refl _ w).alloc (Nat.le_refl _) _
  have hVs : V.heap.size = w.heap.size + 1 := by rw [← hV]; simp
  have hB1 : Blk V w.heap.size #[.int .i64 n.kind, .string (bs n.name), .int .i64 n.num, .slice o n.kids.length cap, .int .i64 n.pos] 24 := by rw [← hV]; exact Blk.new w _ _
  have HC : Hid (Calls Tryz.prog 8 #[.agg #[.int .i64 n.kind, .string (bs n.name), .int .i64 n.num, .slice o n.kids.length cap, .int .i64 n.pos]] V fun e W' => ∃ o' cap', e = .returned (.tuple #[.slice o' out.length cap', .int .i64 0]) ∧ TkIn W' W'.heap.size o' out ∧ Below V.heap.size V W') := lexemes_c n o cap V ((hn.below hVb).mono (by omega)) (hG.below hVb) hck out k hk hl ht
  have HGV : Hid (GOK V) := hG.below hVb
  have HV : Hid (Below w.heap.size w V) := hVb
  have HVs : Hid (V.heap.size = w.heap.size + 1) := hVs
  have Hx : Hid (∀ t ∈ out, t.num ≤ 9223372036854775807 ∧ t.text.length ≤ 70000) := hx
  have HJ : Hid ((out.flatMap jnF).length ≤ 1000000000) := hJ
  have Hl : Hid (out.length ≤ 1000000000) := hl
  have c0 : V.cell? ⟨w.heap.size, 0, none⟩ = some (.int .i64 n.kind) := hB1.cell 0 _ rfl
  have c1 : V.cell? ⟨w.heap.size, 1, none⟩ = some (.string (bs n.name)) := hB1.cell 1 _ rfl
  have c2 : V.cell? ⟨w.heap.size, 2, none⟩ = some (.int .i64 n.num) := hB1.cell 2 _ rfl
  have c3 : V.cell? ⟨w.heap.size, 3, none⟩ = some (.slice o n.kids.length cap) := hB1.cell 3 _ rfl
  have c4 : V.cell? ⟨w.heap.size, 4, none⟩ = some (.int .i64 n.pos) := hB1.cell 4 _ rfl
  clear hn hG hVb hB1 hck ht hk hl hVs hx hJ
  go_enter Tryz.func9, Tryz.ntmps9
  go_wp2_with (go_at_call 8; fail)
  refine HC.out.mono ?_
  rintro e w1 ⟨o', cap', rfl, hT, hb⟩
  have HB1 : Hid (Below w.heap.size w w1) := HV.out.trans (hb.mono (by have := HVs.out; omega))
  have HC2 : Hid (Calls Tryz.prog 24 #[.iface 58 (.pointer (some ⟨w1.heap.size, 0, none⟩)), .slice o' out.length cap'] (w1.alloc (.cells #[.pointer none, .slice none 0 0] 61)) fun e W' => e = .returned (.tuple #[]) ∧ Lib.IsBuilderF 61 5 w1.heap.size w1.heap.size (Lib.byteCells (jnT out)) W' ∧ Below w1.heap.size w1 W') := by
    have hal : Below w1.heap.size w1 (w1.alloc (.cells #[.pointer none, .slice none 0 0] 61)) := (Below.refl _ _).alloc (Nat.le_refl _) _
    have hG1 : GOK w1 := HGV.out.below hb
    refine (write_c out o' cap' w1.heap.size _ (hG1.below hal) hG1.size (.inl ⟨Nat.le_refl _, _, Blk.new w1 _ _, World.ownsRowF_nil _ _ _ _, by simp [Value.ownBlock]⟩) (hT.below hal) Hx.out HJ.out Hl.out).mono ?_
    rintro e W' ⟨rfl, h1, h2⟩
    exact ⟨rfl, h1, hal.trans h2⟩
  clear hT hb HC c0 c1 c2 c3 c4 hV
  go_wp2_with (go_at_call 24; fail)
  refine HC2.out.mono ?_
  rintro e w2 ⟨rfl, hA, hb2⟩
  have HC3 : Hid (Calls Tryz.prog 25 #[.pointer (some ⟨w1.heap.size, 0, none⟩)] w2 fun e w' => e = .returned (.string (bs (jnT out))) ∧ Below w.heap.size w w') := by
    refine (builderStrK_c w1.heap.size w1.heap.size (jnT out) w2 hA hb2.size).mono ?_
    rintro e w' ⟨rfl, h2⟩
    exact ⟨rfl, HB1.out.trans ((hb2.trans h2).mono HB1.out.size)⟩
  clear hA hb2 HC2
  go_wp2_with (go_at_call 25; fail)
  refine HC3.out.mono ?_
  rintro e w3 ⟨rfl, hb3⟩
  have HB3 : Hid (Below w.heap.size w w3) := hb3
  clear hb3 HC3
  go_wp2
  go_ret2
  exact ⟨rfl, HB3.out⟩

end Go.Proofs.YtndpebkiiemfpaaGreatDoor

namespace Go.Proofs.YtndpebkiiemfpaaGreatDoor
open Go.RowKit Go.Shelf Go.Maps
set_option linter.unusedVariables false

def ndVar (s : List UInt8) : Nd := .mk 11 s 0 [] 0
def ndNum (n : Int) : Nd := .mk 13 [] n [] 0
def ndOf (k : Int) (l : List Nd) : Nd := .mk k [] 0 l 0
def ndPVar (s : List UInt8) : Nd := .mk 34 s 0 [] 0
def exG : Nd := ndOf 16 [ndVar [103], ndNum 1]
def exF : Nd := ndOf 16 [ndVar [102], exG]
def exR : Nd := ndOf 8 [ndVar [120]]
def exE : Nd := .mk 6 [102] 0 [ndPVar [120], exR] 0
def exP : Nd := ndOf 1 [exE]
def exO : Nd := .mk 5 [43] 0 [] 0
def exS : Nd := ndOf 17 [ndVar [120], exO, ndNum 1]
def exL : Nd := ndOf 19 [ndPVar [120], exS]
def exB : Nd := ndOf 16 [ndVar [102]]
theorem exF_chk : chkM exF = 0 := by decide
theorem exP_chk : chkM exP = 0 := by decide
theorem exL_chk : chkM exL = 0 := by decide
theorem exB_chk : chkM exB = 2 := by decide

section
variable {B bl T : Nat}
theorem tellVar (s : List UInt8) (h : isSymB (lkM (bs s)) = false) : TellOK B bl T 23 (ndVar s) (nmT (bs s)) 1 := node_expr (by show (11 : Int) ≤ 11; decide) (by show (11 : Int) ≤ 33; decide) (exprVar rfl h)
theorem tellPVar (s : List UInt8) (h : isSymB (lkM (bs s)) = false) : TellOK B bl T 23 (ndPVar s) (nmT (bs s)) 1 := node_pat (by show (34 : Int) ≤ 34; decide) (patVar rfl h)
theorem tellNum (n : Int) : TellOK B bl T 23 (ndNum n) [⟨5, [], n⟩] 0 := node_expr (by show (11 : Int) ≤ 13; decide) (by show (13 : Int) ≤ 33; decide) (exprInt rfl)
theorem atomVar (s : List UInt8) (h : isSymB (lkM (bs s)) = false) : TellOK B bl T 98 (ndVar s) (nmT (bs s)) 1 := atomYes (by show (11 : Int) ≠ 39; decide) rfl (tellVar s h)
theorem atomPVar (s : List UInt8) (h : isSymB (lkM (bs s)) = false) : TellOK B bl T 98 (ndPVar s) (nmT (bs s)) 1 := atomYes (by show (34 : Int) ≠ 39; decide) rfl (tellPVar s h)
theorem atomNum (n : Int) : TellOK B bl T 98 (ndNum n) [⟨5, [], n⟩] 0 := atomYes (by show (13 : Int) ≠ 39; decide) rfl (tellNum n)
def leafO (x : Nd) : List TkT := if x.kind = 13 then [⟨5, [], x.num⟩] else nmT (bs x.name)
def leafK (x : Nd) : Nat := if x.kind = 13 then 0 else 1
def outG : List TkT := exG.kids.flatMap leafO
def cntG : Nat := (exG.kids.map leafK).sum
theorem tellG : TellOK B bl T 23 exG outG cntG := by
  refine node_expr (by show (11 : Int) ≤ 16; decide) (by show (16 : Int) ≤ 33; decide) (exprApp rfl (atoms_ok leafO leafK ?_))
  intro x hx
  change x ∈ [ndVar [103], ndNum 1] at hx
  simp only [List.mem_cons, List.not_mem_nil, or_false] at hx
  rcases hx with rfl | rfl
  · exact atomVar [103] (by decide)
  · exact atomNum 1
def fO (x : Nd) : List TkT := if x.kind = 16 then lpT :: (outG ++ [rpT]) else leafO x
def fK (x : Nd) : Nat := if x.kind = 16 then cntG else leafK x
def outF : List TkT := exF.kids.flatMap fO
def cntF : Nat := (exF.kids.map fK).sum
theorem tellF : TellOK B bl T 23 exF outF cntF := by
  refine node_expr (by show (11 : Int) ≤ 16; decide) (by show (16 : Int) ≤ 33; decide) (exprApp rfl (atoms_ok fO fK ?_))
  intro x hx
  change x ∈ [ndVar [102], exG] at hx
  simp only [List.mem_cons, List.not_mem_nil, or_false] at hx
  rcases hx with rfl | rfl
  · exact atomVar [102] (by decide)
  · exact atomNo (by show (16 : Int) ≠ 39; decide) rfl tellG
def rO (x : Nd) : List TkT := sgT ⟨#[61]⟩ :: leafO x
def outR : List TkT := exR.kids.flatMap rO
def cntR : Nat := (exR.kids.map leafK).sum
theorem tellR : SignOK B bl T 94 exR ⟨#[61]⟩ outR cntR := by
  refine right_ok ⟨#[61]⟩ rO leafK ?_
  intro x hx
  change x ∈ [ndVar [120]] at hx
  simp only [List.mem_cons, List.not_mem_nil, or_false] at hx
  subst hx
  refine ⟨fun h => absurd h (by show (11 : Int) ≠ 9; decide), fun h => absurd h (by show (11 : Int) ≠ 10; decide), fun _ _ => ⟨_, rfl, tellVar [120] (by decide)⟩⟩
theorem listX : ListOK B bl T 93 [ndPVar [120]] ([ndPVar [120]].flatMap leafO) (([ndPVar [120]].map leafK).sum) := by
  refine atoms_ok leafO leafK ?_
  intro x hx
  simp only [List.mem_cons, List.not_mem_nil, or_false] at hx
  subst hx
  exact atomPVar [120] (by decide)
def outE : List TkT := nmT (bs [102]) ++ [ndPVar [120]].flatMap leafO ++ outR
def cntE : Nat := 1 + ([ndPVar [120]].map leafK).sum + cntR
theorem tellE : TellOK B bl T 23 exE outE cntE := node_decl (by show (6 : Int) ≤ 10; decide) (declEqn (ini := [ndPVar [120]]) (z := exR) rfl rfl (nameOK (by decide) (by decide)) listX tellR)
def pO (x : Nd) : List TkT := outE
def pK (x : Nd) : Nat := cntE
def outP : List TkT := lbT :: (exP.kids.flatMap (fun x => pO x ++ [scT]) ++ [rbT])
def cntP : Nat := (exP.kids.map pK).sum
theorem tellP : TellOK B bl T 23 exP outP cntP := by
  refine node_decl (by show (1 : Int) ≤ 10; decide) (declProgram rfl (block_ok pO pK ?_))
  intro x hx
  change x ∈ [exE] at hx
  simp only [List.mem_cons, List.not_mem_nil, or_false] at hx
  subst hx
  exact tellE
def outS : List TkT := exS.kids.flatMap leafO
def cntS : Nat := (exS.kids.map leafK).sum
theorem tellS : TellOK B bl T 23 exS outS cntS := by
  refine node_expr (by show (11 : Int) ≤ 17; decide) (by show (17 : Int) ≤ 33; decide) (exprOps rfl (turns_ok leafO leafK ?_))
  intro x hx
  change x ∈ [ndVar [120], exO, ndNum 1] at hx
  simp only [List.mem_cons, List.not_mem_nil, or_false] at hx
  rcases hx with rfl | rfl | rfl
  · exact ⟨fun h => absurd h (by show (11 : Int) ≠ 5; decide), fun _ => atomVar [120] (by decide)⟩
  · exact ⟨fun _ => node_decl (by show (5 : Int) ≤ 10; decide) (declOp rfl (by decide)), fun h => absurd rfl h⟩
  · exact ⟨fun h => absurd h (by show (13 : Int) ≠ 5; decide), fun _ => atomNum 1⟩
def outL : List TkT := [sgT ⟨#[92]⟩] ++ [ndPVar [120]].flatMap leafO ++ [sgT ⟨#[45, 62]⟩] ++ outS
def cntL : Nat := ([ndPVar [120]].map leafK).sum + cntS
theorem tellL : TellOK B bl T 23 exL outL cntL := node_expr (by show (11 : Int) ≤ 19; decide) (by show (19 : Int) ≤ 33; decide) (exprLam rfl (conLam (ini := [ndPVar [120]]) (z := exS) rfl rfl listX tellS))
end
theorem tx1 (s : List UInt8) : txT ⟨5, s, 1⟩ = [49] := by
  unfold txT txM
  simp only [if_true]
  show Lib.itoa ((1 : Nat) : Int) = [49]
  rw [Lib.itoa_nonneg]
  unfold Lib.decDigits
  decide
theorem jnF_ex : jnT outF = [102, 32, 40, 32, 103, 32, 49, 32, 41] := by
  have e : jnT outF = [102, 32, 40, 32, 103, 32] ++ (txT ⟨5, [], 1⟩ ++ [32, 41]) := rfl
  rw [e, tx1]; rfl
theorem jnP_ex : jnT outP = [123, 32, 102, 32, 120, 32, 61, 32, 120, 32, 59, 32, 125] := by decide
theorem jnL_ex : jnT outL = [92, 32, 120, 32, 45, 62, 32, 120, 32, 43, 32, 49] := by
  have e : jnT outL = [92, 32, 120, 32, 45, 62, 32, 120, 32, 43, 32] ++ (txT ⟨5, [], 1⟩ ++ []) := rfl
  rw [e, tx1]; rfl
theorem jn_le (out : List TkT) (l : List UInt8) (h : jnT out = l) (hl : l.length ≤ 1000) : (out.flatMap jnF).length ≤ 1000000000 := by
  have : (jnT out).length = l.length := by rw [h]
  unfold jnT at this
  rw [List.length_drop] at this
  omega
theorem bF : (∀ t ∈ outF, t.num ≤ 9223372036854775807 ∧ t.text.length ≤ 70000) ∧ (outF.flatMap jnF).length ≤ 1000000000 ∧ cntF ≤ 4611686018426000000 := ⟨by decide, jn_le _ _ jnF_ex (by decide), by decide⟩
theorem bP : (∀ t ∈ outP, t.num ≤ 9223372036854775807 ∧ t.text.length ≤ 70000) ∧ (outP.flatMap jnF).length ≤ 1000000000 ∧ cntP ≤ 4611686018426000000 := ⟨by decide, jn_le _ _ jnP_ex (by decide), by decide⟩
theorem bL : (∀ t ∈ outL, t.num ≤ 9223372036854775807 ∧ t.text.length ≤ 70000) ∧ (outL.flatMap jnF).length ≤ 1000000000 ∧ cntL ≤ 4611686018426000000 := ⟨by decide, jn_le _ _ jnL_ex (by decide), by decide⟩
end Go.Proofs.YtndpebkiiemfpaaGreatDoor

namespace Go.Proofs.YtndpebkiiemfpaaGreatDoor
open Go.RowKit Go.Shelf Go.Maps
set_option linter.unusedVariables false

set_option maxRecDepth 100000 in
set_option maxHeartbeats 4000000 in
theorem vv_c (s : ByteArray) (w : World) : Calls Tryz.prog 19 #[.string s] w fun e w' => e = .returned (.agg #[.int .i64 11, .string s, .int .i64 0, .slice none 0 0, .int .i64 0]) ∧ Below w.heap.size w w' := by
  have HB : Hid (∀ o : Obj, Below w.heap.size w (w.alloc o)) := fun o => (Below.refl _ w).alloc (Nat.le_refl _) _
  go_enter Tryz.func19, Tryz.ntmps19
  go_wp2
  exact bodyPost_ret (v := .agg #[.int .i64 11, .string s, .int .i64 0, .slice none 0 0, .int .i64 0]) (by simp [results, Tryz.results19, go_sem]) rfl ⟨rfl, by repeat (first | (refine Below.setCell ?_ (by simp) _) | exact HB.out _)⟩
set_option maxRecDepth 100000 in
set_option maxHeartbeats 4000000 in
theorem num_c (n : Int) (w : World) : Calls Tryz.prog 20 #[.int .i64 n] w fun e w' => e = .returned (.agg #[.int .i64 13, .string ⟨#[]⟩, .int .i64 n, .slice none 0 0, .int .i64 0]) ∧ Below w.heap.size w w' := by
  have HB : Hid (∀ o : Obj, Below w.heap.size w (w.alloc o)) := fun o => (Below.refl _ w).alloc (Nat.le_refl _) _
  go_enter Tryz.func20, Tryz.ntmps20
  go_wp2
  exact bodyPost_ret (v := .agg #[.int .i64 13, .string ⟨#[]⟩, .int .i64 n, .slice none 0 0, .int .i64 0]) (by simp [results, Tryz.results20, go_sem]) rfl ⟨rfl, by repeat (first | (refine Below.setCell ?_ (by simp) _) | exact HB.out _)⟩
set_option maxRecDepth 100000 in
set_option maxHeartbeats 4000000 in
theorem of_c (k : Int) (o : Option Addr) (l cap : Nat) (w : World) : Calls Tryz.prog 18 #[.int .i64 k, .slice o l cap] w fun e w' => e = .returned (.agg #[.int .i64 k, .string ⟨#[]⟩, .int .i64 0, .slice o l cap, .int .i64 0]) ∧ Below w.heap.size w w' := by
  have HB : Hid (∀ o : Obj, Below w.heap.size w (w.alloc o)) := fun o => (Below.refl _ w).alloc (Nat.le_refl _) _
  go_enter Tryz.func18, Tryz.ntmps18
  go_wp2
  exact bodyPost_ret (v := .agg #[.int .i64 k, .string ⟨#[]⟩, .int .i64 0, .slice o l cap, .int .i64 0]) (by simp [results, Tryz.results18, go_sem]) rfl ⟨rfl, by repeat (first | (refine Below.setCell ?_ (by simp) _) | exact HB.out _)⟩
set_option maxRecDepth 100000 in
set_option maxHeartbeats 4000000 in
theorem told_c (n : Nd) (o : Option Addr) (cap : Nat) (w : World) (hn : NdIn w w.heap.size n o cap) (hG : GOK w) (hck : chkM n = 0) (out : List TkT) (k : Nat) (hb : (∀ t ∈ out, t.num ≤ 9223372036854775807 ∧ t.text.length ≤ 70000) ∧ (out.flatMap jnF).length ≤ 1000000000 ∧ k ≤ 4611686018426000000) (ht : ∀ B bl T, TellOK B bl T 23 n out k) (want : List UInt8) (hw : jnT out = want) :
    Calls Tryz.prog 17 #[.agg #[.int .i64 n.kind, .string (bs n.name), .int .i64 n.num, .slice o n.kids.length cap, .int .i64 n.pos], .string (bs want)] w fun e W' => e = .returned (.bool true) ∧ Below w.heap.size w W' := by
  obtain ⟨V, hV⟩ : ∃ V, w.alloc (.cells #[.int .i64 n.kind, .string (bs n.name), .int .i64 n.num, .slice o n.kids.length cap, .int .i64 n.pos] 24) = V := ⟨_, rfl⟩
  have hVb : Below w.heap.size w V := by rw [← hV]; exact (Below.refl _ w).alloc (Nat.le_refl _) _
  have hVs : V.heap.size = w.heap.size + 1 := by rw [← hV]; simp
  have hB1 : Blk V w.heap.size #[.int .i64 n.kind, .string (bs n.name), .int .i64 n.num, .slice o n.kids.length cap, .int .i64 n.pos] 24 := by rw [← hV]; exact Blk.new w _ _
  have HC : Hid (Calls Tryz.prog 9 #[.agg #[.int .i64 n.kind, .string (bs n.name), .int .i64 n.num, .slice o n.kids.length cap, .int .i64 n.pos]] V fun e W' => e = .returned (.tuple #[.string (bs want), .int .i64 0]) ∧ Below V.heap.size V W') := by
    have := textS_c n o cap V ((hn.below hVb).mono (by omega)) (hG.below hVb) hck out k hb.2.2 hb.1 hb.2.1 ht
    rw [hw] at this
    exact this
  have HV : Hid (∀ X, Below V.heap.size V X → Below w.heap.size w X) := fun X hX => hVb.trans (hX.mono (by omega))
  have c0 : V.cell? ⟨w.heap.size, 0, none⟩ = some (.int .i64 n.kind) := hB1.cell 0 _ rfl
  have c1 : V.cell? ⟨w.heap.size, 1, none⟩ = some (.string (bs n.name)) := hB1.cell 1 _ rfl
  have c2 : V.cell? ⟨w.heap.size, 2, none⟩ = some (.int .i64 n.num) := hB1.cell 2 _ rfl
  have c3 : V.cell? ⟨w.heap.size, 3, none⟩ = some (.slice o n.kids.length cap) := hB1.cell 3 _ rfl
  have c4 : V.cell? ⟨w.heap.size, 4, none⟩ = some (.int .i64 n.pos) := hB1.cell 4 _ rfl
  clear hn hG hVb hB1 hck ht hVs hb hw
  go_enter Tryz.func17, Tryz.ntmps17
  go_wp2_with (go_at_call 9; fail)
  refine HC.out.mono ?_
  rintro e w1 ⟨rfl, hb⟩
  have HB1 : Hid (Below w.heap.size w w1) := HV.out _ hb
  clear hb HC HV c0 c1 c2 c3 c4 hV
  go_wp2
  go_ret
  exact ⟨by simp, HB1.out⟩

end Go.Proofs.YtndpebkiiemfpaaGreatDoor

namespace Go.Proofs.YtndpebkiiemfpaaGreatDoor
open Go.RowKit Go.Shelf Go.Maps
set_option linter.unusedVariables false

def WfN (n : Nd) : Prop := (-9223372036854775808 ≤ n.kind ∧ n.kind ≤ 9223372036854775807) ∧ n.name.length ≤ 9223372036854775807 ∧ (-9223372036854775808 ≤ n.num ∧ n.num ≤ 9223372036854775807)
theorem ndAt_mk {W : World} {B g off : Nat} {n : Nd} {o : Option Addr} {cap : Nat} (h : NdIn W B n o cap) (c0 : W.cell? ⟨g, off, none⟩ = some (.int .i64 n.kind)) (c1 : W.cell? ⟨g, off + 1, none⟩ = some (.string (bs n.name))) (c2 : W.cell? ⟨g, off + 2, none⟩ = some (.int .i64 n.num)) (c3 : W.cell? ⟨g, off + 3, none⟩ = some (.slice o n.kids.length cap)) (c4 : W.cell? ⟨g, off + 4, none⟩ = some (.int .i64 n.pos)) : NdAt W B n g off := by
  obtain ⟨h1, h2, h3, h4, h5, h6⟩ := h
  cases n
  simp only [NdAt]
  exact ⟨o, cap, c0, c1, c2, c3, c4, h2, h3, ⟨h4, h5, h6⟩, h1⟩
theorem in_leaf {W : World} {B : Nat} (n : Nd) (hk : n.kids = []) (hw : WfN n) : NdIn W B n none 0 := ⟨.inl hk, by rw [hk]; exact Nat.le_refl _, by decide, hw⟩
theorem in_1 {W : World} {B g : Nat} (n : Nd) {a : Nd} {oa : Option Addr} {ca : Nat} (hk : n.kids = [a]) (hw : WfN n) (ha : NdIn W B a oa ca) (hg : g < B) (hB : Blk W g #[.int .i64 a.kind, .string (bs a.name), .int .i64 a.num, .slice oa a.kids.length ca, .int .i64 a.pos] 24) : NdIn W B n (some ⟨g, 0, none⟩) 1 := by
  refine ⟨.inr ⟨g, 0, rfl, hg, ?_⟩, by rw [hk]; exact Nat.le_refl _, by decide, hw⟩
  rw [hk]
  simp only [KidsAt]
  exact ⟨ndAt_mk ha (hB.cell 0 _ rfl) (hB.cell 1 _ rfl) (hB.cell 2 _ rfl) (hB.cell 3 _ rfl) (hB.cell 4 _ rfl), trivial⟩
theorem in_2 {W : World} {B g : Nat} (n : Nd) {a : Nd} {b : Nd} {oa : Option Addr} {ca : Nat} {ob : Option Addr} {cb : Nat} (hk : n.kids = [a, b]) (hw : WfN n) (ha : NdIn W B a oa ca) (hb : NdIn W B b ob cb) (hg : g < B) (hB : Blk W g #[.int .i64 a.kind, .string (bs a.name), .int .i64 a.num, .slice oa a.kids.length ca, .int .i64 a.pos, .int .i64 b.kind, .string (bs b.name), .int .i64 b.num, .slice ob b.kids.length cb, .int .i64 b.pos] 24) : NdIn W B n (some ⟨g, 0, none⟩) 2 := by
  refine ⟨.inr ⟨g, 0, rfl, hg, ?_⟩, by rw [hk]; exact Nat.le_refl _, by decide, hw⟩
  rw [hk]
  simp only [KidsAt]
  exact ⟨ndAt_mk ha (hB.cell 0 _ rfl) (hB.cell 1 _ rfl) (hB.cell 2 _ rfl) (hB.cell 3 _ rfl) (hB.cell 4 _ rfl), ndAt_mk hb (hB.cell 5 _ rfl) (hB.cell 6 _ rfl) (hB.cell 7 _ rfl) (hB.cell 8 _ rfl) (hB.cell 9 _ rfl), trivial⟩
theorem in_3 {W : World} {B g : Nat} (n : Nd) {a : Nd} {b : Nd} {d : Nd} {oa : Option Addr} {ca : Nat} {ob : Option Addr} {cb : Nat} {od : Option Addr} {cd : Nat} (hk : n.kids = [a, b, d]) (hw : WfN n) (ha : NdIn W B a oa ca) (hb : NdIn W B b ob cb) (hd : NdIn W B d od cd) (hg : g < B) (hB : Blk W g #[.int .i64 a.kind, .string (bs a.name), .int .i64 a.num, .slice oa a.kids.length ca, .int .i64 a.pos, .int .i64 b.kind, .string (bs b.name), .int .i64 b.num, .slice ob b.kids.length cb, .int .i64 b.pos, .int .i64 d.kind, .string (bs d.name), .int .i64 d.num, .slice od d.kids.length cd, .int .i64 d.pos] 24) : NdIn W B n (some ⟨g, 0, none⟩) 3 := by
  refine ⟨.inr ⟨g, 0, rfl, hg, ?_⟩, by rw [hk]; exact Nat.le_refl _, by decide, hw⟩
  rw [hk]
  simp only [KidsAt]
  exact ⟨ndAt_mk ha (hB.cell 0 _ rfl) (hB.cell 1 _ rfl) (hB.cell 2 _ rfl) (hB.cell 3 _ rfl) (hB.cell 4 _ rfl), ndAt_mk hb (hB.cell 5 _ rfl) (hB.cell 6 _ rfl) (hB.cell 7 _ rfl) (hB.cell 8 _ rfl) (hB.cell 9 _ rfl), ndAt_mk hd (hB.cell 10 _ rfl) (hB.cell 11 _ rfl) (hB.cell 12 _ rfl) (hB.cell 13 _ rfl) (hB.cell 14 _ rfl), trivial⟩
set_option maxRecDepth 100000 in
set_option maxHeartbeats 4000000 in
theorem lives4_c (w : World) (hG : GOK w) : Calls Tryz.prog 5 #[] w fun e W' => e = .returned (.bool true) ∧ Below w.heap.size w W' := by
  have HG : Hid (GOK w) := hG
  have HV : Hid (∀ (s : ByteArray) (X : World), Calls Tryz.prog 19 #[.string s] X fun e w' => e = .returned (.agg #[.int .i64 11, .string s, .int .i64 0, .slice none 0 0, .int .i64 0]) ∧ Below X.heap.size X w') := vv_c
  have HN : Hid (∀ (n : Int) (X : World), Calls Tryz.prog 20 #[.int .i64 n] X fun e w' => e = .returned (.agg #[.int .i64 13, .string ⟨#[]⟩, .int .i64 n, .slice none 0 0, .int .i64 0]) ∧ Below X.heap.size X w') := num_c
  have HO : Hid (∀ (k : Int) (o : Option Addr) (l cap : Nat) (X : World), Calls Tryz.prog 18 #[.int .i64 k, .slice o l cap] X fun e w' => e = .returned (.agg #[.int .i64 k, .string ⟨#[]⟩, .int .i64 0, .slice o l cap, .int .i64 0]) ∧ Below X.heap.size X w') := of_c
  have HT : Hid (∀ (X : World) (g1 g2 : Nat), Below w.heap.size w X → g1 < X.heap.size → g2 < X.heap.size → Blk X g1 #[.int .i64 11, .string ⟨#[103]⟩, .int .i64 0, .slice none 0 0, .int .i64 0, .int .i64 13, .string ⟨#[]⟩, .int .i64 1, .slice none 0 0, .int .i64 0] 24 → Blk X g2 #[.int .i64 11, .string ⟨#[102]⟩, .int .i64 0, .slice none 0 0, .int .i64 0, .int .i64 16, .string ⟨#[]⟩, .int .i64 0, .slice (some ⟨g1, 0, none⟩) 2 2, .int .i64 0] 24 → Calls Tryz.prog 17 #[.agg #[.int .i64 16, .string ⟨#[]⟩, .int .i64 0, .slice (some ⟨g2, 0, none⟩) 2 2, .int .i64 0], .string ⟨#[102, 32, 40, 32, 103, 32, 49, 32, 41]⟩] X fun e W' => e = .returned (.bool true) ∧ Below X.heap.size X W') := by
    intro X g1 g2 hX h1 h2 b1 b2
    have iG : NdIn X X.heap.size exG (some ⟨g1, 0, none⟩) 2 := in_2 exG (a := ndVar [103]) (b := ndNum 1) rfl (by unfold WfN; decide) (in_leaf _ rfl (by unfold WfN; decide)) (in_leaf _ rfl (by unfold WfN; decide)) h1 b1
    have iF : NdIn X X.heap.size exF (some ⟨g2, 0, none⟩) 2 := in_2 exF (a := ndVar [102]) (b := exG) rfl (by unfold WfN; decide) (in_leaf _ rfl (by unfold WfN; decide)) iG h2 b2
    exact told_c exF _ 2 X iF (hG.below hX) exF_chk outF cntF bF (fun _ _ _ => tellF) [102, 32, 40, 32, 103, 32, 49, 32, 41] jnF_ex
  clear hG
  go_enter Tryz.func5, Tryz.ntmps5
  go_wp2_with (go_at_call 19; fail)
  refine (HV.out _ _).mono ?_
  rintro e w1 ⟨rfl, hb1⟩
  have B1 : Hid (Below w.heap.size w w1) := hb1
  clear hb1
  go_wp2_with (go_at_call 19; fail)
  refine (HV.out _ _).mono ?_
  rintro e w2 ⟨rfl, hb2⟩
  have B2 : Hid (Below w.heap.size w w2) := B1.out.trans (hb2.mono B1.out.size)
  clear hb2
  go_wp2_with (go_at_call 20; fail)
  refine (HN.out _ _).mono ?_
  rintro e w3 ⟨rfl, hb3⟩
  have B3 : Hid (Below w.heap.size w w3) := B2.out.trans (hb3.mono B2.out.size)
  clear hb3
  obtain ⟨W4, hW4⟩ : ∃ W4, w3.alloc (.cells #[.int .i64 11, .string ⟨#[103]⟩, .int .i64 0, .slice none 0 0, .int .i64 0, .int .i64 13, .string ⟨#[]⟩, .int .i64 1, .slice none 0 0, .int .i64 0] 24) = W4 := ⟨_, rfl⟩
  have hs4 : W4.heap.size = w3.heap.size + 1 := by rw [← hW4]; simp
  have B4 : Hid (Below w.heap.size w W4) := by show Below _ _ _; rw [← hW4]; exact B3.out.alloc B3.out.size _
  have K4 : Hid (Blk W4 w3.heap.size #[.int .i64 11, .string ⟨#[103]⟩, .int .i64 0, .slice none 0 0, .int .i64 0, .int .i64 13, .string ⟨#[]⟩, .int .i64 1, .slice none 0 0, .int .i64 0] 24) := by show Blk _ _ _ _; rw [← hW4]; exact Blk.new _ _ _
  have H4 : Hid (w3.alloc (.cells #[.int .i64 11, .string ⟨#[103]⟩, .int .i64 0, .slice none 0 0, .int .i64 0, .int .i64 13, .string ⟨#[]⟩, .int .i64 1, .slice none 0 0, .int .i64 0] 24) = W4) := hW4
  have Hs4 : Hid (W4.heap.size = w3.heap.size + 1) := hs4
  clear hW4 hs4
  go_wp2_with (go_at_call 18; fail)
  rw [H4.out]
  refine (HO.out _ _ _ _ _).mono ?_
  rintro e w5 ⟨rfl, hb5⟩
  have B5 : Hid (Below w.heap.size w w5) := B4.out.trans (hb5.mono B4.out.size)
  have K5 : Hid (Blk w5 w3.heap.size #[.int .i64 11, .string ⟨#[103]⟩, .int .i64 0, .slice none 0 0, .int .i64 0, .int .i64 13, .string ⟨#[]⟩, .int .i64 1, .slice none 0 0, .int .i64 0] 24) := K4.out.below hb5
  clear hb5 K4
  obtain ⟨W6, hW6⟩ : ∃ W6, w5.alloc (.cells (#[.int .i64 11, .string ⟨#[102]⟩, .int .i64 0, .slice none 0 0, .int .i64 0, .int .i64 16, .string ⟨#[]⟩, .int .i64 0, .slice (some ⟨w3.heap.size, 0, none⟩) 2 2, .int .i64 0]) 24) = W6 := ⟨_, rfl⟩
  have ha6 : Below w5.heap.size w5 W6 := by rw [← hW6]; exact (Below.refl _ _).alloc (Nat.le_refl _) _
  have B6 : Hid (Below w.heap.size w W6) := B5.out.trans (ha6.mono B5.out.size)
  have K6 : Hid (Blk W6 w5.heap.size (#[.int .i64 11, .string ⟨#[102]⟩, .int .i64 0, .slice none 0 0, .int .i64 0, .int .i64 16, .string ⟨#[]⟩, .int .i64 0, .slice (some ⟨w3.heap.size, 0, none⟩) 2 2, .int .i64 0]) 24) := by show Blk _ _ _ _; rw [← hW6]; exact Blk.new _ _ _
  have K6' : Hid (Blk W6 w3.heap.size #[.int .i64 11, .string ⟨#[103]⟩, .int .i64 0, .slice none 0 0, .int .i64 0, .int .i64 13, .string ⟨#[]⟩, .int .i64 1, .slice none 0 0, .int .i64 0] 24) := K5.out.below ha6
  have H6 : Hid (w5.alloc (.cells (#[.int .i64 11, .string ⟨#[102]⟩, .int .i64 0, .slice none 0 0, .int .i64 0, .int .i64 16, .string ⟨#[]⟩, .int .i64 0, .slice (some ⟨w3.heap.size, 0, none⟩) 2 2, .int .i64 0]) 24) = W6) := hW6
  clear hW6 ha6 K5
  go_wp2_with (go_at_call 18; fail)
  rw [H6.out]
  refine (HO.out _ _ _ _ _).mono ?_
  rintro e w7 ⟨rfl, hb7⟩
  have B7 : Hid (Below w.heap.size w w7) := B6.out.trans (hb7.mono B6.out.size)
  have k1 := K6'.out.below hb7
  have k2 := K6.out.below hb7
  have HC : Hid (Calls Tryz.prog 17 #[.agg #[.int .i64 16, .string ⟨#[]⟩, .int .i64 0, .slice (some ⟨w5.heap.size, 0, none⟩) 2 2, .int .i64 0], .string ⟨#[102, 32, 40, 32, 103, 32, 49, 32, 41]⟩] w7 fun e W' => e = .returned (.bool true) ∧ Below w7.heap.size w7 W') := HT.out w7 w3.heap.size w5.heap.size B7.out k1.lt k2.lt k1 k2
  clear hb7 k1 k2 K6 K6' HT
  go_wp2_with (go_at_call 17; fail)
  refine HC.out.mono ?_
  rintro e w8 ⟨rfl, hb8⟩
  have B8 : Hid (Below w.heap.size w w8) := B7.out.trans (hb8.mono B7.out.size)
  clear hb8
  go_wp2
  go_ret
  exact ⟨rfl, B8.out⟩

end Go.Proofs.YtndpebkiiemfpaaGreatDoor
