/-
  The kit's SmallNode: it answers, and changes nothing.
  A node that was handed in, opened.
  The statements' own nodes, and 'lives', by contracts.
  'lives', by a contract.
-/
import Derived.Test.YtdbpggncpkocaaaGreatDoorChk
import Derived.Deep.LoopGhost
import Derived.ProofKit
import Derived.OpenShut
import Derived.Deep.Slices
import Derived.Test.YtdbpggncpkocaaaGreatDoorGCs
import Derived.Laws.StructEq
namespace Go.Proofs.YtdbpggncpkocaaaGreatDoor
open Go.RowKit Go.Shelf Go.Maps
set_option linter.unusedVariables false

/-- A part of a node, as it is handed over by value. -/
theorem ndIn_of {W : World} {B : Nat} {n : Nd} {g off : Nat} (h : NdAt W B n g off) : ∃ o cap, W.cell? ⟨g, off, none⟩ = some (.int .i64 n.kind) ∧ W.cell? ⟨g, off + 1, none⟩ = some (.string (bs n.name)) ∧ W.cell? ⟨g, off + 2, none⟩ = some (.int .i64 n.num) ∧ W.cell? ⟨g, off + 3, none⟩ = some (.slice o n.kids.length cap) ∧ W.cell? ⟨g, off + 4, none⟩ = some (.int .i64 n.pos) ∧ NdIn W B n o cap := by
  have hw := h.wf
  obtain ⟨o, cap, h0, h1, h2, h3, h4, h5, h6, h7⟩ := h.cells
  exact ⟨o, cap, h0, h1, h2, h3, h4, h7, h5, h6, hw⟩
theorem NdIn.mono {W : World} {B B' : Nat} {n : Nd} {o : Option Addr} {cap : Nat} (h : NdIn W B n o cap) (hb : B ≤ B') : NdIn W B' n o cap := by
  refine ⟨?_, h.2⟩
  rcases h.1 with h | ⟨g, off, e, hg, hk⟩
  · exact .inl h
  · exact .inr ⟨g, off, e, by omega, KidsAt.mono hb n.kids g off hk⟩
set_option maxRecDepth 100000 in
set_option maxHeartbeats 4000000 in
theorem nodes_c (most : Int) (hm : 0 ≤ most ∧ most ≤ 1000000) : ∀ (d : Nat) (hd : d ≤ 1000) (n : Nd) (o : Option Addr) (cap : Nat) (w : World), NdIn w w.heap.size n o cap →
    Calls Tryz.prog 35 #[.agg #[.int .i64 n.kind, .string (bs n.name), .int .i64 n.num, .slice o n.kids.length cap, .int .i64 n.pos], .int .i64 most, .int .i64 d] w fun e W' => ∃ x : Int, e = .returned (.int .i64 x) ∧ Below w.heap.size w W'
  | 0, hd, n, o, cap, w, hn => by
    have hl : (bs n.name).size ≤ 9223372036854775807 := hn.2.2.2.2.1
    have hl2 : ((bs n.name).size : Int) ≤ 9223372036854775807 := by omega
    have HB : Hid (∀ a, Below w.heap.size w (w.alloc a)) := fun a => (Below.refl _ w).alloc (Nat.le_refl _) _
    clear hn
    generalize bs n.name = nm at *
    go_enter Tryz.func35, Tryz.ntmps35
    go_wp2
    go_ret
    exact ⟨_, rfl, HB.out _⟩
  | d + 1, hd, n, o, cap, w, hn => by
    have hl : (bs n.name).size ≤ 9223372036854775807 := hn.2.2.2.2.1
    have hl2 : ((bs n.name).size : Int) ≤ 9223372036854775807 := by omega
    have HN : Hid (NdIn w w.heap.size n o cap) := hn
    have HIH : Hid (∀ (n : Nd) (o : Option Addr) (cap : Nat) (w : World), NdIn w w.heap.size n o cap → Calls Tryz.prog 35 #[.agg #[.int .i64 n.kind, .string (bs n.name), .int .i64 n.num, .slice o n.kids.length cap, .int .i64 n.pos], .int .i64 most, .int .i64 d] w fun e W' => ∃ x : Int, e = .returned (.int .i64 x) ∧ Below w.heap.size w W') := fun n o cap w h => nodes_c most hm d (by omega) n o cap w h
    have hd0 : ¬ ((d + 1 : Nat) : Int) = 0 := by omega
    have hd1 : (((d + 1 : Nat) : Int) == 0) = false := by simpa using hd0
    have hdw : ((d + 1 : Nat) : Int) - 1 = (d : Int) := by omega
    have hcap : n.kids.length ≤ cap ∧ cap ≤ 9223372036854775807 := ⟨hn.2.1, hn.2.2.1⟩
    have hLi : (n.kids.length : Int) ≤ 9223372036854775807 := by omega
    obtain ⟨dd, hdd⟩ : ∃ dd : Int, dd = ((d + 1 : Nat) : Int) := ⟨_, rfl⟩
    have HDD : Hid (dd - 1 = (d : Int)) := by show _ = _; omega
    have hdw2 : IntKind.i64.wrap (dd - 1) = dd - 1 := by rw [IntKind.wrap_i64]; omega
    rw [← hdd] at hd0 hd1 ⊢
    have HV : Hid (∀ W : World, Below w.heap.size w W → Blk W w.heap.size #[.int .i64 n.kind, .string (bs n.name), .int .i64 n.num, .slice o n.kids.length cap, .int .i64 n.pos] 27 → True) := fun _ _ _ => trivial
    have HB0 : Hid (Below w.heap.size w (w.alloc (.cells #[.int .i64 n.kind, .string (bs n.name), .int .i64 n.num, .slice o n.kids.length cap, .int .i64 n.pos] 27)) ∧ Blk (w.alloc (.cells #[.int .i64 n.kind, .string (bs n.name), .int .i64 n.num, .slice o n.kids.length cap, .int .i64 n.pos] 27)) w.heap.size #[.int .i64 n.kind, .string (bs n.name), .int .i64 n.num, .slice o n.kids.length cap, .int .i64 n.pos] 27) := ⟨(Below.refl _ w).alloc (Nat.le_refl _) _, Blk.new w _ _⟩
    clear hn hdw hdd HV hd
    generalize hnm : bs n.name = nm at *
    have HNM : Hid (bs n.name = nm) := hnm
    clear hnm
    go_enter Tryz.func35, Tryz.ntmps35
    go_wp2
    go_loopg [7, 8] n.kids.length (fun g v7 v8 wr => ∃ (x : Int) (k : Nat), v7 = .int .i64 x ∧ v8 = .int .i64 k ∧ k ≤ n.kids.length ∧ n.kids.length - k ≤ g ∧ Hid (Below w.heap.size w wr ∧ Blk wr w.heap.size #[.int .i64 n.kind, .string nm, .int .i64 n.num, .slice o n.kids.length cap, .int .i64 n.pos] 27))
    case atStart => exact ⟨_, 0, rfl, rfl, Nat.zero_le _, Nat.le_refl _, HB0⟩
    case round =>
      clear HB0
      obtain ⟨x, k, rfl, rfl, hk, hg, HI⟩ := hrel
      have hBk := HI.out.2
      have hlt := hBk.lt
      have b3 := hBk.cell 3 _ rfl
      by_cases hkl : k < n.kids.length
      · have hkz : (k : Int) < (n.kids.length : Int) := by omega
        by_cases hx : x ≤ most
        · obtain ⟨g1, off1, ho, hg1, hKA⟩ := HN.out.1.at k hkl
          have hnk := KidsAt.get n.kids g1 off1 k hkl hKA
          obtain ⟨o2, cap2, c0, c1, c2, c3, c4, hni⟩ := ndIn_of hnk
          have e0 := (HI.out.1.cell (p := ⟨g1, off1 + k * 5, none⟩) hg1).trans c0
          have e1 := (HI.out.1.cell (p := ⟨g1, off1 + k * 5 + 1, none⟩) hg1).trans c1
          have e2 := (HI.out.1.cell (p := ⟨g1, off1 + k * 5 + 2, none⟩) hg1).trans c2
          have e3 := (HI.out.1.cell (p := ⟨g1, off1 + k * 5 + 3, none⟩) hg1).trans c3
          have e4 := (HI.out.1.cell (p := ⟨g1, off1 + k * 5 + 4, none⟩) hg1).trans c4
          have HC : Hid (Calls Tryz.prog 35 #[.agg #[.int .i64 n.kids[k].kind, .string (bs n.kids[k].name), .int .i64 n.kids[k].num, .slice o2 n.kids[k].kids.length cap2, .int .i64 n.kids[k].pos], .int .i64 most, .int .i64 d] wr fun e W' => ∃ x : Int, e = .returned (.int .i64 x) ∧ Below wr.heap.size wr W') := HIH.out n.kids[k] o2 cap2 wr ((hni.below HI.out.1).mono HI.out.1.size)
          generalize n.kids[k] = kd at e0 e1 e2 e3 e4 HC
          subst ho
          clear c0 c1 c2 c3 c4 hni hnk hKA hBk
          go_wp2_with (go_at_call 35; fail)
          rw [HDD.out]
          refine HC.out.mono ?_
          rintro e w2 ⟨y, rfl, hb2⟩
          have HF : Hid (Below w.heap.size w w2 ∧ Blk w2 w.heap.size #[.int .i64 n.kind, .string nm, .int .i64 n.num, .slice (some ⟨g1, off1, none⟩) n.kids.length cap, .int .i64 n.pos] 27) := ⟨HI.out.1.trans (hb2.mono HI.out.1.size), HI.out.2.below hb2⟩
          rw [← HDD.out]
          clear hb2 HC
          go_wp2
          go_roundg (n.kids.length - (k + 1))
          case measure => omega
          case rel => exact ⟨_, k + 1, rfl, by go_num, by omega, Nat.le_refl _, HF⟩
        · go_wp2
          go_ret
          first | exact ⟨_, rfl, HI.out.1⟩ | exact ⟨⟨_, rfl⟩, HI.out.1⟩
      · have hkz : ¬ (k : Int) < (n.kids.length : Int) := by omega
        go_wp2
        go_ret
        first | exact ⟨_, rfl, HI.out.1⟩ | exact ⟨⟨_, rfl⟩, HI.out.1⟩
set_option maxRecDepth 100000 in
set_option maxHeartbeats 4000000 in
theorem smallNode_c (most : Int) (hm : 0 ≤ most ∧ most ≤ 1000000) (d : Nat) (hd : d ≤ 1000) (n : Nd) (o : Option Addr) (cap : Nat) (w : World) (hn : NdIn w w.heap.size n o cap) :
    Calls Tryz.prog 15 #[.agg #[.int .i64 n.kind, .string (bs n.name), .int .i64 n.num, .slice o n.kids.length cap, .int .i64 n.pos], .int .i64 most, .int .i64 d] w fun e W' => ∃ b : Bool, e = .returned (.bool b) ∧ Below w.heap.size w W' := by
  have hb0 : Below w.heap.size w (w.alloc (.cells #[.int .i64 n.kind, .string (bs n.name), .int .i64 n.num, .slice o n.kids.length cap, .int .i64 n.pos] 27)) := (Below.refl _ w).alloc (Nat.le_refl _) _
  have HC : Hid (Calls Tryz.prog 35 #[.agg #[.int .i64 n.kind, .string (bs n.name), .int .i64 n.num, .slice o n.kids.length cap, .int .i64 n.pos], .int .i64 most, .int .i64 d] (w.alloc (.cells #[.int .i64 n.kind, .string (bs n.name), .int .i64 n.num, .slice o n.kids.length cap, .int .i64 n.pos] 27)) fun e W' => ∃ x : Int, e = .returned (.int .i64 x) ∧ Below (w.alloc (.cells #[.int .i64 n.kind, .string (bs n.name), .int .i64 n.num, .slice o n.kids.length cap, .int .i64 n.pos] 27)).heap.size (w.alloc (.cells #[.int .i64 n.kind, .string (bs n.name), .int .i64 n.num, .slice o n.kids.length cap, .int .i64 n.pos] 27)) W') := nodes_c most hm d hd n o cap _ ((hn.below hb0).mono hb0.size)
  have HB : Hid (Below w.heap.size w (w.alloc (.cells #[.int .i64 n.kind, .string (bs n.name), .int .i64 n.num, .slice o n.kids.length cap, .int .i64 n.pos] 27))) := hb0
  clear hn hb0
  go_enter Tryz.func15, Tryz.ntmps15
  go_wp2_with (go_at_call 35; fail)
  refine HC.out.mono ?_
  rintro e w2 ⟨x, rfl, hb2⟩
  have HF : Hid (Below w.heap.size w w2) := HB.out.trans (hb2.mono HB.out.size)
  clear hb2 HC
  go_wp2
  go_ret
  exact ⟨_, rfl, HF.out⟩
end Go.Proofs.YtdbpggncpkocaaaGreatDoor

namespace Go.Proofs.YtdbpggncpkocaaaGreatDoor
open Go.ChangeShapes Go.WideShapes Go.ChangeAt Go.RowKit
set_option linter.unusedVariables false

theorem list5 {α : Type} : ∀ {l : List α}, l.length = 5 → ∃ c0 c1 c2 c3 c4, l = [c0, c1, c2, c3, c4]
  | [c0, c1, c2, c3, c4], _ => ⟨c0, c1, c2, c3, c4, rfl⟩
/-- A node's five cells. -/
def ndL (n : Nd) (o : Option Addr) (cap : Nat) : List Value := [.int .i64 n.kind, .string (bs n.name), .int .i64 n.num, .slice o n.kids.length cap, .int .i64 n.pos]
/-- Trees one behind the other, given one by one. -/
theorem kidsAt_of {W : World} {B g : Nat} : ∀ (ns : List Nd) (off : Nat), (∀ k (hk : k < ns.length), NdAt W B ns[k] g (off + k * 5)) → KidsAt W B ns g off
  | [], _, _ => by simp only [KidsAt]
  | n :: ns, off, h => by
    simp only [KidsAt]
    have h0 := h 0 (by simp)
    rw [Nat.zero_mul, Nat.add_zero] at h0
    refine ⟨h0, kidsAt_of ns (off + 5) (fun k hk => ?_)⟩
    have := h (k + 1) (by simpa using hk)
    rw [show off + (k + 1) * 5 = off + 5 + k * 5 by omega] at this
    exact this
theorem ndAt_cells {W : World} {B g off : Nat} {n : Nd} {o : Option Addr} {cap : Nat} (h : NdIn W B n o cap) (hc : ∀ j u, (ndL n o cap)[j]? = some u → W.cell? ⟨g, off + j, none⟩ = some u) : NdAt W B n g off := by
  obtain ⟨h1, h2, h3, h4, h5, h6⟩ := h
  have c0 := hc 0 _ rfl
  have c1 := hc 1 _ rfl
  have c2 := hc 2 _ rfl
  have c3 := hc 3 _ rfl
  have c4 := hc 4 _ rfl
  cases n
  simp only [NdAt]
  exact ⟨o, cap, c0, c1, c2, c3, c4, h2, h3, ⟨h4, h5, h6⟩, h1⟩
theorem bs_of (s : ByteArray) : bs s.data.toList = s := bytes_inj rfl
theorem wf_bnd {x : Int} (h : Lit.wf (.int .i64 x) = true) : -9223372036854775808 ≤ x ∧ x ≤ 9223372036854775807 := by
  simp [Lit.wf, IntKind.min, IntKind.max, IntKind.signed, IntKind.bits] at h
  omega
set_option maxRecDepth 100000 in
theorem open_nd {H : Type} {enc : TypeId × Value → H} {w : World} {spare : Nat → Bool} {held : Bool} : ∀ (n : Nat) {cs : List Value} {x : DataW H × List MemPlace}, DataW.trod enc Tryz.prog w 0 spare held n 27 cs = some x →
    ∃ (nd : Nd) (o : Option Addr) (cap : Nat), cs = ndL nd o cap ∧ NdIn w w.heap.size nd o cap := by
  intro n
  induction n using Nat.strongRecOn with
  | ind n ih =>
    intro cs x h
    obtain ⟨xs, m, hmn, rfl, hl, hlen, hf⟩ := DataW.trod_struct Tryz.underlying27 h
    have hc : Tryz.prog.cellsOf 27 = 5 := by kernel_rfl
    rw [hc] at hl
    obtain ⟨c0, c1, c2, c3, c4, rfl⟩ := list5 hl
    obtain ⟨x0, x1, x2, x3, x4, rfl⟩ := list5 (show xs.length = 5 from hlen)
    have k2 : Tryz.prog.cellsOf 2 = 1 := by kernel_rfl
    have k3 : Tryz.prog.cellsOf 3 = 1 := by kernel_rfl
    have k9 : Tryz.prog.cellsOf 9 = 1 := by kernel_rfl
    have kK : Tryz.prog.cellsOf 25 = 1 := by kernel_rfl
    have h0 : DataW.trod enc Tryz.prog w 0 spare held m 3 (([c0, c1, c2, c3, c4].drop 0).take (Tryz.prog.cellsOf 3)) = some x0 := hf 0 _ rfl
    have h1 : DataW.trod enc Tryz.prog w 0 spare held m 9 (([c0, c1, c2, c3, c4].drop 1).take (Tryz.prog.cellsOf 9)) = some x1 := hf 1 _ rfl
    have h2 : DataW.trod enc Tryz.prog w 0 spare held m 2 (([c0, c1, c2, c3, c4].drop 2).take (Tryz.prog.cellsOf 2)) = some x2 := hf 2 _ rfl
    have h3 : DataW.trod enc Tryz.prog w 0 spare held m 25 (([c0, c1, c2, c3, c4].drop 3).take (Tryz.prog.cellsOf 25)) = some x3 := hf 3 _ rfl
    have h4 : DataW.trod enc Tryz.prog w 0 spare held m 3 (([c0, c1, c2, c3, c4].drop 4).take (Tryz.prog.cellsOf 3)) = some x4 := hf 4 _ rfl
    clear hf
    rw [k3] at h0 h4
    rw [k2] at h2
    rw [k9] at h1
    rw [kK] at h3
    obtain ⟨a0, e0, _, w0⟩ := DataW.trod_int Tryz.underlying3 h0
    obtain ⟨a1, e1, _, w1⟩ := DataW.trod_string Tryz.underlying9 h1
    obtain ⟨a2, e2, _, w2⟩ := DataW.trod_int Tryz.underlying2 h2
    obtain ⟨a4, e4, _, w4⟩ := DataW.trod_int Tryz.underlying3 h4
    simp only [List.drop_succ_cons, List.drop_zero, List.take_succ_cons, List.take_zero, List.cons.injEq, and_true] at e0 e1 e2 e4 h3
    subst e0 e1 e2 e4
    clear h0 h1 h2 h4 hl h hlen
    rcases DataW.trod_slice Tryz.underlying25 h3 with ⟨hc3, _⟩ | ⟨a, len, cap, elems, rest, n', hm', hcs, _, _, hlc, hcm, hlen2, hel, _, _⟩
    · simp only [List.cons.injEq, and_true] at hc3
      subst hc3
      refine ⟨.mk a0 a1.data.toList a2 [] a4, none, 0, ?_, .inl rfl, Nat.le_refl _, by decide, wf_bnd w0, ?_, wf_bnd w2⟩
      · simp [ndL, Nd.kind, Nd.name, Nd.num, Nd.kids, Nd.pos, bs_of]
      · have : a1.data.toList.length = a1.size := by rw [Lib.size_eq]
        show a1.data.toList.length ≤ _
        rw [this]
        exact w1
    · simp only [List.cons.injEq, and_true] at hcs
      subst hcs
      rw [hc] at hel
      have hall : ∀ i, i < len → ∃ p : Nd × Option Addr × Nat, w.cells? 0 (a.add (i * 5)) 5 = some (ndL p.1 p.2.1 p.2.2) ∧ NdIn w w.heap.size p.1 p.2.1 p.2.2 := by
        intro i hi
        have h5 := hel i hi
        rw [List.getElem?_eq_getElem (by omega)] at h5
        obtain ⟨cs', h6, h7⟩ := Option.bind_eq_some_iff.1 h5
        obtain ⟨nd, o, cp, rfl, h8⟩ := ih n' (by omega) h7
        exact ⟨(nd, o, cp), h6, h8⟩
      haveI : Inhabited (Nd × Option Addr × Nat) := ⟨(.mk 0 [] 0 [] 0, none, 0)⟩
      obtain ⟨f, hf2⟩ := Go.Deep.choose_lt hall
      refine ⟨.mk a0 a1.data.toList a2 ((List.range len).map (fun i => (f i).1)) a4, some a, cap, ?_, ?_, by simpa [Nd.kids] using hlc, by simpa [maxLen] using hcm, wf_bnd w0, ?_, wf_bnd w2⟩
      · simp [ndL, Nd.kind, Nd.name, Nd.num, Nd.kids, Nd.pos, bs_of]
      · rcases Nat.eq_zero_or_pos len with h0 | h0
        · subst h0; exact .inl rfl
        · right
          obtain ⟨b, off, spot⟩ := a
          have hcell : ∀ i, i < len → ∀ q u, (ndL (f i).1 (f i).2.1 (f i).2.2)[q]? = some u → w.cell? ((⟨b, off, spot⟩ : Addr).add (i * 5 + q)) = some u := by
            intro i hi q u hu
            have h1 := World.cells?_some (hf2 i hi).1
            have hq : q < 5 := (List.getElem?_eq_some_iff.1 hu).1
            have h2 := h1.2.2 q hq
            rw [hu, Go.Deep.add_add] at h2
            exact h2
          have hspot : spot = none := by simpa [Addr.add] using World.cell?_spot (hcell 0 h0 0 _ rfl)
          subst hspot
          refine ⟨b, off, rfl, ?_, ?_⟩
          · have h1 := World.cells?_block (hf2 0 h0).1 (by omega)
            rw [Addr.add_lit] at h1
            exact h1
          · show KidsAt w w.heap.size ((List.range len).map (fun i => (f i).1)) b off
            refine kidsAt_of _ off (fun k hk => ?_)
            have hk2 : k < len := by simpa using hk
            have e : ((List.range len).map (fun i => (f i).1))[k] = (f k).1 := by simp
            rw [e]
            refine ndAt_cells (hf2 k hk2).2 (fun q u hu => ?_)
            have h1 := hcell k hk2 q u hu
            rw [Addr.add_lit, ← Nat.add_assoc] at h1
            exact h1
      · have : a1.data.toList.length = a1.size := by rw [Lib.size_eq]
        show a1.data.toList.length ≤ _
        rw [this]
        exact w1
end Go.Proofs.YtdbpggncpkocaaaGreatDoor

namespace Go.Proofs.YtdbpggncpkocaaaGreatDoor
open Go.RowKit Go.Shelf Go.Maps
set_option linter.unusedVariables false

theorem con_c (s : ByteArray) (k : Int) (w : World) : Calls Tryz.prog 8 #[.string s, .int .i64 k] w fun e w' => e = .returned (.agg #[.int .i64 3, .string s, .int .i64 k, .slice none 0 0, .int .i64 0]) ∧ w' = w.alloc (.cells #[.int .i64 3, .string s, .int .i64 k, .slice none 0 0, .int .i64 0] 27) := by
  go_enter Tryz.func8, Tryz.ntmps8
  go_wp2
  exact bodyPost_ret (v := .agg #[.int .i64 3, .string s, .int .i64 k, .slice none 0 0, .int .i64 0]) (by simp [results, Tryz.results8, go_sem]) rfl ⟨rfl, rfl⟩
theorem data_c (s : ByteArray) (k : Int) (o : Option Addr) (n cap : Nat) (w : World) : Calls Tryz.prog 11 #[.string s, .int .i64 k, .slice o n cap] w fun e w' => e = .returned (.agg #[.int .i64 2, .string s, .int .i64 0, .slice o n cap, .int .i64 k]) ∧ w' = w.alloc (.cells #[.int .i64 2, .string s, .int .i64 0, .slice o n cap, .int .i64 k] 27) := by
  go_enter Tryz.func11, Tryz.ntmps11
  go_wp2
  exact bodyPost_ret (v := .agg #[.int .i64 2, .string s, .int .i64 0, .slice o n cap, .int .i64 k]) (by simp [results, Tryz.results11, go_sem]) rfl ⟨rfl, rfl⟩
theorem program_c (o : Option Addr) (n cap : Nat) (w : World) : Calls Tryz.prog 10 #[.slice o n cap] w fun e w' => e = .returned (.agg #[.int .i64 1, .string ⟨#[]⟩, .int .i64 0, .slice o n cap, .int .i64 0]) ∧ w' = w.alloc (.cells #[.int .i64 1, .string ⟨#[]⟩, .int .i64 0, .slice o n cap, .int .i64 0] 27) := by
  go_enter Tryz.func10, Tryz.ntmps10
  go_wp2
  exact bodyPost_ret (v := .agg #[.int .i64 1, .string ⟨#[]⟩, .int .i64 0, .slice o n cap, .int .i64 0]) (by simp [results, Tryz.results10, go_sem]) rfl ⟨rfl, rfl⟩
/-- data T = A x y | B. -/
def kA : Nd := .mk 3 [65] 2 [] 0
def kB : Nd := .mk 3 [66] 0 [] 0
def kT : Nd := .mk 2 [84] 0 [kA, kB] 0
def nL : Nd := .mk 1 [] 0 [kT] 0
def cA : CT := (⟨#[65]⟩, 2, ⟨#[84]⟩, 0)
def cB : CT := (⟨#[66]⟩, 0, ⟨#[84]⟩, 1)
set_option maxRecDepth 100000 in
theorem chk_nL : chkM nL = 0 := by decide
theorem mem_perm {l : List CT} (hp : l.Perm biL) (x : List UInt8) : (x ∈ tyL l ↔ x ∈ tyL biL) ∧ (x ∈ nmL l ↔ x ∈ nmL biL) := by
  constructor
  · unfold tyL; rw [List.mem_reverse, List.mem_reverse]; exact (hp.map _).mem_iff
  · unfold nmL; rw [List.mem_reverse, List.mem_reverse]; exact (hp.map _).mem_iff
theorem wd_nL {l : List CT} (hp : l.Perm biL) : wdM l nL.kids = .ok (l ++ [cA] ++ [cB]) := by
  have h1 : [84] ∉ tyL l := fun h => absurd ((mem_perm hp [84]).1.1 h) (by decide)
  have h2 : [65] ∉ nmL l := fun h => absurd ((mem_perm hp [65]).2.1 h) (by decide)
  have h3 : [66] ∉ ([65] :: nmL l) := fun h => by
    rw [List.mem_cons] at h
    rcases h with h | h
    · cases h
    · exact absurd ((mem_perm hp [66]).2.1 h) (by decide)
  show decM [kT] (tyL l) (nmL l) l = _
  have hc : conM (bs kT.name) kT.kids 0 (nmL l) l = .ok ([66] :: [65] :: nmL l, l ++ [cA] ++ [cB]) := by
    show conM (bs [84]) [kA, kB] 0 (nmL l) l = _
    rw [conM_go _ _ _ _ _ _ (show kA.name ∉ nmL l from h2), conM_go _ _ _ _ _ _ (show kB.name ∉ kA.name :: nmL l from h3)]
    rfl
  rw [decM_ok _ _ _ _ _ _ _ (show kT.kind = 2 from rfl) (show kT.name ∉ tyL l from h1) hc]
  rfl
theorem ok_nL {l' : List CT} (h : CsOk nL l') : l'.length = 10 ∧ (∃ T N, Gth T N l') ∧ cA ∈ l' ∧ cB ∈ l' := by
  obtain ⟨h1, h2, h3, l, l2, h4, h5, h6⟩ := h
  have hmb := (chk_small h1).2
  have hg := wd_gth (by have := (chk_small h1).1; omega) hmb h4 h5
  rw [wd_nL h4] at h5
  cases h5
  have hl : l.length = 8 := h4.length_eq
  refine ⟨by rw [h6.length_eq]; simp [hl], ?_, h6.mem_iff.2 (by simp), h6.mem_iff.2 (by simp)⟩
  obtain ⟨⟨T, N, hG⟩, _⟩ := hg
  exact ⟨T, N, hG.perm h6 (fun _ h => h) (fun _ h => h)⟩
theorem not_err_nL {er p : Int} (h : CsErr nL er p) : False := by
  rcases h with ⟨h, _⟩ | ⟨_, h, _⟩ | ⟨_, _, _, l, h1, h2⟩
  · exact h chk_nL
  · exact h rfl
  · rw [wd_nL h1] at h2; cases h2
/-- The worlds of lives' nodes. -/
theorem in_nL {W : World} {g1 g2 : Nat} (h1 : Blk W g1 #[.int .i64 3, .string ⟨#[65]⟩, .int .i64 2, .slice none 0 0, .int .i64 0, .int .i64 3, .string ⟨#[66]⟩, .int .i64 0, .slice none 0 0, .int .i64 0] 27) (h2 : Blk W g2 #[.int .i64 2, .string ⟨#[84]⟩, .int .i64 0, .slice (some ⟨g1, 0, none⟩) 2 2, .int .i64 0] 27) : NdIn W W.heap.size nL (some ⟨g2, 0, none⟩) 1 := by
  refine ⟨.inr ⟨g2, 0, rfl, h2.lt, ?_⟩, by decide, by decide, by decide, by decide, by decide⟩
  have nA : NdAt W W.heap.size kA g1 0 := ndAt_cells (o := none) (cap := 0) ⟨.inl rfl, by decide, by decide, by decide, by decide, by decide⟩ (fun j u hu => by
    have := h1.cell j u (by
      have hj : j < 5 := (List.getElem?_eq_some_iff.1 hu).1
      rcases (show j = 0 ∨ j = 1 ∨ j = 2 ∨ j = 3 ∨ j = 4 by omega) with rfl | rfl | rfl | rfl | rfl <;> exact hu)
    simpa using this)
  have nB : NdAt W W.heap.size kB g1 (0 + 5) := ndAt_cells (o := none) (cap := 0) ⟨.inl rfl, by decide, by decide, by decide, by decide, by decide⟩ (fun j u hu => by
    have := h1.cell (5 + j) u (by
      have hj : j < 5 := (List.getElem?_eq_some_iff.1 hu).1
      rcases (show j = 0 ∨ j = 1 ∨ j = 2 ∨ j = 3 ∨ j = 4 by omega) with rfl | rfl | rfl | rfl | rfl <;> exact hu)
    simpa using this)
  show KidsAt W W.heap.size [kT] g2 0
  simp only [KidsAt, and_true]
  refine ndAt_cells (o := some ⟨g1, 0, none⟩) (cap := 2) ⟨.inr ⟨g1, 0, rfl, h1.lt, ?_⟩, by decide, by decide, by decide, by decide, by decide⟩ (fun j u hu => by
    have := h2.cell j u (by
      have hj : j < 5 := (List.getElem?_eq_some_iff.1 hu).1
      rcases (show j = 0 ∨ j = 1 ∨ j = 2 ∨ j = 3 ∨ j = 4 by omega) with rfl | rfl | rfl | rfl | rfl <;> exact hu)
    simpa using this)
  show KidsAt W W.heap.size [kA, kB] g1 0
  simp only [KidsAt, and_true]
  exact ⟨nA, nB⟩
end Go.Proofs.YtdbpggncpkocaaaGreatDoor

namespace Go.Proofs.YtdbpggncpkocaaaGreatDoor
open Go.RowKit Go.Shelf Go.Maps
set_option linter.unusedVariables false

theorem stoodC : Tryz.prog.stoodInHeld 38 = false := by kernel_rfl
theorem fieldsC : Tryz.prog.underlying 38 = some (.struct (Tryz.prog.fieldsOf 38)) := by kernel_rfl
set_option maxRecDepth 100000 in
theorem eqCon (n n' t t' : ByteArray) (a a' g g' : Int) (W : World) : (binOp .eql 38 (.agg #[.string n, .int .i64 a, .string t, .int .i64 g]) (.agg #[.string n', .int .i64 a', .string t', .int .i64 g'])).run Tryz.prog W = .ok (.bool ((n.toList == n'.toList) && ((a == a') && ((t.toList == t'.toList) && (g == g'))))) W := by
  rw [run_eql_struct, run_equalIn_struct W 9999 38 _ _ fieldsC stoodC]
  simp [Program.fieldsOf, Tryz.underlying38, Op.eqFields, go_sem]
  by_cases h1 : n.toList = n'.toList <;> by_cases h2 : a = a' <;> by_cases h3 : t.toList = t'.toList <;> by_cases h4 : g = g' <;> simp [h1, h2, h3, h4]
theorem stoodF : Tryz.prog.stoodInHeld 31 = false := by kernel_rfl
theorem fieldsF : Tryz.prog.underlying 31 = some (.struct (Tryz.prog.fieldsOf 31)) := by kernel_rfl
set_option maxRecDepth 100000 in
theorem eqFault (a a' b b' : Int) (W : World) : (binOp .eql 31 (.agg #[.int .i64 a, .int .i64 b]) (.agg #[.int .i64 a', .int .i64 b'])).run Tryz.prog W = .ok (.bool ((a == a') && (b == b'))) W := by
  rw [run_eql_struct, run_equalIn_struct W 9999 31 _ _ fieldsF stoodF]
  simp [Program.fieldsOf, Tryz.underlying31, Op.eqFields, go_sem]
  by_cases h1 : a = a' <;> by_cases h2 : b = b' <;> simp [h1, h2]
theorem find_known {T N : List (List UInt8)} {l : List CT} (h : Gth T N l) {c : CT} (hc : c ∈ l) : findV l c.1 = .tuple #[cnV c, .bool true] := by
  unfold findV
  rw [find_own h hc]
theorem gth_sz {l : List CT} (h : ∃ T N, Gth T N l) : ∀ f ∈ l, f.1.size ≤ 9223372036854775807 := by
  obtain ⟨T, N, hG⟩ := h
  intro f hf
  have := (hG.ar f hf).2.2.2
  rw [Lib.size_eq]
  exact this
/-- What lives has of its constructors. -/
structure LvS (w : World) (g cap : Nat) (l : List CT) (W : World) : Prop where
  at' : ConsAt W g l
  lt : g < W.heap.size
  len : l.length = 10
  bel : Below w.heap.size w W
  gth : ∃ T N, Gth T N l
  a : cA ∈ l
  b : cB ∈ l
  sz : ∀ f ∈ l, f.1.size ≤ 9223372036854775807
theorem LvS.on {w W W' : World} {g cap : Nat} {l : List CT} (h : LvS w g cap l W) (hb : Below W.heap.size W W') : LvS w g cap l W' := ⟨h.at'.below h.lt hb, Nat.lt_of_lt_of_le h.lt hb.size, h.len, h.bel.trans (hb.mono h.bel.size), h.gth, h.a, h.b, h.sz⟩
set_option maxRecDepth 100000 in
set_option maxHeartbeats 8000000 in
theorem lives9_c (w : World) (hG : GOK w) : Calls Tryz.prog 6 #[] w fun e w' => e = .returned (.bool true) ∧ Below w.heap.size w w' := by
  have hq1 := eqCon
  have hq2 := eqFault
  obtain ⟨W, hW⟩ : ∃ W, ((((((w.alloc (.cells #[.int .i64 3, .string ⟨#[65]⟩, .int .i64 2, .slice none 0 0, .int .i64 0] 27)).alloc (.cells #[.int .i64 3, .string ⟨#[66]⟩, .int .i64 0, .slice none 0 0, .int .i64 0] 27)).alloc (.cells #[.int .i64 3, .string ⟨#[65]⟩, .int .i64 2, .slice none 0 0, .int .i64 0, .int .i64 3, .string ⟨#[66]⟩, .int .i64 0, .slice none 0 0, .int .i64 0] 27)).alloc (.cells #[.int .i64 2, .string ⟨#[84]⟩, .int .i64 0, .slice (some ⟨w.heap.size + 1 + 1, 0, none⟩) 2 2, .int .i64 0] 27)).alloc (.cells #[.int .i64 2, .string ⟨#[84]⟩, .int .i64 0, .slice (some ⟨w.heap.size + 1 + 1, 0, none⟩) 2 2, .int .i64 0] 27)).alloc (.cells #[.int .i64 1, .string ⟨#[]⟩, .int .i64 0, .slice (some ⟨w.heap.size + 1 + 1 + 1 + 1, 0, none⟩) 1 1, .int .i64 0] 27)) = W := ⟨_, rfl⟩
  have HW : Hid (((((((w.alloc (.cells #[.int .i64 3, .string ⟨#[65]⟩, .int .i64 2, .slice none 0 0, .int .i64 0] 27)).alloc (.cells #[.int .i64 3, .string ⟨#[66]⟩, .int .i64 0, .slice none 0 0, .int .i64 0] 27)).alloc (.cells #[.int .i64 3, .string ⟨#[65]⟩, .int .i64 2, .slice none 0 0, .int .i64 0, .int .i64 3, .string ⟨#[66]⟩, .int .i64 0, .slice none 0 0, .int .i64 0] 27)).alloc (.cells #[.int .i64 2, .string ⟨#[84]⟩, .int .i64 0, .slice (some ⟨w.heap.size + 1 + 1, 0, none⟩) 2 2, .int .i64 0] 27)).alloc (.cells #[.int .i64 2, .string ⟨#[84]⟩, .int .i64 0, .slice (some ⟨w.heap.size + 1 + 1, 0, none⟩) 2 2, .int .i64 0] 27)).alloc (.cells #[.int .i64 1, .string ⟨#[]⟩, .int .i64 0, .slice (some ⟨w.heap.size + 1 + 1 + 1 + 1, 0, none⟩) 1 1, .int .i64 0] 27)) = W) := hW
  have hB : Below w.heap.size w W := by rw [← hW]; exact (((((((Below.refl _ w).alloc (Nat.le_refl _) _).alloc (by simp) _).alloc (by simp; omega) _).alloc (by simp; omega) _).alloc (by simp; omega) _).alloc (by simp; omega) _)
  have k1 : Blk W (w.heap.size + 1 + 1) #[.int .i64 3, .string ⟨#[65]⟩, .int .i64 2, .slice none 0 0, .int .i64 0, .int .i64 3, .string ⟨#[66]⟩, .int .i64 0, .slice none 0 0, .int .i64 0] 27 := by
    rw [← hW]
    refine (((Blk.alloc ?_ _).alloc _).alloc _)
    have := Blk.new ((w.alloc (.cells #[.int .i64 3, .string ⟨#[65]⟩, .int .i64 2, .slice none 0 0, .int .i64 0] 27)).alloc (.cells #[.int .i64 3, .string ⟨#[66]⟩, .int .i64 0, .slice none 0 0, .int .i64 0] 27)) #[.int .i64 3, .string ⟨#[65]⟩, .int .i64 2, .slice none 0 0, .int .i64 0, .int .i64 3, .string ⟨#[66]⟩, .int .i64 0, .slice none 0 0, .int .i64 0] 27
    simpa using this
  have k2 : Blk W (w.heap.size + 1 + 1 + 1 + 1) #[.int .i64 2, .string ⟨#[84]⟩, .int .i64 0, .slice (some ⟨w.heap.size + 1 + 1, 0, none⟩) 2 2, .int .i64 0] 27 := by
    rw [← hW]
    refine Blk.alloc ?_ _
    generalize hX : (((w.alloc _).alloc _).alloc _).alloc _ = X
    have hs : X.heap.size = w.heap.size + 1 + 1 + 1 + 1 := by rw [← hX]; simp
    rw [← hs]
    exact Blk.new X _ _
  have HC : Hid (Calls Tryz.prog 9 #[.agg #[.int .i64 1, .string ⟨#[]⟩, .int .i64 0, .slice (some ⟨w.heap.size + 1 + 1 + 1 + 1, 0, none⟩) 1 1, .int .i64 0]] W fun e W' => CsPost W nL e W') := cons_c nL (some ⟨w.heap.size + 1 + 1 + 1 + 1, 0, none⟩) 1 W (in_nL k1 k2) (hG.below hB)
  have HB : Hid (Below w.heap.size w W) := hB
  clear hW hB k1 k2 hG
  go_enter Tryz.func6, Tryz.ntmps6
  go_wp2_with (first
    | (go_at_call 8; refine (con_c _ _ _).mono ?_; rintro e w' ⟨rfl, rfl⟩)
    | (go_at_call 11; refine (data_c _ _ _ _ _ _).mono ?_; rintro e w' ⟨rfl, rfl⟩)
    | (go_at_call 10; refine (program_c _ _ _ _).mono ?_; rintro e w' ⟨rfl, rfl⟩)
    | (go_at_call 9; fail))
  rw [HW.out]
  refine HC.out.mono ?_
  rintro e w1 ⟨hb1, h | ⟨v, l, hok, rfl, hr⟩⟩
  · obtain ⟨er, p, he, _⟩ := h
    exact (not_err_nL he).elim
  · obtain ⟨hlen, hgt, hA, hBm⟩ := ok_nL hok
    have hne : l ≠ [] := fun e => by rw [e] at hlen; cases hlen
    obtain ⟨g, cap, rfl, hbg, hgl, hAt⟩ := hr.at hne
    have hsz : ∀ f ∈ l, f.1.size ≤ 9223372036854775807 := gth_sz hgt
    have HS : Hid (LvS w g cap l w1) := ⟨hAt, hgl, hlen, HB.out.trans (hb1.mono HB.out.size), hgt, hA, hBm, hsz⟩
    rw [hlen]
    clear hb1 hok hr hlen hgt hA hBm hne hbg hgl hAt hsz HC HW
    have HFA : Hid (∀ W : World, LvS w g cap l W → Calls Tryz.prog 13 #[.slice (some ⟨g, 0, none⟩) 10 cap, .string ⟨#[65]⟩] W fun e w' => e = .returned (.tuple #[.agg #[.string ⟨#[65]⟩, .int .i64 2, .string ⟨#[84]⟩, .int .i64 0], .bool true]) ∧ LvS w g cap l w' ∧ Below W.heap.size W w') := fun W h => by
      obtain ⟨T, N, hG⟩ := h.gth
      have hf := find_c l (by rw [h.len]; decide) h.sz ⟨#[65]⟩ (by decide) g cap W h.lt h.at'
      rw [h.len, show findV l ⟨#[65]⟩ = .tuple #[cnV cA, .bool true] from find_known hG h.a] at hf
      exact hf.mono (fun e w' ⟨he, hb⟩ => ⟨he, h.on hb, hb⟩)
    have HFB : Hid (∀ W : World, LvS w g cap l W → Calls Tryz.prog 13 #[.slice (some ⟨g, 0, none⟩) 10 cap, .string ⟨#[66]⟩] W fun e w' => e = .returned (.tuple #[.agg #[.string ⟨#[66]⟩, .int .i64 0, .string ⟨#[84]⟩, .int .i64 1], .bool true]) ∧ LvS w g cap l w' ∧ Below W.heap.size W w') := fun W h => by
      obtain ⟨T, N, hG⟩ := h.gth
      have hf := find_c l (by rw [h.len]; decide) h.sz ⟨#[66]⟩ (by decide) g cap W h.lt h.at'
      rw [h.len, show findV l ⟨#[66]⟩ = .tuple #[cnV cB, .bool true] from find_known hG h.b] at hf
      exact hf.mono (fun e w' ⟨he, hb⟩ => ⟨he, h.on hb, hb⟩)
    go_wp2_with (go_at_call 13; fail)
    obtain ⟨V1, hV1⟩ : ∃ V1, w1.alloc (.cells #[.int .i64 0, .int .i64 0] 31) = V1 := ⟨_, rfl⟩
    have hv1 : LvS w g cap l V1 := by rw [← hV1]; exact HS.out.on ((Below.refl _ _).alloc (Nat.le_refl _) _)
    have kF : Blk V1 w1.heap.size #[.int .i64 0, .int .i64 0] 31 := by rw [← hV1]; exact Blk.new w1 _ _
    have HKF : Hid (Blk V1 w1.heap.size #[.int .i64 0, .int .i64 0] 31) := kF
    have HV1 : Hid (LvS w g cap l V1) := hv1
    rw [hV1]
    clear hV1 hv1 kF
    refine (HFA.out V1 HV1.out).mono ?_
    rintro e w2 ⟨rfl, hs2, hb2⟩
    have HS2 : Hid (LvS w g cap l w2 ∧ Blk w2 w1.heap.size #[.int .i64 0, .int .i64 0] 31) := ⟨hs2, HKF.out.below hb2⟩
    clear hs2 hb2 HV1 HKF
    go_wp2_with (go_at_call 13; fail)
    obtain ⟨V2, hV2⟩ : ∃ V2, w2.alloc (.cells #[.string ⟨#[65]⟩, .int .i64 2, .string ⟨#[84]⟩, .int .i64 0] 38) = V2 := ⟨_, rfl⟩
    have hbV : Below w2.heap.size w2 V2 := by rw [← hV2]; exact (Below.refl _ _).alloc (Nat.le_refl _) _
    have kC : Blk V2 w2.heap.size #[.string ⟨#[65]⟩, .int .i64 2, .string ⟨#[84]⟩, .int .i64 0] 38 := by rw [← hV2]; exact Blk.new w2 _ _
    have HKC : Hid (Blk V2 w2.heap.size #[.string ⟨#[65]⟩, .int .i64 2, .string ⟨#[84]⟩, .int .i64 0] 38 ∧ Blk V2 w1.heap.size #[.int .i64 0, .int .i64 0] 31) := ⟨kC, HS2.out.2.below hbV⟩
    have HV2 : Hid (LvS w g cap l V2) := HS2.out.1.on hbV
    rw [hV2]
    clear hV2 hbV kC
    refine (HFB.out V2 HV2.out).mono ?_
    rintro e w3 ⟨rfl, hs3, hb3⟩
    have kF3 := HKC.out.2.below hb3
    have kC3 := HKC.out.1.below hb3
    have HS3 : Hid (LvS w g cap l w3) := hs3
    have a0 : w3.cell? ⟨w1.heap.size, 0, none⟩ = some (.int .i64 0) := kF3.cell 0 _ rfl
    have a1 : w3.cell? ⟨w1.heap.size, 1, none⟩ = some (.int .i64 0) := kF3.cell 1 _ rfl
    have al := kF3.lt
    have b0 : w3.cell? ⟨w2.heap.size, 0, none⟩ = some (.string ⟨#[65]⟩) := kC3.cell 0 _ rfl
    have b1 : w3.cell? ⟨w2.heap.size, 1, none⟩ = some (.int .i64 2) := kC3.cell 1 _ rfl
    have b2 : w3.cell? ⟨w2.heap.size, 2, none⟩ = some (.string ⟨#[84]⟩) := kC3.cell 2 _ rfl
    have b3 : w3.cell? ⟨w2.heap.size, 3, none⟩ = some (.int .i64 0) := kC3.cell 3 _ rfl
    have bl := kC3.lt
    have HF : Hid (∀ o, Below w.heap.size w (w3.alloc o)) := fun o => (hs3.on ((Below.refl _ _).alloc (Nat.le_refl _) o)).bel
    clear hs3 hb3 kF3 kC3 HKC HV2 HFA HFB HS HS2
    go_wp2
    go_ret
    exact ⟨rfl, HF.out _⟩
end Go.Proofs.YtdbpggncpkocaaaGreatDoor
