/-
  The names of an expression, by a contract.
  namesIn, by a contract.
  maps.Copy of sets of names, by a contract.
-/
import Derived.Test.YtegdloenakachaaGreatDoorCN26
import Derived.Test.YtegdloenakachaaGreatDoorCN02
import Derived.Maps.RangeWalk
import Derived.Laws.IdiomRangeMap
import Derived.WalkKit
namespace Go.Proofs.YtegdloenakachaaGreatDoor
open Go.RowKit Go.Shelf Go.Maps
set_option linter.unusedVariables false

theorem But.ofBelow {m : Nat} {w W : World} (h : Below w.heap.size w W) : But m w W := ⟨h.os, h.tape, h.output, h.size, fun k hk _ => h.block k hk⟩
theorem names2_c (m ab bx : Nat) (w0 : World) (hbx : BxOK m ab bx w0) : WrOK 110 (.pointer (some ⟨ab, 0, none⟩)) m w0 ownN := by
  intro w hw0 d t B g off c G hE hw hBm hF hst hc
  have hbw := hbx.but hw0
  obtain ⟨o3, c3, o4, c4, o6, c6, h3, h4, h6, s3, s4, s6⟩ := names2_rest m ab bx w d t B g off c G (if TrN.kind t = 1 then [(TrN.name t).data.toList] else []) hbw hE hw hBm hF hc
  obtain ⟨hg, h0, h1, -⟩ := id hE
  have hcs : ∀ W, But m w W → ∀ g' off', g' < B → W.cell? ⟨g', off', none⟩ = w.cell? ⟨g', off', none⟩ := fun W hW g' off' hg' => hW.cell g' off' (by omega) (by omega)
  generalize hA0 : (if TrN.kind t = 1 then [(TrN.name t).data.toList] else []) = A0 at *
  have hown : ownN d t = A0 ++ dl (TrN.params t) ++ dl ((TrN.binds t).map Prod.fst) ++ (TrN.alts t).flatMap (fun a => dl a.1.vars) := by
    rw [← hA0]; unfold ownN; simp only [List.append_assoc]
  have hw2 := names2_walk m ab bx g off (TrN.params t).length (TrN.binds t).length (TrN.alts t).length c3 c4 c6 w.heap.size (TrN.kind t) (TrN.name t) o3 o4 o6 w
    (fun W => NmR m w (c + A0.length) (addL G A0) W)
    (fun W => NmR m w (c + (A0 ++ dl (TrN.params t)).length) (addL G (A0 ++ dl (TrN.params t))) W)
    (fun W => NmR m w (c + (A0 ++ dl (TrN.params t) ++ dl ((TrN.binds t).map Prod.fst)).length) (addL G (A0 ++ dl (TrN.params t) ++ dl ((TrN.binds t).map Prod.fst))) W)
    (fun k W => NmR m w (c + (A0 ++ dl (TrN.params t) ++ dl ((TrN.binds t).map Prod.fst) ++ ((TrN.alts t).take k).flatMap (fun a => dl a.1.vars)).length) (addL G (A0 ++ dl (TrN.params t) ++ dl ((TrN.binds t).map Prod.fst) ++ ((TrN.alts t).take k).flatMap (fun a => dl a.1.vars))) W)
    hF.2.2.2.2.1 rfl ?_ h0 h1 (fun W h => h.but) (fun W h => h.but) (fun W h => h.but) (fun k W h => h.but) ?_ ?_ (fun W h => s3 W.drew h.drew) (fun W h => ?_) (fun W h => ?_) (fun k hk => ?_)
  · refine hw2.mono ?_
    rintro e w' ⟨rfl, h9⟩
    have h9 := h9.out
    rw [List.take_length, ← hown] at h9
    exact ⟨rfl, h9⟩
  · intro W hW
    obtain ⟨-, -, p3, p4, p5, -⟩ := hbw.but hW
    have := hW.size
    exact ⟨by omega, p3, p5, (hcs W hW _ _ hg).trans h3, (hcs W hW _ _ hg).trans h4, (hcs W hW _ _ hg).trans h6⟩
  · intro hk
    rw [if_neg hk] at hA0
    subst hA0
    exact NmR.start hst
  · intro hk V hV hcell
    rw [if_pos hk] at hA0
    subst hA0
    have hml := hst.lt
    have h9 := add_more (A := []) (l := [TrN.name t]) (cap := 1) hbw ((NmR.start hst).below hV) (fun x hx => by
      have : x = TrN.name t := by simpa using hx
      subst this
      exact hF.1) (o := some ⟨w.heap.size, 0, none⟩) (.inr ⟨_, _, rfl, by omega, cell_lt hcell, fun k hk => by
        have : k = 0 := by simpa using hk
        subst this
        exact hcell⟩) (by have := hc; unfold ownN at this; rw [if_pos hk] at this; simp only [List.length_append, List.length_cons, List.length_nil] at this ⊢; omega) (by simp)
    exact h9
  · refine (s4 W.drew h.drew).mono ?_
    rintro e w' ⟨M, rfl, h7, h8⟩
    exact ⟨M, rfl, (h.drew.below h7).but, h8⟩
  · rw [List.take_zero, List.flatMap_nil, List.append_nil]
    exact h
  · obtain ⟨g6, x6, o7, c7, e6, h7, h8, h9⟩ := s6 k hk
    exact ⟨g6, x6, o7, _, c7, e6, fun W hW => ⟨by have := hW.size; omega, (hcs W hW _ _ h7).trans h8⟩, fun W h => h9 W.drew h.drew⟩
end Go.Proofs.YtegdloenakachaaGreatDoor

namespace Go.Proofs.YtegdloenakachaaGreatDoor
open Go.RowKit Go.Shelf Go.Maps
set_option linter.unusedVariables false
set_option maxRecDepth 100000 in
set_option maxHeartbeats 2000000 in
theorem namesIn_c (d : Nat) (t : Tr d) (B g off : Nat) (w : World) (hE : ExAt w B d t g off) (hw : B ≤ w.heap.size) (hF : Fit d t) (hlen : (allN ownN d t).length ≤ 4000000) :
    Calls Tryz.prog 61 #[.pointer (some ⟨g, off, none⟩)] w fun e w' => e = .returned (.map (some w.heap.size)) ∧ Below w.heap.size w w' ∧ ∃ c, c ≤ (allN ownN d t).length ∧ SetIs w' w.heap.size c (fun x => decide (x ∈ allN ownN d t)) := by
  have hmm : ∀ W : World, (Instr.makeMap 65 none).run Tryz.prog W = .ok (.map (some W.heap.size)) (W.alloc (.map #[] 0)) := fun W => rfl
  obtain ⟨V, hV⟩ : ∃ V, w.alloc (.map #[] 0) = V := ⟨_, rfl⟩
  have b0 : Below w.heap.size w V := by rw [← hV]; exact below1 w _
  have s0 : SetIs V w.heap.size 0 (fun _ => false) := by rw [← hV]; exact setIs_new w
  obtain ⟨N, hN⟩ : ∃ N, w.heap.size = N := ⟨_, rfl⟩
  obtain ⟨M, hM⟩ : ∃ M, V.heap.size = M := ⟨_, rfl⟩
  obtain ⟨U, hU⟩ : ∃ U, V.alloc (.cells #[.map none] 65) = U := ⟨_, rfl⟩
  have k1 : Blk U M #[.map none] 65 := by rw [← hU, ← hM]; exact Blk.new V _ _
  obtain ⟨T, hT⟩ : ∃ T, U.setCell ⟨M, 0, none⟩ (.map (some N)) = T := ⟨_, rfl⟩
  have x1 := k1.cell 0 _ rfl
  have y1 := k1.frozen 0
  have z1 := k1.lt
  have b1 : Below V.heap.size V U := by rw [← hU]; exact below1 V _
  obtain ⟨L, hL⟩ : ∃ L, T.heap.size = L := ⟨_, rfl⟩
  obtain ⟨R, hR⟩ : ∃ R, T.alloc (.cells #[.nilFunc] 140) = R := ⟨_, rfl⟩
  have k2 : Blk R L #[.nilFunc] 140 := by rw [← hR, ← hL]; exact Blk.new T _ _
  have b2 : Below T.heap.size T R := by rw [← hR]; exact below1 T _
  obtain ⟨Q, hQ⟩ : ∃ Q, R.setCell ⟨L, 0, none⟩ (.func (.func 108) #[] #[.pointer (some ⟨M, 0, none⟩)]) = Q := ⟨_, rfl⟩
  have x2 := k2.cell 0 _ rfl
  have y2 := k2.frozen 0
  have z2 := k2.lt
  have hMN : N < M := by have := s0.lt; omega
  have sT : T.heap.size = U.heap.size := by rw [← hT]; exact size_set7 _ _ _
  have sQ : Q.heap.size = R.heap.size := by rw [← hQ]; exact size_set7 _ _ _
  have hML : M < L := by omega
  have bT : ∀ k, k ≠ M → T.heap[k]? = U.heap[k]? := fun k hk => by rw [← hT]; exact heap_set_other _ _ _ _ _ hk
  have bQ : ∀ k, k ≠ L → Q.heap[k]? = R.heap[k]? := fun k hk => by rw [← hQ]; exact heap_set_other _ _ _ _ _ hk
  have hl1 := b1.size
  have hl2 := b2.size
  have bN : Q.heap[N]? = V.heap[N]? := (bQ N (by omega)).trans ((b2.block N (by omega)).trans ((bT N (by omega)).trans (b1.block N (by omega))))
  have sQs : SetIs Q N 0 (fun _ => false) := by rw [hN] at s0; exact s0.same bN
  have cM : Q.cell? ⟨M, 0, none⟩ = some (.map (some N)) := by
    refine (cell_of_block ((bQ M (by omega)).trans (b2.block M (by omega))) _).trans ?_
    rw [← hT]
    exact setCell_cell_same _ _ _ _ _ x1
  have cL : Q.cell? ⟨L, 0, none⟩ = some (.func (.func 108) #[] #[.pointer (some ⟨M, 0, none⟩)]) := by
    rw [← hQ]
    exact setCell_cell_same _ _ _ _ _ x2
  have bx : BxOK N L M Q := ⟨by omega, by omega, by omega, by omega, cL, cM⟩
  have bwQ : Below w.heap.size w Q := by
    have h0s := b0.size
    refine ⟨?_, ?_, ?_, by omega, fun k hk => ?_⟩
    · rw [← hQ, ← hR, ← hT, ← hU, ← hV]; rfl
    · rw [← hQ, ← hR, ← hT, ← hU, ← hV]; rfl
    · rw [← hQ, ← hR, ← hT, ← hU, ← hV]; rfl
    · exact (bQ k (by omega)).trans ((b2.block k (by omega)).trans ((bT k (by omega)).trans ((b1.block k (by omega)).trans (b0.block k hk))))
  have E2 : Enters Tryz.prog 110 := enters_of Tryz.func110 (by kernel_rfl) rfl
  have HA : Hid (Calls Tryz.prog 109 #[.pointer (some ⟨g, off, none⟩), .func (.func 110) #[] #[.pointer (some ⟨L, 0, none⟩)]] Q fun e w' => e = .returned (.bool true) ∧ M < w'.heap.size ∧ w'.cell? ⟨M, 0, none⟩ = some (.map (some N)) ∧ Hid (Below w.heap.size w w' ∧ ∃ c, c ≤ (allN ownN d t).length ∧ SetIs w' N c (fun x => decide (x ∈ allN ownN d t)))) := by
    refine (wallOK 110 (.pointer (some ⟨L, 0, none⟩)) N Q ownN E2 (names2_c N L M Q bx) d Q (But.refl _ _) t B g off 0 (fun _ => false) (ExAt.same (fun g' off' hg' => cell_of_block (bwQ.block g' (by omega)) off') d _ _ _ hE) (by have := bwQ.size; omega) (by omega) hF sQs (by omega)).mono ?_
    rintro e w' ⟨rfl, h9⟩
    obtain ⟨c1, hc1, hs1⟩ := h9.set
    have h5 := h9.but.size
    obtain ⟨-, -, -, p4, -, p6⟩ := bx.but h9.but
    refine ⟨rfl, p4, p6, ⟨h9.but.os.trans bwQ.os, h9.but.tape.trans bwQ.tape, h9.but.output.trans bwQ.output, Nat.le_trans bwQ.size h9.but.size, fun k hk => (h9.but.block k (by have := bwQ.size; omega) (by omega)).trans (bwQ.block k hk)⟩, c1, by omega, ?_⟩
    have e : addL (fun _ => false) (allN ownN d t) = fun x => decide (x ∈ allN ownN d t) := by funext x; simp [addL]
    rw [e] at hs1
    exact hs1
  have hso : ∀ m : Mode, (store ⟨L, 0, none⟩ (.func (.func 108) #[] #[.pointer (some ⟨M, 0, none⟩)]) m).run Tryz.prog R = .ok () Q := fun m => by
    rw [run_store Tryz.prog R _ _ m rfl, ← hQ]
    simp [x2, y2]
  clear hE hw hF hlen b0 s0 k1 b1 b2 k2 hMN sT sQ hML bT bQ hl1 hl2 bN sQs cM cL bx bwQ E2
  rw [hN]
  go_enter Tryz.func61, Tryz.ntmps61
  go_wp2_with (go_at_call 109; fail)
  refine HA.out.mono ?_
  rintro e9 w' ⟨rfl, j1, j2, HJ⟩
  clear HA
  go_wp2
  go_ret
  exact ⟨rfl, by rw [hN] at HJ; exact HJ.out⟩
end Go.Proofs.YtegdloenakachaaGreatDoor

namespace Go.Proofs.YtegdloenakachaaGreatDoor
open Go.RowKit Go.Shelf Go.Maps
set_option linter.unusedVariables false
/-- What has come so far lies in the set. -/
def cpF (F G : List UInt8 → Bool) (left : Lit → Bool) : List UInt8 → Bool := fun x => F x || (G x && !left (.string x))
theorem keyStr_inv {key : Value} {kl : Lit} (h : keyOf Tryz.prog 9 key = some kl) : ∃ x : ByteArray, key = .string x ∧ kl = .string x.data.toList ∧ x.size ≤ maxLen := by
  cases key <;> simp [keyOf, Tryz.underlying9, mapKey] at h
  rename_i s
  exact ⟨s, rfl, h.2.symm, h.1⟩
theorem cp_start (F G : List UInt8 → Bool) {left : Lit → Bool} (h : ∀ x, left (.string x) = G x) : cpF F G left = F := by
  funext x
  unfold cpF
  rw [h x]
  cases F x <;> cases G x <;> rfl
theorem cp_end (F G : List UInt8 → Bool) {left : Lit → Bool} (h : ∀ kl, left kl = false) : cpF F G left = fun x => F x || G x := by
  funext x
  unfold cpF
  rw [h]
  simp
theorem cp_step (F G : List UInt8 → Bool) {left : Lit → Bool} (s : List UInt8) (hG : G s = true) : (fun x => (x == s) || cpF F G left x) = cpF F G (fun z => left z && !z.sameKey (.string s)) := by
  funext x
  unfold cpF
  by_cases hx : x = s
  · subst hx
    have : (Lit.string x).sameKey (.string x) = true := by simp [Lit.sameKey]
    simp [this, hG]
  · have : (Lit.string x).sameKey (.string s) = false := by simp [Lit.sameKey, hx]
    simp [this, hx]
set_option maxHeartbeats 4000000 in
set_option maxRecDepth 100000 in
theorem copySet_c (m f c cf : Nat) (F G : List UInt8 → Bool) (w : World) (hm : SetIs w m c F) (hf : SetIs w f cf G) (hne : m ≠ f) (hc : c ≤ 1900000) (hcf : cf ≤ 1900000) :
    Calls Tryz.prog 62 #[.map (some m), .map (some f)] w fun e w' => e = .returned (.tuple #[]) ∧ (∃ c', SetIs w' m c' (fun x => F x || G x)) ∧ But m w w' := by
  obtain ⟨D, hs, hD, hval, hall⟩ := hf
  have hsz : Maps.size D ≤ 1900000 := Nat.le_trans hs.size_le hcf
  have HF : Hid (SetIs w m c F ∧ m ≠ f ∧ c ≤ 1900000 ∧ Maps.size D ≤ 1900000 ∧ (∀ x, D.atKey (.string x) (.held (.agg #[])) = .held (.agg #[])) ∧ ∀ x, Maps.has D (.string x) = G x) := ⟨hm, hne, hc, hsz, hval, hall⟩
  have hml := hm.lt
  have hfl := hs.lt
  clear hm hne hc hcf hsz hval hall
  go_enter Tryz.func62, Tryz.ntmps62
  go_wp2_with (first
    | (at_range; refine wpList_range_own _ rfl _ 65 rfl 9 63 (string_keyed Tryz.underlying9) Tryz.underlying65 heldElem f cf _ rfl hs ?_; intro w0 hrg0 hg0 hs0)
    | go_in)
  go_frame
  go_loopw [8] (fun _ wr => ∃ (left : Lit → Bool) (cnt : Nat), wr.ranges Tryz.prog 9 heldElem f w.heap.size cf D left cnt ∧ Hid (cnt ≤ Maps.size D ∧ (∃ c', c' ≤ c + (Maps.size D - cnt) ∧ SetIs wr m c' (cpF F G left)) ∧ (∀ x, left (.string x) = true → G x = true) ∧ But m w wr)) (fun _ wr => wr.rangeLeft f w.heap.size)
  case atStart =>
    have hb : But m w w0 := ⟨hg0.os, hg0.tape, hg0.output, hg0.size, fun k hk _ => hg0.block k hk (by simp)⟩
    refine ⟨_, _, hrg0, Nat.le_refl _, ⟨c, by omega, ?_⟩, fun x hx => by rw [← HF.out.2.2.2.2.2 x]; exact hx, hb⟩
    rw [cp_start F G HF.out.2.2.2.2.2]
    exact HF.out.1.same (hg0.block m hml (by simp))
  case round =>
    obtain ⟨left, cnt, hrg, HI⟩ := hrel
    go_wp2_with (first
      | (at_next; refine wpList_next_ranges _ rfl _ rfl 9 (string_keyed Tryz.underlying9) heldElem Value.string id (fun key kl h => by obtain ⟨x, e, _⟩ := keyStr_inv h; exact ⟨x, e⟩) (fun v _ _ => ⟨v, rfl⟩) f w.heap.size cf _ _ _ rfl hrg ?_ ?_)
      | go_in)
    · intro hc0 hl0
      have HE : Hid (∃ c', SetIs wr m c' (fun x => F x || G x)) := by
        obtain ⟨c', -, h9⟩ := HI.out.2.1
        rw [cp_end F G hl0] at h9
        exact ⟨c', h9⟩
      clear hrg hl0 hc0
      go_wp2
      go_end0
      exact ⟨rfl, HE.out, HI.out.2.2.2⟩
    · intro x cc kl yd yp w1 cnt1 hkey hlx hv hat hrg1 hlt hg1 hs1 hen
      obtain ⟨x', ex, rfl, hxs⟩ := keyStr_inv hkey
      cases ex
      have hcc : cc = .agg #[] := by
        have h1 := hat (.held (.agg #[]))
        rw [HF.out.2.2.2.2.1] at h1
        have h2 : heldElem cc = some (yd, yp) := hv
        simp [heldElem] at h2
        rw [← h2.1] at h1
        exact (DataW.held.inj h1).symm
      subst hcc
      obtain ⟨c', hc', hst⟩ := HI.out.2.1
      have hmr : m ≠ w.heap.size := by omega
      have hws := HI.out.2.2.2.size
      have hsz1 := hg1.size
      have hmw : m < wr.heap.size := by omega
      have hs1' : SetIs (w1.alloc (.cells #[] 63)) m c' (cpF F G left) := hst.same (by rw [Below.heap_alloc _ _ _ (by omega)]; exact hg1.block m hmw (fun e => hmr (Option.some.inj e)))
      obtain ⟨W2, hrun, hset, hbut⟩ := hs1'.put (by have := HF.out.2.2; have := HI.out.1; omega) x hxs
      have hg2 : w1.grownBy W2 (some m) := ⟨hbut.os, hbut.tape, hbut.output, Nat.le_trans (by simp) hbut.size, fun k hk hn => by rw [hbut.block k (by simp; omega) (fun e => hn (by rw [e])), Below.heap_alloc _ _ _ hk]⟩
      have hrg2 := hrg1.kept hg2 (fun e => HF.out.2.1 (Option.some.inj e).symm) (fun e => hmr (Option.some.inj e).symm)
      have HQ : Hid (∃ (left : Lit → Bool) (cnt : Nat), W2.ranges Tryz.prog 9 heldElem f w.heap.size cf D left cnt ∧ (cnt ≤ Maps.size D ∧ (∃ c', c' ≤ c + (Maps.size D - cnt) ∧ SetIs W2 m c' (cpF F G left)) ∧ (∀ x, left (.string x) = true → G x = true) ∧ But m w W2)) := by
        refine ⟨_, cnt1, hrg2, by have := HI.out.1; omega, ⟨c' + 1, by have := HI.out.1; omega, ?_⟩, fun z hz => HI.out.2.2.1 z (by simp at hz; exact hz.1), ?_⟩
        · rw [← cp_step F G x.data.toList (HI.out.2.2.1 _ hlx)]
          exact hset
        · exact ⟨hbut.os.trans (hg1.os.trans HI.out.2.2.2.os), hbut.tape.trans (hg1.tape.trans HI.out.2.2.2.tape), hbut.output.trans (hg1.output.trans HI.out.2.2.2.output), by have := hg2.size; omega, fun k hk hn => by rw [hg2.block k (by omega) (fun e => hn (Option.some.inj e)), hg1.block k (by omega) (fun e => by have := Option.some.inj e; omega)]; exact HI.out.2.2.2.block k hk hn⟩
      have HMs : Hid (W2.rangeLeft f w.heap.size < wr.rangeLeft f w.heap.size) := by show _ < _; rw [hrg2.left_eq, hrg.left_eq]; exact hlt
      clear hset hbut hg2 hrg2 hs1' hst hc' hat hv hkey hrg1 hg1 hlt hxs hrg hD hs
      go_wp2
      exact ⟨HQ.out, HMs.out⟩
end Go.Proofs.YtegdloenakachaaGreatDoor
