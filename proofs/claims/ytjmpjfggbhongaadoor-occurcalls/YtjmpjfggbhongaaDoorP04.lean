/-
  Of the core, what is wanted here: part 4.
-/
import Derived.Test.YtjmpjfggbhongaaDoorShelfS
import Derived.Shelf.SlIter.Keys
import Derived.Sort.OwnSorted
import Derived.Sort.KeysCollected
import Derived.Deep.OwnRows
import Derived.Test.YtjmpjfggbhongaaDoorP03
namespace Go.Proofs.YtjmpjfggbhongaaDoor
open Go.RowKit Go.Shelf Go.Maps Go.Sort
set_option linter.unusedVariables false
def Tryd.keysS_ren : Go.Shelf.Ren := ⟨fun | 7 => 38 | 10 => 62 | n => n, fun | 0 => 0 | 3 => 85 | 4 => 4 | 23 => 84 | 26 => 9 | 27 => 81 | 28 => 82 | 33 => 111 | n => n, fun n => n⟩
theorem Tryd.keysS : Go.Proofs.SlLaysZ.n7 Tryd.prog Tryd.keysS_ren := {
  mixed := by kernel_rfl
  f7 := ⟨Tryd.f38.name, by kernel_rfl, Tryd.func38.trans (congrArg some (by kernel_rfl))⟩
  f10 := ⟨Tryd.f62.name, by kernel_rfl, Tryd.func62.trans (congrArg some (by kernel_rfl))⟩
  t0 := Tryd.underlying0
  a0 := Tryd.isAgg0
  z0 := Tryd.sizeOf0
  v0 := Tryd.zeroValue0
  t4 := Tryd.underlying4
  a4 := Tryd.isAgg4
  z4 := Tryd.sizeOf4
  v4 := Tryd.zeroValue4
  t23 := Tryd.underlying84
  a23 := Tryd.isAgg84
  z23 := Tryd.sizeOf84
  v23 := Tryd.zeroValue84
  t26 := Tryd.underlying9
  a26 := Tryd.isAgg9
  z26 := Tryd.sizeOf9
  v26 := Tryd.zeroValue9
  t27 := Tryd.underlying81
  a27 := Tryd.isAgg81
  z27 := Tryd.sizeOf81
  v27 := Tryd.zeroValue81
  t28 := Tryd.underlying82
  a28 := Tryd.isAgg82
  z28 := Tryd.sizeOf82
  v28 := Tryd.zeroValue82
  t33 := Tryd.underlying111
  a33 := Tryd.isAgg111
  z33 := Tryd.sizeOf111
  v33 := Tryd.zeroValue111 }


theorem keysS_in (F : Fence) (n : Nat) (hF : ∀ k, F.fn k) (hro : F.round = none) (b : Nat) (w : World) :
    CallsIn F n Tryd.prog 38 #[.map (some b)] w fun e w' => e = .returned (.func (.func 62) #[] #[.pointer (some ⟨w.heap.size, 0, none⟩)]) ∧ w' = w.alloc (.cells #[.map (some b)] 84) :=
  AnyZ.keys_in Tryd.keysS F n (hF _) hro (some b) w
theorem keysS_stops (F : Fence) (n : Nat) (hF : ∀ k, F.fn k) (hro : F.round = none) (hn : 1 ≤ n) (L : List (List UInt8)) (hnd : L.Nodup) (b c : Nat) (w : World) (h : SetIs w b c (fun x => decide (x ∈ L))) :
    SeqStops F n Tryd.prog 62 #[.pointer (some ⟨w.heap.size, 0, none⟩)] encStr (fun ss => ss.Perm L) (fun _ => True) c (w.alloc (.cells #[.map (some b)] 84)) := by
  obtain ⟨D, hown, hD, -, hall⟩ := h
  have hp : L.Perm (strKeys D) := by
    refine Collected.perm (left := fun _ => false) ⟨hnd, fun x => ?_⟩ hown (string_keyed Tryd.underlying9) Tryd.underlying9 (fun _ => rfl)
    rw [hall x]
    simp
  have hs := hown.size_le
  have hk := AnyZ.keys_stops (ρ := Tryd.keysS_ren) { Tryd.keysS with } F n (hF _) hro hn w.heap.size b c D (w.alloc (.cells #[.map (some b)] 84)) (by simp) (by simp) (hown.alloc _)
  intro l J Jx W hW hJ hJx hY h0
  refine (hk l J Jx W hW hJ hJx (fun pre x W1 hj hl => hY pre x W1 hj (Nat.lt_of_lt_of_le hl hs)) h0).mono ?_
  rintro e W' ⟨hv, h | h⟩
  · obtain ⟨xs, hS, hj⟩ := h
    exact ⟨hv, .inl ⟨xs, hS.1.trans hp.symm, hj⟩⟩
  · obtain ⟨pre, _, hj⟩ := h
    exact ⟨hv, .inr ⟨pre, trivial, hj⟩⟩
set_option maxRecDepth 100000 in
set_option maxHeartbeats 1000000 in
theorem collect_in (F : Fence) (n : Nat) (hF : ∀ k, F.fn k) (hro : F.round = none) (hn : 4 ≤ n) (g : Nat) (lb : Array Value) (eg : ∀ args w, (callFunc g args).run Tryd.prog w = .ok (.enter g args) w)
    (S Sp : List (List UInt8) → Prop) (N : Nat) (hN : N ≤ 1000000) (w : World) (hseq : SeqStops F (n - 1 - 1) Tryd.prog g lb encStr S Sp N w) :
    CallsIn F n Tryd.prog 60 #[.func (.func g) #[] lb] w fun e W' => ∃ (v : Value) (ss : List (List UInt8)), e = .returned v ∧ S ss ∧ W'.ownsRow w.heap.size 9 1 v ss.length (ss.map encStr) ∧ Below w.heap.size w W' := by
  have hfs : ∀ k, F.fn k := hF
  refine callsIn_of_wp Tryd.func60 rfl (hF _) ?_ hro
  simp only [Tryd.ntmps60, List.size_toArray, List.length_cons, List.length_nil, Nat.reduceAdd, Nat.reduceSub, Array.replicate_succ, Array.replicate_zero, List.push_toArray, List.append_toArray, List.nil_append, List.cons_append]
  have h1 : 1 ≤ n := by omega
  gi_wp2_with (gi_at_call 83; refine (appendSeq_in F (n - 1) hF hro (by omega) (by omega) w.heap.size (.slice none 0 0) 0 [] g lb eg S Sp N (by omega) w (Nat.le_refl _) (World.ownsRow_nil _ _ _ _) hseq).mono ?_; rintro e w' ⟨v, ss, rfl, hS, hrow, hb⟩)
  go_ret
  exact ⟨v, ss, rfl, hS, by simpa using hrow, hb⟩

set_option maxRecDepth 100000 in
set_option maxHeartbeats 4000000 in
theorem sort4_c (B : Nat) (ss : List (List UInt8)) (v : Value) (w : World) (hr : w.ownsRow B 9 1 v ss.length (ss.map encStr)) (hl : ss.length ≤ 1000000) (hB : B ≤ w.heap.size) : Calls Tryd.prog 61 #[v] w fun e w' => e = .returned (.tuple #[]) ∧ w'.ownsRow B 9 1 v ss.length ((ss.mergeSort leB).map encStr) ∧ Below B w w' := by
  rcases hr.2 with ⟨rfl, hz⟩ | ⟨gb, cap, cur, rfl, hbase, hgb, r1, r2, r3, r4⟩
  · have he : ss = [] := List.length_eq_zero_iff.1 hz
    subst he
    refine (sortZ_c w).mono ?_
    rintro e w' ⟨rfl, rfl⟩
    exact ⟨rfl, by simpa using hr, Below.refl _ _⟩
  · have hH : Holds encStr w gb 0 ss.toArray := holds_of_block hgb (by simpa using r4)
    have hgl : gb < w.heap.size := (Array.getElem?_eq_some_iff.1 hgb).1
    refine (Tryd.slices_Sort gb 0 cap ss w hH hgl (by omega)).mono ?_
    rintro e w7 ⟨rfl, n, os, rfl⟩
    refine ⟨rfl, ?_, (Below.refl B w).grown (grownBy_sorted _) hB (fun j hj => by cases hj; exact hbase)⟩
    exact ownsRow_sorted (w := w) (base := B) (g := gb) (cap := cap) (n := n) (e := 9) (os := os) (cur := cur) (ss := ss) (ts := ss.mergeSort leB) (by simp) hbase hgb r1 r2 r3
set_option maxRecDepth 100000 in
set_option maxHeartbeats 4000000 in
theorem sorted4_c (L : List (List UInt8)) (hL : L.length ≤ 1000000) (c : Nat) (hc : c ≤ 1000000) (lb : Array Value) (w : World) (hseq : SeqStops Fence.wide 3 Tryd.prog 62 lb encStr (fun ss => ss.Perm L) (fun _ => True) c w) :
    Calls Tryd.prog 37 #[.func (.func 62) #[] lb] w fun e W' => ∃ v, e = .returned v ∧ W'.ownsRow w.heap.size 9 1 v L.length ((L.mergeSort leB).map encStr) ∧ Below w.heap.size w W' := by
  have HC : Hid (Calls Tryd.prog 60 #[.func (.func 62) #[] lb] w fun e W' => ∃ (v : Value) (ss : List (List UInt8)), e = .returned v ∧ ss.Perm L ∧ W'.ownsRow w.heap.size 9 1 v ss.length (ss.map encStr) ∧ Below w.heap.size w W') := callsIn_wide.1 (collect_in Fence.wide 5 (fun _ => trivial) rfl (by omega) 62 _ (enters_of Tryd.func62 (by kernel_rfl) rfl) _ _ c hc w hseq)
  clear hseq hc
  go_enter Tryd.func37, Tryd.ntmps37
  go_wp2_with (go_at_call 60; fail)
  refine HC.out.mono ?_
  rintro e w1 ⟨v, ss, rfl, hp, hr, hb⟩
  have hlen : ss.length = L.length := hp.length_eq
  have HS : Hid (Calls Tryd.prog 61 #[v] w1 fun e w' => e = .returned (.tuple #[]) ∧ w'.ownsRow w.heap.size 9 1 v L.length ((L.mergeSort leB).map encStr) ∧ Below w.heap.size w1 w') := by
    have := sort4_c w.heap.size ss v w1 hr (by omega) hb.size
    rw [hlen, mergeSort_of_perm hp] at this
    exact this
  have HB : Hid (Below w.heap.size w w1) := hb
  clear hp hr hb hlen HC
  go_wp2_with (go_at_call 61; fail)
  refine HS.out.mono ?_
  rintro e w2 ⟨rfl, hr2, hb2⟩
  have HE : Hid (w2.ownsRow w.heap.size 9 1 v L.length ((L.mergeSort leB).map encStr) ∧ Below w.heap.size w w2) := ⟨hr2, HB.out.trans hb2⟩
  clear hr2 hb2 HS
  go_wp2
  go_ret
  exact ⟨_, rfl, HE.out⟩
/-- Each once. -/
def dd : List (List UInt8) → List (List UInt8)
  | [] => []
  | x :: l => if x ∈ dd l then dd l else x :: dd l
end Go.Proofs.YtjmpjfggbhongaaDoor
namespace Go.Proofs.YtjmpjfggbhongaaDoor
open Go.RowKit Go.Shelf Go.Maps Go.Sort
set_option linter.unusedVariables false
set_option maxRecDepth 100000 in
set_option maxHeartbeats 4000000 in
theorem Free_c (d : Nat) (a : Tr (d + 1)) (va : Value) (L : List (List UInt8)) (hnd : L.Nodup) (hLl : L.length ≤ 1000000) (hL : ∀ x, freeM (d + 1) a [] x = decide (x ∈ L)) (B : Nat) (w : World) (ha : ExVal w B d a va) (hw : B ≤ w.heap.size) (hN : NmOK (d + 1) a) (hca : 2 * costM (d + 1) a ≤ 2000000) (hza : sizeM (d + 1) a ≤ 900000) (hd : d + 1 ≤ 4096) :
    Calls Tryd.prog 22 #[va] w fun e w' => ∃ v, e = .returned v ∧ w'.ownsRow w.heap.size 9 1 v L.length ((L.mergeSort leB).map encStr) ∧ Below w.heap.size w w' := by
  obtain ⟨o3, c3, o4, c4, o5, c5, o6, c6, ea, -⟩ := id ha
  subst ea
  obtain ⟨V, hV⟩ : ∃ V, w.alloc (.cells #[.int .i64 (TrN.kind a), .string (TrN.name a), .int .i64 (TrN.num a), .slice o3 (TrN.params a).length c3, .slice o4 (TrN.binds a).length c4, .slice o5 (TrN.args a).length c5, .slice o6 (TrN.alts a).length c6] 29) = V := ⟨_, rfl⟩
  have k0 : Blk V w.heap.size #[.int .i64 (TrN.kind a), .string (TrN.name a), .int .i64 (TrN.num a), .slice o3 (TrN.params a).length c3, .slice o4 (TrN.binds a).length c4, .slice o5 (TrN.args a).length c5, .slice o6 (TrN.alts a).length c6] 29 := by rw [← hV]; exact Blk.new w _ _
  have b0 : Below w.heap.size w V := by rw [← hV]; exact below1 w _
  have hVs : V.heap.size = w.heap.size + 1 := by rw [← hV]; exact Array.size_push _
  have hcell : ∀ g off, g < B → V.cell? ⟨g, off, none⟩ = w.cell? ⟨g, off, none⟩ := fun g off hg => cell_of_block (b0.block g (by omega)) off
  have xa : ExAt V (w.heap.size + 1) (d + 1) a w.heap.size 0 := (ha.same hcell).at hw k0
  have HA : Hid (Calls Tryd.prog 34 #[.pointer (some ⟨w.heap.size, 0, none⟩)] V fun e w' => e = .returned (.bool true) ∧ Below V.heap.size V w') := fits_c (d + 1) a (w.heap.size + 1) w.heap.size 0 V xa (by omega) (by omega) hd
  have HF : Hid (∀ X : World, Below V.heap.size V X → Calls Tryd.prog 39 #[.pointer (some ⟨w.heap.size, 0, none⟩)] X fun e w' => ∃ f cf, e = .returned (.map (some f)) ∧ w.heap.size ≤ f ∧ cf ≤ 900000 ∧ SetIs w' f cf (fun x => decide (x ∈ L)) ∧ Below V.heap.size V w') := fun X hX => by
    refine (freeIn_c (d + 1) a hN hca (by omega) (w.heap.size + 1) w.heap.size 0 X (xa.below (hX.mono (by omega))) (by have := hX.size; omega) (by have := hX.size; omega)).mono ?_
    rintro e w' ⟨f, cf, rfl, h1, h2, h3, h4⟩
    have e9 : freeM (d + 1) a [] = fun x => decide (x ∈ L) := funext hL
    rw [e9] at h3
    exact ⟨f, cf, rfl, by omega, by omega, h3, hX.trans (h4.mono hX.size)⟩
  have HB : Hid (Below w.heap.size w V ∧ L.Nodup ∧ L.length ≤ 1000000 ∧ V.heap.size = w.heap.size + 1) := ⟨b0, hnd, hLl, hVs⟩
  clear ha hN hca hza k0 b0 xa hcell hnd hLl hL hVs
  go_enter Tryd.func22, Tryd.ntmps22
  go_wp2_with (go_at_call 34; fail)
  (try rw [hV])
  refine HA.out.mono ?_
  rintro e w1 ⟨rfl, h1⟩
  have H1 : Hid (Below V.heap.size V w1) := h1
  clear h1 HA
  go_wp2_with (go_at_call 39; fail)
  refine (HF.out w1 H1.out).mono ?_
  rintro e w2 ⟨f, cf, rfl, hf, hcf, hs, h2⟩
  have hst := keysS_stops Fence.wide 3 (fun _ => trivial) rfl (by omega) L HB.out.2.1 f cf w2 hs
  have HS := sorted4_c L HB.out.2.2.1 cf (by omega) _ _ hst
  have H2 : Hid (Below w.heap.size w w2 ∧ Below w2.heap.size w2 (w2.alloc (.cells #[.map (some f)] 84))) := ⟨HB.out.1.trans (h2.mono HB.out.1.size), below1 w2 _⟩
  have HSh : Hid (Calls Tryd.prog 37 #[.func (.func 62) #[] #[.pointer (some ⟨w2.heap.size, 0, none⟩)]] (w2.alloc (.cells #[.map (some f)] 84)) fun e W' => ∃ v, e = .returned v ∧ W'.ownsRow (w2.alloc (.cells #[.map (some f)] 84)).heap.size 9 1 v L.length ((L.mergeSort leB).map encStr) ∧ Below (w2.alloc (.cells #[.map (some f)] 84)).heap.size (w2.alloc (.cells #[.map (some f)] 84)) W') := HS
  have HK : Hid (Calls Tryd.prog 38 #[.map (some f)] w2 fun e w' => e = .returned (.func (.func 62) #[] #[.pointer (some ⟨w2.heap.size, 0, none⟩)]) ∧ w' = w2.alloc (.cells #[.map (some f)] 84)) := callsIn_wide.1 (keysS_in Fence.wide 3 (fun _ => trivial) rfl f w2)
  clear hst HS hf hcf hs h2 HF H1
  go_wp2_with (go_at_call 38; fail)
  refine HK.out.mono ?_
  rintro e w3 ⟨rfl, hw3⟩
  subst hw3
  clear HK
  go_wp2_with (go_at_call 37; fail)
  refine HSh.out.mono ?_
  rintro e w4 ⟨v, rfl, hr, hb4⟩
  have H4 : Hid (w4.ownsRow w.heap.size 9 1 v L.length ((L.mergeSort leB).map encStr) ∧ Below w.heap.size w w4) := by
    have h5 := H2.out
    have h6 := h5.1.trans (h5.2.mono h5.1.size)
    exact ⟨owns_mono4 hr h6.size, h6.trans (hb4.mono h6.size)⟩
  clear hr hb4 HSh
  go_wp2
  go_ret
  exact ⟨_, rfl, H4.out⟩
end Go.Proofs.YtjmpjfggbhongaaDoor
namespace Go.Proofs.YtjmpjfggbhongaaDoor
open Go.RowKit Go.Shelf Go.Maps
set_option linter.unusedVariables false
theorem infoStr7 : (Tryd.prog.info? 9).map (fun i => (i.zero, i.size, i.bytes)) = some (some (.string ⟨#[]⟩), 1, 16) := by kernel_rfl
set_option maxRecDepth 100000 in
set_option maxHeartbeats 4000000 in
theorem boundBy_c (d : Nat) (l : List (ByteArray × Tr d)) (o : Option Addr) (cap B : Nat) (w : World) (hl : RowIn B 8 (fun (b : ByteArray × Tr d) g off => w.cell? ⟨g, off, none⟩ = some (.string b.1) ∧ ExAt w B d b.2 g (off + 1)) o l) (hw : B ≤ w.heap.size) (hn : l.length ≤ 2000000) :
    Calls Tryd.prog 36 #[.slice o l.length cap] w fun e w' => e = .returned (.slice (some ⟨w.heap.size, 0, none⟩) l.length l.length) ∧ TxIn w' (w.heap.size + 1) (some ⟨w.heap.size, 0, none⟩) (l.map Prod.fst) ∧ Below w.heap.size w w' := by
  obtain ⟨n, hln⟩ : ∃ n, l.length = n := ⟨_, rfl⟩
  have hmk : ∀ W : World, (Instr.makeSlice 24 (.int .i64 (n : Int)) (.int .i64 (n : Int))).run Tryd.prog W = .ok (.slice (some ⟨W.heap.size, 0, none⟩) n n) (W.alloc (.cells (madeCells #[.string ⟨#[]⟩] n) 9)) := fun W => run_make_row' 24 9 (.string ⟨#[]⟩) 16 Tryd.underlying24 infoStr7 rfl .i64 .i64 n (by omega) (by omega) W
  have HL : Hid (RowIn B 8 (fun (b : ByteArray × Tr d) g off => w.cell? ⟨g, off, none⟩ = some (.string b.1) ∧ ExAt w B d b.2 g (off + 1)) o l ∧ B ≤ w.heap.size ∧ l.length = n) := ⟨hl, hw, hln⟩
  have hni : (n : Int) ≤ 2000000 := by omega
  have H0 : Hid (Blk (w.alloc (.cells (madeCells #[.string ⟨#[]⟩] n) 9)) w.heap.size (madeCells #[.string ⟨#[]⟩] n) 9 ∧ (madeCells #[.string ⟨#[]⟩] n).size = n ∧ Below w.heap.size w (w.alloc (.cells (madeCells #[.string ⟨#[]⟩] n) 9))) := ⟨Blk.new w _ _, size_madeCells _ _, below1 w _⟩
  rw [hln]
  clear hl hw hn hln
  go_enter Tryd.func36, Tryd.ntmps36
  go_wp2
  clear hmk
  go_loopw [10] (fun v wr => ∃ k : Nat, v = .int .i64 (k : Int) ∧ Hid (k ≤ n ∧ ∃ arr : Array Value, Blk wr w.heap.size arr 9 ∧ arr.size = n ∧ (∀ i (h : i < l.length), i < k → arr[i]? = some (.string l[i].1)) ∧ Below w.heap.size w wr)) (fun v _ => n - (intOf v).toNat)
  case atStart => exact ⟨0, rfl, ⟨Nat.zero_le _, _, H0.out.1, H0.out.2.1, fun i h hi => by omega, H0.out.2.2⟩⟩
  case round =>
    clear H0
    obtain ⟨k, rfl, HI⟩ := hrel
    by_cases hk : k < n
    · obtain ⟨-, arr, h1, h2, h3, h4⟩ := HI.out
      have hkl : k < l.length := by rw [HL.out.2.2]; exact hk
      obtain ⟨g, off, rfl, hg, hx⟩ : ∃ g off, o = some ⟨g, off, none⟩ ∧ g < B ∧ w.cell? ⟨g, off + k * 8, none⟩ = some (.string l[k].1) := by
        rcases HL.out.1 with h9 | ⟨g, off, e, hg, h9⟩
        · rw [h9] at hkl; exact absurd hkl (Nat.not_lt_zero _)
        · exact ⟨g, off, e, hg, (h9 k hkl).1⟩
      have hgw : g < wr.heap.size := by have := h4.size; have := HL.out.2.1; omega
      have hcx : wr.cell? ⟨g, off + k * 8, none⟩ = some (.string l[k].1) := (h4.cell (p := ⟨g, off + k * 8, none⟩) (by show g < w.heap.size; have := HL.out.2.1; omega)).trans hx
      obtain ⟨old, hold⟩ : ∃ old, arr[k]? = some old := ⟨_, Array.getElem?_eq_getElem (by omega)⟩
      have hco : wr.cell? ⟨w.heap.size, k, none⟩ = some old := h1.cell k _ hold
      have hfo : wr.frozen? ⟨w.heap.size, k, none⟩ = false := h1.frozen k
      have hlo := h1.lt
      have hki : (k : Int) < (n : Int) := by omega
      obtain ⟨nm, hnm⟩ : ∃ nm, l[k].1 = nm := ⟨_, rfl⟩
      rw [hnm] at hcx
      have HK : Hid (k < n ∧ ∃ h : k < l.length, l[k].1 = nm) := ⟨hk, hkl, hnm⟩
      clear h1 h2 h3 h4 hk hx hold hnm hkl
      go_wp2
      refine ⟨⟨k + 1, by congr 1, ⟨HK.out.1, ?_⟩⟩, ?_⟩
      · obtain ⟨-, arr, h1, h2, h3, h4⟩ := HI.out
        refine ⟨arr.setIfInBounds k (.string nm), h1.set k _, by simpa using h2, fun i hi hik => ?_, h4.setCell (p := ⟨w.heap.size, k, none⟩) (Nat.le_refl _) _⟩
        obtain ⟨q1, q2⟩ := HK.out.2
        by_cases e : i = k
        · subst e
          rw [Array.getElem?_setIfInBounds_self_of_lt (by have := HK.out.1; omega), q2]
        · rw [Array.getElem?_setIfInBounds_ne (Ne.symm e)]
          exact h3 i hi (by omega)
      · show n - ((k : Int) + 1).toNat < n - ((k : Int)).toNat
        have := HK.out.1; omega
    · have hki : ¬ (k : Int) < (n : Int) := by omega
      have HX : Hid (TxIn wr (w.heap.size + 1) (some ⟨w.heap.size, 0, none⟩) (l.map Prod.fst) ∧ Below w.heap.size w wr) := by
        obtain ⟨q0, arr, h1, h2, h3, h4⟩ := HI.out
        refine ⟨.inr ⟨w.heap.size, 0, rfl, by omega, fun i hi => ?_⟩, h4⟩
        rw [List.length_map] at hi
        rw [Nat.zero_add, List.getElem_map]
        exact h1.cell i _ (h3 i hi (by have := HL.out.2.2; omega))
      clear hk
      go_wp2
      go_ret
      exact ⟨rfl, HX.out⟩
end Go.Proofs.YtjmpjfggbhongaaDoor
namespace Go.Proofs.YtjmpjfggbhongaaDoor
open Go.RowKit Go.Shelf Go.Maps
set_option linter.unusedVariables false
/-- May a name be? -/
def nameB (l : List UInt8) : Bool := decide (1 ≤ l.length) && decide (l.length ≤ 65536) && l.all (fun b => decide (33 ≤ b.toNat) && decide (b.toNat ≤ 126))
set_option maxRecDepth 100000 in
set_option maxHeartbeats 4000000 in
theorem isName_c (s : ByteArray) (hs : s.size ≤ 9223372036854775807) (w : World) : Calls Tryd.prog 75 #[.string s] w fun e w' => e = .returned (.bool (nameB s.data.toList)) ∧ w' = w := by
  obtain ⟨n, hn⟩ : ∃ n, s.size = n := ⟨_, rfl⟩
  have hl : s.data.toList.length = s.size := by rw [Array.length_toList]; rfl
  have HN : Hid (s.size = n ∧ s.data.toList.length = n) := ⟨hn, hl.trans hn⟩
  have hszi : (s.size : Int) = (n : Int) := by omega
  have hni : (n : Int) ≤ 9223372036854775807 := by omega
  clear hl
  by_cases h1 : n < 1
  · have HX : Hid (nameB s.data.toList = false) := by
      show _ = _
      unfold nameB; rw [HN.out.2, decide_eq_false (by omega : ¬ 1 ≤ n)]; rfl
    have h1i : (n : Int) < 1 := by omega
    go_enter Tryd.func75, Tryd.ntmps75
    go_wp2
    go_ret
    rw [HX.out]
    exact ⟨rfl, rfl⟩
  · have h1i : ¬ (n : Int) < 1 := by omega
    by_cases h2 : 65536 < n
    · have HX : Hid (nameB s.data.toList = false) := by
        show _ = _
        unfold nameB; rw [HN.out.2, decide_eq_false (by omega : ¬ n ≤ 65536), Bool.and_false]; rfl
      have h2i : (n : Int) > 65536 := by omega
      have h2j : (65536 : Int) < (n : Int) := by omega
      go_enter Tryd.func75, Tryd.ntmps75
      go_wp2
      go_ret
      rw [HX.out]
      exact ⟨rfl, rfl⟩
    · have h2i : ¬ (n : Int) > 65536 := by omega
      have h2j : ¬ (65536 : Int) < (n : Int) := by omega
      have HE : Hid (nameB s.data.toList = s.data.toList.all (fun b => decide (33 ≤ b.toNat) && decide (b.toNat ≤ 126))) := by
        show _ = _
        unfold nameB; rw [HN.out.2, decide_eq_true (by omega : 1 ≤ n), decide_eq_true (by omega : n ≤ 65536)]; rfl
      clear h1 h2
      go_enter Tryd.func75, Tryd.ntmps75
      go_wp2
      go_loopw [14] (fun v wr => ∃ k : Nat, v = .int .i64 (k : Int) ∧ wr = w ∧ Hid (k ≤ n ∧ (s.data.toList.take k).all (fun b => decide (33 ≤ b.toNat) && decide (b.toNat ≤ 126)) = true)) (fun v _ => n - (intOf v).toNat)
      case atStart => exact ⟨0, rfl, rfl, ⟨Nat.zero_le _, rfl⟩⟩
      case round =>
        obtain ⟨k, rfl, hwr, HI⟩ := hrel
        have hwr := hwr.symm
        subst hwr
        by_cases hk : k < n
        · have hki : (k : Int) < (n : Int) := by omega
          have hks : k < s.size := by have := HN.out.1; omega
          have hkl : k < s.data.toList.length := by have := HN.out.2; omega
          have HT : Hid (s.data.toList.take (k + 1) = s.data.toList.take k ++ [(s[k]'hks)] ∧ (s[k]'hks) ∈ s.data.toList ∧ k < n) := ⟨by rw [List.take_succ_eq_append_getElem hkl]; rfl, by have := List.getElem_mem hkl; exact this, hk⟩
          clear hk hkl
          by_cases hb : 33 ≤ (s[k]'hks).toNat ∧ (s[k]'hks).toNat ≤ 126
          · have HB : Hid (33 ≤ (s[k]'hks).toNat ∧ (s[k]'hks).toNat ≤ 126) := hb
            have i1 : ¬ (((s[k]'hks).toNat : Int) < 33) := by omega
            have i2 : ¬ ((126 : Int) < ((s[k]'hks).toNat : Int)) := by omega
            clear hb
            go_wp2
            refine ⟨⟨k + 1, by congr 1, trivial, ⟨HT.out.2.2, ?_⟩⟩, ?_⟩
            · rw [HT.out.1, List.all_append, HI.out.2]
              simp [HB.out.1, HB.out.2]
            · show n - ((k : Int) + 1).toNat < n - ((k : Int)).toNat
              have := HT.out.2.2; omega
          · have HX : Hid (nameB s.data.toList = false) := by
              show _ = _
              rw [HE.out]
              cases e : s.data.toList.all (fun b => decide (33 ≤ b.toNat) && decide (b.toNat ≤ 126)) with
              | false => rfl
              | true =>
                have := List.all_eq_true.1 e _ HT.out.2.1
                simp at this
                exact absurd this hb
            by_cases h3 : (s[k]'hks).toNat < 33
            · have i1 : ((s[k]'hks).toNat : Int) < 33 := by omega
              clear hb h3
              go_wp2
              go_ret
              rw [HX.out]
              exact ⟨rfl, rfl⟩
            · have i1 : ¬ (((s[k]'hks).toNat : Int) < 33) := by omega
              have i2 : (126 : Int) < ((s[k]'hks).toNat : Int) := by omega
              clear hb h3
              go_wp2
              go_ret
              rw [HX.out]
              exact ⟨rfl, rfl⟩
        · have hki : ¬ (k : Int) < (n : Int) := by omega
          have HX : Hid (nameB s.data.toList = true) := by
            show _ = _
            have h1 := HI.out.2
            rw [List.take_of_length_le (by have := HN.out.2; omega)] at h1
            rw [HE.out]; exact h1
          clear hk
          go_wp2
          go_ret
          rw [HX.out]
          exact ⟨rfl, rfl⟩
end Go.Proofs.YtjmpjfggbhongaaDoor
namespace Go.Proofs.YtjmpjfggbhongaaDoor
open Go.RowKit Go.Shelf Go.Maps
set_option linter.unusedVariables false
/-- A set of these names, with its size. -/
def DS (W : World) (b : Nat) (ms : List (List UInt8)) : Prop := ∃ (c : Nat) (D : DataW Value), c ≤ ms.length ∧ W.ownsMap Tryd.prog 9 heldElem b c D ∧ Maps.IsMap D ∧ (∀ x, Maps.has D (.string x) = decide (x ∈ ms)) ∧ Maps.size D ≤ ms.length ∧ (Maps.size D = ms.length ↔ ms.Nodup)
theorem ds_new (W : World) : DS (W.alloc (.map #[] 0)) W.heap.size [] := ⟨0, .map [], Nat.le_refl _, World.ownsMap_made W Tryd.prog 9 heldElem, ⟨_, rfl⟩, fun x => rfl, Nat.le_refl _, ⟨fun _ => .nil, fun _ => rfl⟩⟩
theorem DS.upd {W : World} {b : Nat} {ms : List (List UInt8)} (h : DS W b ms) (hc : ms.length ≤ 3000000) (s : ByteArray) (hs : s.size ≤ maxLen) :
    ∃ W', (Instr.mapUpdate 84 (.map (some b)) (.string s) (.agg #[])).run Tryd.prog W = .ok () W' ∧ DS W' b (ms ++ [s.data.toList]) ∧ W.grownBy W' (some b) := by
  obtain ⟨c, D, h0, hown, hD, hhas, hsz, hnd⟩ := h
  have hkey : keyOf Tryd.prog 9 (.string s) = some (.string s.data.toList) := by
    have hs2 : s.size ≤ 9223372036854775807 := by unfold maxLen at hs; omega
    simp [keyOf, mapKey, Tryd.underlying9, maxLen, hs2]
  obtain ⟨W', hrun, r1, r2⟩ := hown.update (string_keyed Tryd.underlying9) Tryd.underlying84 (by unfold maxLen; omega) hkey (show heldElem (.agg #[]) = some (.held (.agg #[]), []) from rfl)
  have htidy := hown.tidy (string_keyed Tryd.underlying9)
  have hput := Maps.size_put (k := .string s.data.toList) htidy (.held (.agg #[]))
  rw [hhas] at hput
  generalize s.data.toList = nm at hput r1 ⊢
  refine ⟨W', hrun, ⟨c + 1, _, by simp; omega, r1, ?_, fun x => ?_, ?_, ?_⟩, r2⟩
  · obtain ⟨es, rfl⟩ := hD
    exact ⟨_, rfl⟩
  · by_cases hx : x = nm
    · subst hx
      rw [Maps.has_put_same hD (by constructor)]; simp
    · rw [Maps.has_put_other (by simpa using hx), hhas x]; simp [hx]
  · rw [hput]; simp; split <;> omega
  · rw [hput]
    by_cases hx : nm ∈ ms
    · simp only [hx, decide_true, if_true, List.length_append, List.length_cons, List.length_nil]
      constructor
      · intro e; omega
      · intro hn
        exact absurd rfl ((List.nodup_append.1 hn).2.2 nm hx nm (by simp))
    · simp only [hx, decide_false, List.length_append, List.length_cons, List.length_nil]
      constructor
      · intro e
        have : ms.Nodup := hnd.1 (by simpa using e)
        exact List.nodup_append.2 ⟨this, by simp, fun a ha b hb => by simp at hb; subst hb; intro e2; exact hx (e2 ▸ ha)⟩
      · intro hn
        have := hnd.2 (List.nodup_append.1 hn).1
        simpa using this
theorem DS.len {W : World} {b : Nat} {ms : List (List UInt8)} (h : DS W b ms) (ty : TypeId) : ∃ k : Nat, (Builtin.len_ #[84] ty #[.map (some b)]).run Tryd.prog W = .ok (.int .i64 (k : Int)) W ∧ k ≤ ms.length ∧ (k = ms.length ↔ ms.Nodup) := by
  obtain ⟨c, D, h0, hown, hD, hhas, hsz, hnd⟩ := h
  exact ⟨Maps.size D, hown.len Tryd.underlying84 ty, hsz, hnd⟩
theorem mmS_run (n : Nat) (W : World) (hn : n ≤ 4611686018427387904) : (Instr.makeMap 84 (some (.int .i64 n))).run Tryd.prog W = .ok (.map (some W.heap.size)) (W.alloc (.map #[] 0)) := by
  simp [Instr.makeMap, go_sem]
set_option maxRecDepth 100000 in
set_option maxHeartbeats 4000000 in
theorem distinct_c (l : List ByteArray) (o : Option Addr) (cap B : Nat) (w : World) (hl : TxIn w B o l) (hw : B ≤ w.heap.size) (hn : l.length ≤ 2000000) (hz : ∀ x ∈ l, x.size ≤ maxLen) :
    Calls Tryd.prog 95 #[.slice o l.length cap] w fun e w' => e = .returned (.bool (decide ((dl l).Nodup))) ∧ Below w.heap.size w w' := by
  obtain ⟨n, hln⟩ : ∃ n, l.length = n := ⟨_, rfl⟩
  have HN : Hid (TxIn w B o l ∧ B ≤ w.heap.size ∧ l.length = n ∧ (∀ x ∈ l, x.size ≤ maxLen) ∧ n ≤ 2000000) := ⟨hl, hw, hln, hz, by omega⟩
  have hni : (n : Int) ≤ 2000000 := by omega
  have hmm : ∀ W : World, (Instr.makeMap 84 (some (.int .i64 (n : Int)))).run Tryd.prog W = .ok (.map (some W.heap.size)) (W.alloc (.map #[] 0)) := fun W => mmS_run n W (by omega)
  have H0 : Hid (DS (w.alloc (.map #[] 0)) w.heap.size [] ∧ Below w.heap.size w (w.alloc (.map #[] 0))) := ⟨ds_new w, below1 w _⟩
  rw [hln]
  clear hl hw hln hn hz
  go_enter Tryd.func95, Tryd.ntmps95
  go_wp2
  go_loopw [11] (fun v wr => ∃ k : Nat, v = .int .i64 (k : Int) ∧ Hid (k ≤ n ∧ DS wr w.heap.size (dl (l.take k)) ∧ Below w.heap.size w wr)) (fun v _ => n - (intOf v).toNat)
  case atStart => exact ⟨0, rfl, ⟨Nat.zero_le _, H0.out.1, H0.out.2⟩⟩
  case round =>
    clear H0 hmm
    obtain ⟨k, rfl, HI⟩ := hrel
    by_cases hk : k < n
    · have hkl : k < l.length := by rw [HN.out.2.2.1]; exact hk
      obtain ⟨g, off, rfl, hg, hx⟩ : ∃ g off, o = some ⟨g, off, none⟩ ∧ g < B ∧ w.cell? ⟨g, off + k, none⟩ = some (.string l[k]) := by
        rcases HN.out.1 with h9 | ⟨g, off, e, hg, h9⟩
        · rw [h9] at hkl; exact absurd hkl (Nat.not_lt_zero _)
        · exact ⟨g, off, e, hg, h9 k hkl⟩
      have hgw : g < w.heap.size := by have := HN.out.2.1; omega
      have hcx := (HI.out.2.2.cell (p := ⟨g, off + k, none⟩) hgw).trans hx
      have hgr : g < wr.heap.size := Nat.lt_of_lt_of_le hgw HI.out.2.2.size
      obtain ⟨W2, hr2, hp2, hg2⟩ := HI.out.2.1.upd (by unfold dl; rw [List.length_map, List.length_take]; have := HN.out.2.2.2.2; omega) l[k] (HN.out.2.2.2.1 _ (List.getElem_mem hkl))
      have H2 : Hid (DS W2 w.heap.size (dl (l.take (k + 1))) ∧ Below w.heap.size w W2 ∧ k < n) := ⟨by rw [List.take_succ_eq_append_getElem hkl]; unfold dl; rw [List.map_append]; exact hp2, HI.out.2.2.grown hg2 HI.out.2.2.size (fun j hj => by cases hj; exact Nat.le_refl _), hk⟩
      have hki : (k : Int) < (n : Int) := by omega
      generalize l[k] = nk at hcx hr2
      clear hp2 hg2 hk hx hkl hg hgw
      go_wp2
      refine ⟨⟨k + 1, by congr 1, ⟨H2.out.2.2, H2.out.1, H2.out.2.1⟩⟩, ?_⟩
      show n - ((k : Int) + 1).toNat < n - ((k : Int)).toNat
      have := H2.out.2.2; omega
    · have hki : ¬ (k : Int) < (n : Int) := by omega
      have hke : l.take k = l := List.take_of_length_le (by have := HN.out.2.2.1; omega)
      have hds := HI.out.2.1
      rw [hke] at hds
      obtain ⟨q, hq1, hq2, hq3⟩ := hds.len 3
      have hdl : (dl l).length = n := by unfold dl; rw [List.length_map]; exact HN.out.2.2.1
      rw [hdl] at hq2 hq3
      have hqi : (q : Int) ≤ 2000000 := by omega
      have HQ : Hid (q = n ↔ (dl l).Nodup) := hq3
      clear hk hke hds hdl hq3 hq2
      by_cases hqn : q = n
      · have HX : Hid ((dl l).Nodup) := HQ.out.1 hqn
        subst hqn
        clear HQ
        go_wp2
        go_ret
        exact ⟨by rw [decide_eq_true HX.out]; first | rfl | simp, HI.out.2.2⟩
      · have e1 : ¬ (q : Int) = (n : Int) := by omega
        have e2 : ((q : Int) == (n : Int)) = false := by simp; omega
        have HX : Hid (¬ (dl l).Nodup) := fun h9 => hqn (HQ.out.2 h9)
        clear hqn HQ
        go_wp2
        go_ret
        exact ⟨by rw [decide_eq_false HX.out]; first | rfl | simp, HI.out.2.2⟩
/-- Names, none twice. -/
def areB (l : List ByteArray) : Bool := l.all (fun s => nameB s.data.toList) && decide ((dl l).Nodup)
set_option maxRecDepth 100000 in
set_option maxHeartbeats 4000000 in
theorem areNames_c (l : List ByteArray) (o : Option Addr) (cap B : Nat) (w : World) (hl : TxIn w B o l) (hw : B ≤ w.heap.size) (hn : l.length ≤ 2000000) (hz : ∀ x ∈ l, x.size ≤ maxLen) :
    Calls Tryd.prog 77 #[.slice o l.length cap] w fun e w' => e = .returned (.bool (areB l)) ∧ Below w.heap.size w w' := by
  have HD : Hid (Calls Tryd.prog 95 #[.slice o l.length cap] w fun e w' => e = .returned (.bool (decide ((dl l).Nodup))) ∧ Below w.heap.size w w') := distinct_c l o cap B w hl hw hn hz
  obtain ⟨n, hln⟩ : ∃ n, l.length = n := ⟨_, rfl⟩
  have HN : Hid (TxIn w B o l ∧ B ≤ w.heap.size ∧ l.length = n ∧ (∀ x ∈ l, x.size ≤ maxLen)) := ⟨hl, hw, hln, hz⟩
  have hni : (n : Int) ≤ 2000000 := by omega
  rw [hln] at HD ⊢
  clear hl hw hln hn hz
  go_enter Tryd.func77, Tryd.ntmps77
  go_wp2
  go_loopw [7] (fun v wr => ∃ k : Nat, v = .int .i64 (k : Int) ∧ wr = w ∧ Hid (k ≤ n ∧ (l.take k).all (fun s => nameB s.data.toList) = true)) (fun v _ => n - (intOf v).toNat)
  case atStart => exact ⟨0, rfl, rfl, ⟨Nat.zero_le _, rfl⟩⟩
  case round =>
    obtain ⟨k, rfl, hwr, HI⟩ := hrel
    have hwr := hwr.symm
    subst hwr
    by_cases hk : k < n
    · have hkl : k < l.length := by rw [HN.out.2.2.1]; exact hk
      obtain ⟨g, off, rfl, hg, hx⟩ : ∃ g off, o = some ⟨g, off, none⟩ ∧ g < B ∧ w.cell? ⟨g, off + k, none⟩ = some (.string l[k]) := by
        rcases HN.out.1 with h9 | ⟨g, off, e, hg, h9⟩
        · rw [h9] at hkl; exact absurd hkl (Nat.not_lt_zero _)
        · exact ⟨g, off, e, hg, h9 k hkl⟩
      have hgw : g < w.heap.size := by have := HN.out.2.1; omega
      have hki : (k : Int) < (n : Int) := by omega
      obtain ⟨nk, hnk⟩ : ∃ nk, l[k] = nk := ⟨_, rfl⟩
      have HC : Hid (Calls Tryd.prog 75 #[.string nk] w fun e w' => e = .returned (.bool (nameB nk.data.toList)) ∧ w' = w) := isName_c nk (by have := HN.out.2.2.2 _ (List.getElem_mem hkl); rw [hnk] at this; unfold maxLen at this; omega) w
      have HT : Hid (k < n ∧ l.take (k + 1) = l.take k ++ [nk] ∧ nk ∈ l) := ⟨hk, by rw [List.take_succ_eq_append_getElem hkl, hnk], by rw [← hnk]; exact List.getElem_mem hkl⟩
      rw [hnk] at hx
      clear hk hkl hg hnk
      go_wp2_with (go_at_call 75; fail)
      refine HC.out.mono ?_
      rintro e w1 ⟨rfl, hw1⟩
      have hw2 := hw1.symm
      subst hw2
      clear hw1 HC
      cases hb : nameB nk.data.toList with
      | true =>
        have HB : Hid (nameB nk.data.toList = true) := hb
        clear hb
        go_wp2
        refine ⟨⟨k + 1, by congr 1, trivial, ⟨HT.out.1, ?_⟩⟩, ?_⟩
        · rw [HT.out.2.1, List.all_append, HI.out.2]
          simp [HB.out]
        · show n - ((k : Int) + 1).toNat < n - ((k : Int)).toNat
          have := HT.out.1; omega
      | false =>
        have HX : Hid (areB l = false) := by
          show _ = _
          unfold areB
          have : l.all (fun s => nameB s.data.toList) = false := by
            cases e : l.all (fun s => nameB s.data.toList) with
            | false => rfl
            | true => have := List.all_eq_true.1 e nk HT.out.2.2; rw [hb] at this; cases this
          rw [this]; rfl
        clear hb
        go_wp2
        go_ret
        exact ⟨by rw [HX.out]; rfl, Below.refl _ _⟩
    · have hki : ¬ (k : Int) < (n : Int) := by omega
      have HX : Hid (areB l = decide ((dl l).Nodup)) := by
        show _ = _
        have h1 := HI.out.2
        rw [List.take_of_length_le (by have := HN.out.2.2.1; omega)] at h1
        unfold areB; rw [h1, Bool.true_and]
      clear hk
      go_wp2_with (go_at_call 95; fail)
      refine HD.out.mono ?_
      rintro e w1 ⟨rfl, hb1⟩
      have HB1 : Hid (Below w.heap.size w w1) := hb1
      clear hb1
      go_wp2
      go_ret
      exact ⟨by rw [HX.out]; rfl, HB1.out⟩
end Go.Proofs.YtjmpjfggbhongaaDoor
namespace Go.Proofs.YtjmpjfggbhongaaDoor
open Go.RowKit Go.Shelf Go.Maps
set_option linter.unusedVariables false
/-- The fields of a kind. -/
def fieldsM (k : Int) : Nat := if k = 1 then 1 else if k = 2 then 2 else if k = 3 then 2 else if k = 4 then 17 else if k = 9 then 17 else if k = 5 then 20 else if k = 6 then 16 else if k = 7 then 24 else if k = 8 then 48 else 0
set_option maxRecDepth 100000 in
set_option maxHeartbeats 2000000 in
theorem fieldsOf_c (k : Int) (w : World) : Calls Tryd.prog 74 #[.int .i64 k] w fun e w' => e = .returned (.int .i64 (fieldsM k : Nat)) ∧ w' = w := by
  go_enter Tryd.func74, Tryd.ntmps74
  unfold fieldsM
  by_cases h1 : k = 1
  · subst h1; go_wp2; go_ret; exact ⟨rfl, rfl⟩
  by_cases h2 : k = 2
  · subst h2; go_wp2; go_ret; exact ⟨rfl, rfl⟩
  by_cases h3 : k = 3
  · subst h3; go_wp2; go_ret; exact ⟨rfl, rfl⟩
  by_cases h4 : k = 4
  · subst h4; go_wp2; go_ret; exact ⟨rfl, rfl⟩
  by_cases h9 : k = 9
  · subst h9; go_wp2; go_ret; exact ⟨rfl, rfl⟩
  by_cases h5 : k = 5
  · subst h5; go_wp2; go_ret; exact ⟨rfl, rfl⟩
  by_cases h6 : k = 6
  · subst h6; go_wp2; go_ret; exact ⟨rfl, rfl⟩
  by_cases h7 : k = 7
  · subst h7; go_wp2; go_ret; exact ⟨rfl, rfl⟩
  by_cases h8 : k = 8
  · subst h8; go_wp2; go_ret; exact ⟨rfl, rfl⟩
  have e1 : (k == 1) = false := beq_eq_false_iff_ne.2 h1
  have e2 : (k == 2) = false := beq_eq_false_iff_ne.2 h2
  have e3 : (k == 3) = false := beq_eq_false_iff_ne.2 h3
  have e4 : (k == 4) = false := beq_eq_false_iff_ne.2 h4
  have e5 : (k == 5) = false := beq_eq_false_iff_ne.2 h5
  have e6 : (k == 6) = false := beq_eq_false_iff_ne.2 h6
  have e7 : (k == 7) = false := beq_eq_false_iff_ne.2 h7
  have e8 : (k == 8) = false := beq_eq_false_iff_ne.2 h8
  have e9 : (k == 9) = false := beq_eq_false_iff_ne.2 h9
  rw [if_neg h1, if_neg h2, if_neg h3, if_neg h4, if_neg h9, if_neg h5, if_neg h6, if_neg h7, if_neg h8]
  go_wp2; go_ret; exact ⟨rfl, rfl⟩
/-- Which fields are filled. -/
def fbit (b : Bool) (k : Nat) : Nat := if b then k else 0
def fillK (b : Nat → Bool) : Nat → Nat
  | 0 => 0
  | k + 1 => fillK b k + fbit (b k) (2 ^ k)
def fillB {T : Type} (t : TrN T) : Nat → Bool
  | 0 => !t.name.toList.isEmpty
  | 1 => t.num != 0
  | 2 => decide (0 < t.params.length)
  | 3 => decide (0 < t.binds.length)
  | 4 => decide (0 < t.args.length)
  | _ => decide (0 < t.alts.length)
theorem orK0 (b : Nat → Bool) : bits BinOp.or IntKind.i64 ((fillK b 0 : Nat) : Int) 1 = ((fillK b 0 + 1 : Nat) : Int) := by
  kernel_rfl
theorem orK1 (b : Nat → Bool) : bits BinOp.or IntKind.i64 ((fillK b 1 : Nat) : Int) 2 = ((fillK b 1 + 2 : Nat) : Int) := by
  simp only [fillK, fbit]
  cases b 0 <;> kernel_rfl
theorem orK2 (b : Nat → Bool) : bits BinOp.or IntKind.i64 ((fillK b 2 : Nat) : Int) 4 = ((fillK b 2 + 4 : Nat) : Int) := by
  simp only [fillK, fbit]
  cases b 0 <;> cases b 1 <;> kernel_rfl
theorem orK3 (b : Nat → Bool) : bits BinOp.or IntKind.i64 ((fillK b 3 : Nat) : Int) 8 = ((fillK b 3 + 8 : Nat) : Int) := by
  simp only [fillK, fbit]
  cases b 0 <;> cases b 1 <;> cases b 2 <;> kernel_rfl
theorem orK4 (b : Nat → Bool) : bits BinOp.or IntKind.i64 ((fillK b 4 : Nat) : Int) 16 = ((fillK b 4 + 16 : Nat) : Int) := by
  simp only [fillK, fbit]
  cases b 0 <;> cases b 1 <;> cases b 2 <;> cases b 3 <;> kernel_rfl
theorem orK5 (b : Nat → Bool) : bits BinOp.or IntKind.i64 ((fillK b 5 : Nat) : Int) 32 = ((fillK b 5 + 32 : Nat) : Int) := by
  simp only [fillK, fbit]
  cases b 0 <;> cases b 1 <;> cases b 2 <;> cases b 3 <;> cases b 4 <;> kernel_rfl
theorem ix60 (b : Nat → Bool) (W : World) : (Instr.index 145 (.agg #[Value.bool (b 0), Value.bool (b 1), Value.bool (b 2), Value.bool (b 3), Value.bool (b 4), Value.bool (b 5)]) (.int .i64 0)).run Tryd.prog W = .ok (.bool (b 0)) W := by kernel_rfl
theorem ix61 (b : Nat → Bool) (W : World) : (Instr.index 145 (.agg #[Value.bool (b 0), Value.bool (b 1), Value.bool (b 2), Value.bool (b 3), Value.bool (b 4), Value.bool (b 5)]) (.int .i64 1)).run Tryd.prog W = .ok (.bool (b 1)) W := by kernel_rfl
theorem ix62 (b : Nat → Bool) (W : World) : (Instr.index 145 (.agg #[Value.bool (b 0), Value.bool (b 1), Value.bool (b 2), Value.bool (b 3), Value.bool (b 4), Value.bool (b 5)]) (.int .i64 2)).run Tryd.prog W = .ok (.bool (b 2)) W := by kernel_rfl
theorem ix63 (b : Nat → Bool) (W : World) : (Instr.index 145 (.agg #[Value.bool (b 0), Value.bool (b 1), Value.bool (b 2), Value.bool (b 3), Value.bool (b 4), Value.bool (b 5)]) (.int .i64 3)).run Tryd.prog W = .ok (.bool (b 3)) W := by kernel_rfl
theorem ix64 (b : Nat → Bool) (W : World) : (Instr.index 145 (.agg #[Value.bool (b 0), Value.bool (b 1), Value.bool (b 2), Value.bool (b 3), Value.bool (b 4), Value.bool (b 5)]) (.int .i64 4)).run Tryd.prog W = .ok (.bool (b 4)) W := by kernel_rfl
theorem ix65 (b : Nat → Bool) (W : World) : (Instr.index 145 (.agg #[Value.bool (b 0), Value.bool (b 1), Value.bool (b 2), Value.bool (b 3), Value.bool (b 4), Value.bool (b 5)]) (.int .i64 5)).run Tryd.prog W = .ok (.bool (b 5)) W := by kernel_rfl
set_option maxRecDepth 100000 in
set_option maxHeartbeats 2000000 in
theorem filled_c (d : Nat) (t : Tr (d + 1)) (B g off : Nat) (w : World) (hE : ExAt w B (d + 1) t g off) (hw : B ≤ w.heap.size) (hs : (TrN.params t).length ≤ 2000000 ∧ (TrN.binds t).length ≤ 2000000 ∧ (TrN.args t).length ≤ 2000000 ∧ (TrN.alts t).length ≤ 2000000) :
    Calls Tryd.prog 73 #[.pointer (some ⟨g, off, none⟩)] w fun e w' => e = .returned (.int .i64 (fillK (fillB t) 6 : Nat)) ∧ ∃ m, w' = w.drewN m := by
  obtain ⟨hg, h0, h1, h2, ⟨o3, c3, h3, k3⟩, ⟨o4, c4, h4, k4⟩, ⟨o5, c5, h5, k5⟩, ⟨o6, c6, h6, k6⟩⟩ := hE
  have hgw : g < w.heap.size := by omega
  obtain ⟨b, hb⟩ : ∃ b, fillB t = b := ⟨_, rfl⟩
  have f0 : (!(TrN.name t).toList.isEmpty) = b 0 := by rw [← hb]; rfl
  have f1 : ((TrN.num t) != 0) = b 1 := by rw [← hb]; rfl
  have f2 : decide (0 < (TrN.params t).length) = b 2 := by rw [← hb]; rfl
  have f3 : decide (0 < (TrN.binds t).length) = b 3 := by rw [← hb]; rfl
  have f4 : decide (0 < (TrN.args t).length) = b 4 := by rw [← hb]; rfl
  have f5 : decide (0 < (TrN.alts t).length) = b 5 := by rw [← hb]; rfl
  rw [hb]
  clear hb k3 k4 k5 k6 h0 hw hg
  go_enter Tryd.func73, Tryd.ntmps73
  go_wp2_with fail
  go_big_quiet (fail)
  have HW : Hid (∃ m, w.drewN nq = w.drewN m) := ⟨nq, rfl⟩
  generalize hq1 : w.drewN nq = w1 at ⊢
  rw [hq1] at HW
  clear hq1
  clear f0 f1 f2 f3 f4 f5 h1 h2 h3 h4 h5 h6 hs
  go_wp2
  go_loopw [3, 41] (fun v i wr => ∃ k : Nat, k ≤ 6 ∧ i = .int .i64 k ∧ v = .int .i64 (fillK b k : Nat) ∧ Hid (∃ m, wr = w.drewN m)) (fun v i _ => 6 - (intOf i).toNat)
  case atStart => exact ⟨0, by omega, rfl, rfl, HW⟩
  case round =>
    obtain ⟨k, hk, rfl, rfl, hS⟩ := hrel
    rcases (by omega : k = 0 ∨ k = 1 ∨ k = 2 ∨ k = 3 ∨ k = 4 ∨ k = 5 ∨ k = 6) with rfl | rfl | rfl | rfl | rfl | rfl | rfl
    · have hi := ix60 b
      cases hb : b 0
      · rw [hb] at hi
        go_wp2
        exact ⟨⟨1, by omega, rfl, by simp [fillK, fbit, hb], hS⟩, by decide⟩
      · rw [hb] at hi
        go_wp2
        exact ⟨⟨1, by omega, rfl, by rw [orK0]; simp [fillK, fbit, hb], hS⟩, by decide⟩
    · have hi := ix61 b
      cases hb : b 1
      · rw [hb] at hi
        go_wp2
        exact ⟨⟨2, by omega, rfl, by simp [fillK, fbit, hb], hS⟩, by decide⟩
      · rw [hb] at hi
        go_wp2
        exact ⟨⟨2, by omega, rfl, by rw [orK1]; simp [fillK, fbit, hb], hS⟩, by decide⟩
    · have hi := ix62 b
      cases hb : b 2
      · rw [hb] at hi
        go_wp2
        exact ⟨⟨3, by omega, rfl, by simp [fillK, fbit, hb], hS⟩, by decide⟩
      · rw [hb] at hi
        go_wp2
        exact ⟨⟨3, by omega, rfl, by rw [orK2]; simp [fillK, fbit, hb], hS⟩, by decide⟩
    · have hi := ix63 b
      cases hb : b 3
      · rw [hb] at hi
        go_wp2
        exact ⟨⟨4, by omega, rfl, by simp [fillK, fbit, hb], hS⟩, by decide⟩
      · rw [hb] at hi
        go_wp2
        exact ⟨⟨4, by omega, rfl, by rw [orK3]; simp [fillK, fbit, hb], hS⟩, by decide⟩
    · have hi := ix64 b
      cases hb : b 4
      · rw [hb] at hi
        go_wp2
        exact ⟨⟨5, by omega, rfl, by simp [fillK, fbit, hb], hS⟩, by decide⟩
      · rw [hb] at hi
        go_wp2
        exact ⟨⟨5, by omega, rfl, by rw [orK4]; simp [fillK, fbit, hb], hS⟩, by decide⟩
    · have hi := ix65 b
      cases hb : b 5
      · rw [hb] at hi
        go_wp2
        exact ⟨⟨6, by omega, rfl, by simp [fillK, fbit, hb], hS⟩, by decide⟩
      · rw [hb] at hi
        go_wp2
        exact ⟨⟨6, by omega, rfl, by rw [orK5]; simp [fillK, fbit, hb], hS⟩, by decide⟩
    · go_wp2
      go_ret
      exact ⟨rfl, hS.out⟩
/-- Are no fields filled but these? -/
def okF (b : Nat → Bool) (c : Nat) : Bool := (List.range 6).all fun i => !b i || c.testBit i
theorem anX (x0 x1 x2 x3 x4 x5 : Bool) (c : Nat) (hc : c = 0 ∨ c = 1 ∨ c = 2 ∨ c = 17 ∨ c = 20 ∨ c = 16 ∨ c = 24 ∨ c = 48) : (bits BinOp.andNot IntKind.i64 ((0 + fbit x0 1 + fbit x1 2 + fbit x2 4 + fbit x3 8 + fbit x4 16 + fbit x5 32 : Nat) : Int) ((c : Nat) : Int) != 0) = (!((!x0 || c.testBit 0) && ((!x1 || c.testBit 1) && ((!x2 || c.testBit 2) && ((!x3 || c.testBit 3) && ((!x4 || c.testBit 4) && ((!x5 || c.testBit 5) && true))))))) := by
  rcases hc with rfl | rfl | rfl | rfl | rfl | rfl | rfl | rfl <;> cases x0 <;> cases x1 <;> cases x2 <;> cases x3 <;> cases x4 <;> cases x5 <;> kernel_rfl
theorem anK (b : Nat → Bool) (c : Nat) (hc : c = 0 ∨ c = 1 ∨ c = 2 ∨ c = 17 ∨ c = 20 ∨ c = 16 ∨ c = 24 ∨ c = 48) : (bits BinOp.andNot IntKind.i64 ((fillK b 6 : Nat) : Int) ((c : Nat) : Int) != 0) = (!okF b c) := anX (b 0) (b 1) (b 2) (b 3) (b 4) (b 5) c hc
theorem fieldsM_vals (k : Int) : fieldsM k = 0 ∨ fieldsM k = 1 ∨ fieldsM k = 2 ∨ fieldsM k = 17 ∨ fieldsM k = 20 ∨ fieldsM k = 16 ∨ fieldsM k = 24 ∨ fieldsM k = 48 := by
  unfold fieldsM
  repeat' split
  all_goals simp
end Go.Proofs.YtjmpjfggbhongaaDoor
namespace Go.Proofs.YtjmpjfggbhongaaDoor
open Go.RowKit Go.Shelf Go.Maps
set_option linter.unusedVariables false
def ar0 : List (List UInt8) := [[103, 101, 116, 99], [101, 111, 102]]
def ar1 : List (List UInt8) := [[111, 114, 100], [99, 104, 114], [101, 114, 114, 111, 114], [115, 104, 111, 119], [114, 101, 116], [112, 117, 116, 99], [101, 120, 105, 116]]
def ar2 : List (List UInt8) := [[97, 100, 100], [115, 117, 98], [109, 117, 108], [113, 117, 111, 116], [114, 101, 109], [101, 113], [110, 101], [108, 116], [108, 101], [103, 116], [103, 101], [99, 101, 113], [99, 108, 116], [115, 101, 113], [98, 105, 110, 100]]
/-- How many arguments a primitive has. -/
def arM (s : List UInt8) : Int := if ar0.contains s then 0 else if ar1.contains s then 1 else if ar2.contains s then 2 else -1
set_option maxRecDepth 100000 in
set_option maxHeartbeats 4000000 in
theorem arity_c (s : ByteArray) (w : World) : Calls Tryd.prog 80 #[.string s] w fun e w' => e = .returned (.int .i64 (arM s.toList)) ∧ w' = w := by
  by_cases h : s.toList = [103, 101, 116, 99]
  · have t : (s.toList == [103, 101, 116, 99]) = true := by rw [h]; decide
    have HR : Hid (arM s.toList = 0) := by show _ = _; rw [h]; decide
    clear h
    go_enter Tryd.func80, Tryd.ntmps80
    go_wp2
    go_ret
    exact ⟨by rw [HR.out]; rfl, rfl⟩
  have t0 : (s.toList == [103, 101, 116, 99]) = false := by simpa using h
  clear h
  by_cases h : s.toList = [101, 111, 102]
  · have t : (s.toList == [101, 111, 102]) = true := by rw [h]; decide
    have HR : Hid (arM s.toList = 0) := by show _ = _; rw [h]; decide
    clear h
    go_enter Tryd.func80, Tryd.ntmps80
    go_wp2
    go_ret
    exact ⟨by rw [HR.out]; rfl, rfl⟩
  have t1 : (s.toList == [101, 111, 102]) = false := by simpa using h
  clear h
  by_cases h : s.toList = [111, 114, 100]
  · have t : (s.toList == [111, 114, 100]) = true := by rw [h]; decide
    have HR : Hid (arM s.toList = 1) := by show _ = _; rw [h]; decide
    clear h
    go_enter Tryd.func80, Tryd.ntmps80
    go_wp2
    go_ret
    exact ⟨by rw [HR.out]; rfl, rfl⟩
  have t2 : (s.toList == [111, 114, 100]) = false := by simpa using h
  clear h
  by_cases h : s.toList = [99, 104, 114]
  · have t : (s.toList == [99, 104, 114]) = true := by rw [h]; decide
    have HR : Hid (arM s.toList = 1) := by show _ = _; rw [h]; decide
    clear h
    go_enter Tryd.func80, Tryd.ntmps80
    go_wp2
    go_ret
    exact ⟨by rw [HR.out]; rfl, rfl⟩
  have t3 : (s.toList == [99, 104, 114]) = false := by simpa using h
  clear h
  by_cases h : s.toList = [101, 114, 114, 111, 114]
  · have t : (s.toList == [101, 114, 114, 111, 114]) = true := by rw [h]; decide
    have HR : Hid (arM s.toList = 1) := by show _ = _; rw [h]; decide
    clear h
    go_enter Tryd.func80, Tryd.ntmps80
    go_wp2
    go_ret
    exact ⟨by rw [HR.out]; rfl, rfl⟩
  have t4 : (s.toList == [101, 114, 114, 111, 114]) = false := by simpa using h
  clear h
  by_cases h : s.toList = [115, 104, 111, 119]
  · have t : (s.toList == [115, 104, 111, 119]) = true := by rw [h]; decide
    have HR : Hid (arM s.toList = 1) := by show _ = _; rw [h]; decide
    clear h
    go_enter Tryd.func80, Tryd.ntmps80
    go_wp2
    go_ret
    exact ⟨by rw [HR.out]; rfl, rfl⟩
  have t5 : (s.toList == [115, 104, 111, 119]) = false := by simpa using h
  clear h
  by_cases h : s.toList = [114, 101, 116]
  · have t : (s.toList == [114, 101, 116]) = true := by rw [h]; decide
    have HR : Hid (arM s.toList = 1) := by show _ = _; rw [h]; decide
    clear h
    go_enter Tryd.func80, Tryd.ntmps80
    go_wp2
    go_ret
    exact ⟨by rw [HR.out]; rfl, rfl⟩
  have t6 : (s.toList == [114, 101, 116]) = false := by simpa using h
  clear h
  by_cases h : s.toList = [112, 117, 116, 99]
  · have t : (s.toList == [112, 117, 116, 99]) = true := by rw [h]; decide
    have HR : Hid (arM s.toList = 1) := by show _ = _; rw [h]; decide
    clear h
    go_enter Tryd.func80, Tryd.ntmps80
    go_wp2
    go_ret
    exact ⟨by rw [HR.out]; rfl, rfl⟩
  have t7 : (s.toList == [112, 117, 116, 99]) = false := by simpa using h
  clear h
  by_cases h : s.toList = [101, 120, 105, 116]
  · have t : (s.toList == [101, 120, 105, 116]) = true := by rw [h]; decide
    have HR : Hid (arM s.toList = 1) := by show _ = _; rw [h]; decide
    clear h
    go_enter Tryd.func80, Tryd.ntmps80
    go_wp2
    go_ret
    exact ⟨by rw [HR.out]; rfl, rfl⟩
  have t8 : (s.toList == [101, 120, 105, 116]) = false := by simpa using h
  clear h
  by_cases h : s.toList = [97, 100, 100]
  · have t : (s.toList == [97, 100, 100]) = true := by rw [h]; decide
    have HR : Hid (arM s.toList = 2) := by show _ = _; rw [h]; decide
    clear h
    go_enter Tryd.func80, Tryd.ntmps80
    go_wp2
    go_ret
    exact ⟨by rw [HR.out]; rfl, rfl⟩
  have t9 : (s.toList == [97, 100, 100]) = false := by simpa using h
  clear h
  by_cases h : s.toList = [115, 117, 98]
  · have t : (s.toList == [115, 117, 98]) = true := by rw [h]; decide
    have HR : Hid (arM s.toList = 2) := by show _ = _; rw [h]; decide
    clear h
    go_enter Tryd.func80, Tryd.ntmps80
    go_wp2
    go_ret
    exact ⟨by rw [HR.out]; rfl, rfl⟩
  have t10 : (s.toList == [115, 117, 98]) = false := by simpa using h
  clear h
  by_cases h : s.toList = [109, 117, 108]
  · have t : (s.toList == [109, 117, 108]) = true := by rw [h]; decide
    have HR : Hid (arM s.toList = 2) := by show _ = _; rw [h]; decide
    clear h
    go_enter Tryd.func80, Tryd.ntmps80
    go_wp2
    go_ret
    exact ⟨by rw [HR.out]; rfl, rfl⟩
  have t11 : (s.toList == [109, 117, 108]) = false := by simpa using h
  clear h
  by_cases h : s.toList = [113, 117, 111, 116]
  · have t : (s.toList == [113, 117, 111, 116]) = true := by rw [h]; decide
    have HR : Hid (arM s.toList = 2) := by show _ = _; rw [h]; decide
    clear h
    go_enter Tryd.func80, Tryd.ntmps80
    go_wp2
    go_ret
    exact ⟨by rw [HR.out]; rfl, rfl⟩
  have t12 : (s.toList == [113, 117, 111, 116]) = false := by simpa using h
  clear h
  by_cases h : s.toList = [114, 101, 109]
  · have t : (s.toList == [114, 101, 109]) = true := by rw [h]; decide
    have HR : Hid (arM s.toList = 2) := by show _ = _; rw [h]; decide
    clear h
    go_enter Tryd.func80, Tryd.ntmps80
    go_wp2
    go_ret
    exact ⟨by rw [HR.out]; rfl, rfl⟩
  have t13 : (s.toList == [114, 101, 109]) = false := by simpa using h
  clear h
  by_cases h : s.toList = [101, 113]
  · have t : (s.toList == [101, 113]) = true := by rw [h]; decide
    have HR : Hid (arM s.toList = 2) := by show _ = _; rw [h]; decide
    clear h
    go_enter Tryd.func80, Tryd.ntmps80
    go_wp2
    go_ret
    exact ⟨by rw [HR.out]; rfl, rfl⟩
  have t14 : (s.toList == [101, 113]) = false := by simpa using h
  clear h
  by_cases h : s.toList = [110, 101]
  · have t : (s.toList == [110, 101]) = true := by rw [h]; decide
    have HR : Hid (arM s.toList = 2) := by show _ = _; rw [h]; decide
    clear h
    go_enter Tryd.func80, Tryd.ntmps80
    go_wp2
    go_ret
    exact ⟨by rw [HR.out]; rfl, rfl⟩
  have t15 : (s.toList == [110, 101]) = false := by simpa using h
  clear h
  by_cases h : s.toList = [108, 116]
  · have t : (s.toList == [108, 116]) = true := by rw [h]; decide
    have HR : Hid (arM s.toList = 2) := by show _ = _; rw [h]; decide
    clear h
    go_enter Tryd.func80, Tryd.ntmps80
    go_wp2
    go_ret
    exact ⟨by rw [HR.out]; rfl, rfl⟩
  have t16 : (s.toList == [108, 116]) = false := by simpa using h
  clear h
  by_cases h : s.toList = [108, 101]
  · have t : (s.toList == [108, 101]) = true := by rw [h]; decide
    have HR : Hid (arM s.toList = 2) := by show _ = _; rw [h]; decide
    clear h
    go_enter Tryd.func80, Tryd.ntmps80
    go_wp2
    go_ret
    exact ⟨by rw [HR.out]; rfl, rfl⟩
  have t17 : (s.toList == [108, 101]) = false := by simpa using h
  clear h
  by_cases h : s.toList = [103, 116]
  · have t : (s.toList == [103, 116]) = true := by rw [h]; decide
    have HR : Hid (arM s.toList = 2) := by show _ = _; rw [h]; decide
    clear h
    go_enter Tryd.func80, Tryd.ntmps80
    go_wp2
    go_ret
    exact ⟨by rw [HR.out]; rfl, rfl⟩
  have t18 : (s.toList == [103, 116]) = false := by simpa using h
  clear h
  by_cases h : s.toList = [103, 101]
  · have t : (s.toList == [103, 101]) = true := by rw [h]; decide
    have HR : Hid (arM s.toList = 2) := by show _ = _; rw [h]; decide
    clear h
    go_enter Tryd.func80, Tryd.ntmps80
    go_wp2
    go_ret
    exact ⟨by rw [HR.out]; rfl, rfl⟩
  have t19 : (s.toList == [103, 101]) = false := by simpa using h
  clear h
  by_cases h : s.toList = [99, 101, 113]
  · have t : (s.toList == [99, 101, 113]) = true := by rw [h]; decide
    have HR : Hid (arM s.toList = 2) := by show _ = _; rw [h]; decide
    clear h
    go_enter Tryd.func80, Tryd.ntmps80
    go_wp2
    go_ret
    exact ⟨by rw [HR.out]; rfl, rfl⟩
  have t20 : (s.toList == [99, 101, 113]) = false := by simpa using h
  clear h
  by_cases h : s.toList = [99, 108, 116]
  · have t : (s.toList == [99, 108, 116]) = true := by rw [h]; decide
    have HR : Hid (arM s.toList = 2) := by show _ = _; rw [h]; decide
    clear h
    go_enter Tryd.func80, Tryd.ntmps80
    go_wp2
    go_ret
    exact ⟨by rw [HR.out]; rfl, rfl⟩
  have t21 : (s.toList == [99, 108, 116]) = false := by simpa using h
  clear h
  by_cases h : s.toList = [115, 101, 113]
  · have t : (s.toList == [115, 101, 113]) = true := by rw [h]; decide
    have HR : Hid (arM s.toList = 2) := by show _ = _; rw [h]; decide
    clear h
    go_enter Tryd.func80, Tryd.ntmps80
    go_wp2
    go_ret
    exact ⟨by rw [HR.out]; rfl, rfl⟩
  have t22 : (s.toList == [115, 101, 113]) = false := by simpa using h
  clear h
  by_cases h : s.toList = [98, 105, 110, 100]
  · have t : (s.toList == [98, 105, 110, 100]) = true := by rw [h]; decide
    have HR : Hid (arM s.toList = 2) := by show _ = _; rw [h]; decide
    clear h
    go_enter Tryd.func80, Tryd.ntmps80
    go_wp2
    go_ret
    exact ⟨by rw [HR.out]; rfl, rfl⟩
  have t23 : (s.toList == [98, 105, 110, 100]) = false := by simpa using h
  clear h
  have HR : Hid (arM s.toList = -1) := by show _ = _; simp [arM, ar0, ar1, ar2]; simp at t0 t1 t2 t3 t4 t5 t6 t7 t8 t9 t10 t11 t12 t13 t14 t15 t16 t17 t18 t19 t20 t21 t22 t23; simp [*]
  go_enter Tryd.func80, Tryd.ntmps80
  go_wp2
  go_ret
  exact ⟨by rw [HR.out]; rfl, rfl⟩
end Go.Proofs.YtjmpjfggbhongaaDoor
