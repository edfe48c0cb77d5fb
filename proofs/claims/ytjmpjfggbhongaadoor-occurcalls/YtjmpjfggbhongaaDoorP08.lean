/-
  Of the core, what is wanted here: part 8.
-/
import Derived.Sort.KeysCollected
import Derived.Maps.AppendAt
import Derived.Test.YtjmpjfggbhongaaDoorShelfC
import Derived.Deep.AppendLies
import Derived.Lib.OwnBridge
import Derived.Lib.SmallJoins
import Derived.Test.YtjmpjfggbhongaaDoorP07
namespace Go.Proofs.YtjmpjfggbhongaaDoor
open Go.RowKit Go.Shelf Go.Maps
set_option linter.unusedVariables false
/-- Whether there is a name in a set. -/
theorem SetIs.len0 {W : World} {f c : Nat} {F : List UInt8 → Bool} (h : SetIs W f c F) (ty : TypeId) : ∃ k : Nat, (Builtin.len_ #[84] ty #[.map (some f)]).run Tryd.prog W = .ok (.int .i64 (k : Int)) W ∧ (0 < k ↔ ∃ x, F x = true) := by
  obtain ⟨D, hown, hD, -, hall⟩ := h
  refine ⟨Maps.size D, hown.len Tryd.underlying84 ty, ?_⟩
  obtain ⟨es, rfl, hko⟩ := hown.keysOf
  rw [Maps.size_eq]
  constructor
  · intro h0
    obtain ⟨p, hp⟩ : ∃ p, p ∈ es := List.exists_mem_of_length_pos h0
    obtain ⟨v, hv⟩ := hko p hp
    obtain ⟨x, _, hx, _⟩ := Maps.keyOf_str Tryd.underlying9 hv
    refine ⟨x, ?_⟩
    rw [← hall x, ← hx]
    exact List.any_eq_true.2 ⟨p, hp, WideAt.sameKey_self (by rw [hx]; constructor)⟩
  · rintro ⟨x, hx⟩
    rw [← hall x] at hx
    cases es with
    | nil => cases hx
    | cons a r => simp
/-- What check answers. -/
def chkN (ab : List AltH → Bool) (fs : List CT) (d : Nat) (l : List (ByteArray × Tr d)) (R : Bool) : Int := if l.all (fun b => allM (fun _ t => mbN ab t) d b.2) = false then 2 else if l.all (fun b => allM (fun _ t => shN fs t) d b.2) = false then 9 else if R then 8 else 0
set_option maxRecDepth 100000 in
set_option maxHeartbeats 4000000 in
theorem check_c (ab : List AltH → Bool) (fs : List CT) (of : Option Addr) (cpf : Nat) (names : List ByteArray) (on : Option Addr) (cpn : Nat) (d : Nat) (l : List (ByteArray × Tr d)) (o : Option Addr) (cap B : Nat) (w : World)
    (hl : RowIn B 8 (fun (b : ByteArray × Tr d) g off => w.cell? ⟨g, off, none⟩ = some (.string b.1) ∧ ExAt w B d b.2 g (off + 1)) o l) (hf : RowIn B 4 (ConAt w) of fs) (hn : TxIn w B on names) (hw : B ≤ w.heap.size)
    (hll : l.length ≤ 2000000) (hfl : fs.length ≤ 2000000) (hfz : ∀ f ∈ fs, f.1.size ≤ maxLen) (hnz : ∀ x ∈ names, x.size ≤ maxLen) (hFit : ∀ b ∈ l, Fit d b.2) (hN : ∀ b ∈ l, NmOK d b.2)
    (hc : names.length + 2 * (l.map fun b => costM d b.2).sum ≤ 2000000) (hs : (l.map fun b => sizeM d b.2).sum ≤ 2000000)
    (hcp : ∀ k (h : k < l.length) g off, o = some ⟨g, off, none⟩ → g < B → CpAt w B d l[k].2 g (off + k * 8 + 1))
    (hA : ∀ (W : World) (m c : Nat), Below w.heap.size w W → CtSt W m c fs → MbaOK m ab W)
    (R : Bool) (hR : R = true ↔ ∃ x, l.any (fun b => freeM d b.2 (dl names.reverse) x) = true) :
    Calls Tryd.prog 35 #[.slice o l.length cap, .slice of fs.length cpf, .slice on names.length cpn] w fun e w' => e = .returned (.int .i64 (chkN ab fs d l R)) ∧ Below w.heap.size w w' := by
  have hcell : ∀ {W : World}, Below w.heap.size w W → ∀ g off, g < B → W.cell? ⟨g, off, none⟩ = w.cell? ⟨g, off, none⟩ := fun hW g off hg => cell_of_block (hW.block g (by omega)) off
  have hrow : ∀ {W : World}, Below w.heap.size w W → RowIn B 8 (fun (b : ByteArray × Tr d) g off => W.cell? ⟨g, off, none⟩ = some (.string b.1) ∧ ExAt W B d b.2 g (off + 1)) o l := fun hW => hl.mono (fun y g off hg h => ⟨(hcell hW _ _ hg).trans h.1, ExAt.same (hcell hW) d _ _ _ h.2⟩)
  have E1 : Enters Tryd.prog 55 := enters_of Tryd.func55 (by kernel_rfl) rfl
  have E2 : Enters Tryd.prog 56 := enters_of Tryd.func56 (by kernel_rfl) rfl
  have H1 : Hid (Calls Tryd.prog 53 #[.slice of fs.length cpf] w fun e w' => ∃ c, e = .returned (.map (some w.heap.size)) ∧ CtSt w' w.heap.size c fs ∧ Below w.heap.size w w') := constructorsOf_c fs of cpf B w hf hw hfl hfz
  have H2 : Hid (∀ (W : World) (m c : Nat), Below w.heap.size w W → CtSt W m c fs → Calls Tryd.prog 54 #[.slice o l.length cap, .func (.func 55) #[.map (some m)] #[]] W fun e w' => e = .returned (.bool (l.all (fun b => allM (fun _ t => mbN ab t) d b.2))) ∧ Below W.heap.size W w') := fun W m c hW hC => all_binds_c 55 (.map (some m)) W (fun _ t => mbN ab t) d (allOK _ _ _ _ E1 (fun W' hW' d' t' B' g' off' hE' hCp' hw' hF' => mayBe_c m ab d' t' B' g' off' W' (hA W' m c (hW.trans (hW'.mono hW.size)) (hC.below hW')) hE' hw' hF' hCp'.1) d) l o cap B W (Below.refl _ _) (hrow hW) (Nat.le_trans hw hW.size) hll hFit (fun k hk g off e hg => CpAt.same (hcell hW) d _ _ _ hg (hcp k hk g off e hg))
  have H3 : Hid (∀ (W : World) (m c : Nat), Below w.heap.size w W → CtSt W m c fs → Calls Tryd.prog 54 #[.slice o l.length cap, .func (.func 56) #[.map (some m)] #[]] W fun e w' => e = .returned (.bool (l.all (fun b => allM (fun _ t => shN fs t) d b.2))) ∧ Below W.heap.size W w') := fun W m c hW hC => all_binds_c 56 (.map (some m)) W (fun _ t => shN fs t) d (allOK _ _ _ _ E2 (fun W' hW' d' t' B' g' off' hE' hCp' hw' hF' => shaped_c fs m c d' t' B' g' off' W' (hC.below hW') hE' hw' hF') d) l o cap B W (Below.refl _ _) (hrow hW) (Nat.le_trans hw hW.size) hll hFit (fun k hk g off e hg => CpAt.same (hcell hW) d _ _ _ hg (hcp k hk g off e hg))
  have H5 : Hid (∀ (W : World) (S m f : Nat), Below w.heap.size w W → SkSt W S m f 0 0 [] (fun _ => false) → w.heap.size ≤ S → w.heap.size ≤ m → w.heap.size ≤ f → Calls Tryd.prog 58 #[.pointer (some ⟨S, 0, none⟩), .slice on names.length cpn] W fun e w' => e = .returned (.tuple #[]) ∧ Below w.heap.size w w' ∧ S < w'.heap.size ∧ Calls Tryd.prog 59 #[.pointer (some ⟨S, 0, none⟩), .slice o l.length cap] w' fun e w'' => e = .returned (.tuple #[]) ∧ Below w.heap.size w w'' ∧ S < w''.heap.size ∧ w''.cell? ⟨S, 2, none⟩ = some (.map (some f)) ∧ ∃ k : Nat, (Builtin.len_ #[84] 3 #[.map (some f)]).run Tryd.prog w'' = .ok (.int .i64 (k : Int)) w'' ∧ (0 < k ↔ R = true)) := by
    intro W S m f hW hS h1 h2 h3
    have hsz := hW.size
    refine (bindAll_c names hnz on cpn B S 0 m 0 [] W (hn.same (hcell hW)) (by omega) (by omega) (by omega) hS.sc (by omega) (by simp; omega)).mono ?_
    rintro e w5 ⟨rfl, ext, he, hsc, hch⟩
    have hS5 : SkSt w5 S m f (0 + names.length) 0 (ext ++ []) (fun _ => false) := hS.step hsc hch
    have hB5 : Below w.heap.size w w5 := ⟨hch.os.trans hW.os, hch.tape.trans hW.tape, hch.output.trans hW.output, Nat.le_trans hsz hch.size, fun k hk => (hch.block k (by omega) (by omega) (by omega)).trans (hW.block k hk)⟩
    refine ⟨rfl, hB5, hS5.sc.lt, ?_⟩
    have hsz5 := hB5.size
    have hexl : ext.length = names.length := by have := congrArg List.length he; simpa using this
    refine (seek_binds_c d (seekOK d) l o cap B S m f (0 + names.length) 0 (ext ++ []) (fun _ => false) w5 (hrow hB5) (by omega) (by omega) (by omega) (by omega) hS5 hN (by omega) (by simp; omega) (by omega) hll).mono ?_
    rintro e w6 ⟨rfl, ⟨c', cf', q1, q2, q3⟩, q4⟩
    have hB6 : Below w.heap.size w w6 := ⟨q4.os.trans hB5.os, q4.tape.trans hB5.tape, q4.output.trans hB5.output, Nat.le_trans hsz5 q4.size, fun k hk => (q4.block k (by omega) (by omega) (by omega) (by omega)).trans (hB5.block k hk)⟩
    obtain ⟨k, hk1, hk2⟩ := q3.set.len0 3
    refine ⟨rfl, hB6, q3.sc.lt, q3.found, k, hk1, ?_⟩
    rw [hk2, hR]
    have e : nms (ext ++ []) = dl names.reverse := by rw [nms_grown he]; simp [nms]
    rw [e]
    simp
  have HR0 : Hid (chkN ab fs d l R = if l.all (fun b => allM (fun _ t => mbN ab t) d b.2) = false then 2 else if l.all (fun b => allM (fun _ t => shN fs t) d b.2) = false then 9 else if R then 8 else 0) := rfl
  generalize chkN ab fs d l R = Z at HR0 ⊢
  generalize l.all (fun b => allM (fun _ t => mbN ab t) d b.2) = R1 at H2 HR0
  generalize l.all (fun b => allM (fun _ t => shN fs t) d b.2) = R2 at H3 HR0
  generalize l.length = n1 at H2 H3 H5
  generalize fs.length = n2 at H1
  generalize names.length = n3 at H5
  clear hl hf hn hw hll hfl hfz hnz hFit hN hc hs hA hcp hR hcell hrow E1 E2
  go_enter Tryd.func35, Tryd.ntmps35
  go_wp2_with (go_at_call 53; fail)
  refine H1.out.mono ?_
  rintro e w1 ⟨c, rfl, hC1, hB1⟩
  have K1 : Hid (CtSt w1 w.heap.size c fs ∧ Below w.heap.size w w1) := ⟨hC1, hB1⟩
  clear hC1 hB1 H1
  go_wp2_with (go_at_call 54; fail)
  refine (H2.out w1 w.heap.size c K1.out.2 K1.out.1).mono ?_
  rintro e w2 ⟨rfl, hB2⟩
  have K2 : Hid (CtSt w2 w.heap.size c fs ∧ Below w.heap.size w w2) := ⟨K1.out.1.below hB2, K1.out.2.trans (hB2.mono K1.out.2.size)⟩
  clear hB2 H2 K1
  cases R1 with
  | false =>
    go_wp2
    go_ret
    exact ⟨by rw [HR0.out]; rfl, K2.out.2⟩
  | true =>
    go_wp2_with (go_at_call 54; fail)
    refine (H3.out w2 w.heap.size c K2.out.2 K2.out.1).mono ?_
    rintro e w3 ⟨rfl, hB3⟩
    have K3 : Hid (Below w.heap.size w w3) := K2.out.2.trans (hB3.mono K2.out.2.size)
    clear hB3 H3 K2
    cases R2 with
    | false =>
      go_wp2
      go_ret
      exact ⟨by rw [HR0.out]; rfl, K3.out⟩
    | true =>
      go_wp2_with (go_at_call 57; fail)
      refine (newSeeker_c w3).mono ?_
      rintro e w4 ⟨S, m, f, rfl, hS, hm, hf, hSk, hB4⟩
      have K4 : Hid (Below w.heap.size w w4) := K3.out.trans (hB4.mono K3.out.size)
      have hs3 := K3.out.size
      have K5 : Hid (Calls Tryd.prog 58 #[.pointer (some ⟨S, 0, none⟩), .slice on n3 cpn] w4 fun e w' => e = .returned (.tuple #[]) ∧ Below w.heap.size w w' ∧ S < w'.heap.size ∧ Calls Tryd.prog 59 #[.pointer (some ⟨S, 0, none⟩), .slice o n1 cap] w' fun e w'' => e = .returned (.tuple #[]) ∧ Below w.heap.size w w'' ∧ S < w''.heap.size ∧ w''.cell? ⟨S, 2, none⟩ = some (.map (some f)) ∧ ∃ k : Nat, (Builtin.len_ #[84] 3 #[.map (some f)]).run Tryd.prog w'' = .ok (.int .i64 (k : Int)) w'' ∧ (0 < k ↔ R = true)) := H5.out w4 S m f K4.out hSk (by omega) (by omega) (by omega)
      have lS : S < w4.heap.size := hSk.sc.lt
      clear hS hm hf hSk hB4 K3 K4 H5 hs3
      go_wp2_with (go_at_call 58; fail)
      refine K5.out.mono ?_
      rintro e w5 ⟨rfl, hB5, lS5, hcall⟩
      have K6 : Hid (Calls Tryd.prog 59 #[.pointer (some ⟨S, 0, none⟩), .slice o n1 cap] w5 fun e w'' => e = .returned (.tuple #[]) ∧ Below w.heap.size w w'' ∧ S < w''.heap.size ∧ w''.cell? ⟨S, 2, none⟩ = some (.map (some f)) ∧ ∃ k : Nat, (Builtin.len_ #[84] 3 #[.map (some f)]).run Tryd.prog w'' = .ok (.int .i64 (k : Int)) w'' ∧ (0 < k ↔ R = true)) := hcall
      clear hcall hB5 K5 lS
      go_wp2_with (go_at_call 59; fail)
      refine K6.out.mono ?_
      rintro e w6 ⟨rfl, hB6, lS6, hfo, k, hk1, hk2⟩
      have K7 : Hid (Below w.heap.size w w6) := hB6
      have K8 : Hid (0 < k ↔ R = true) := hk2
      clear hB6 hk2 K6 lS5
      by_cases hk : 0 < k
      · have hki : (0 : Int) < (k : Int) := by omega
        have HZ : Hid (Z = 8) := by show _ = _; rw [HR0.out, K8.out.1 hk]; rfl
        clear HR0 K8 hk
        go_wp2
        go_ret
        exact ⟨by rw [HZ.out]; rfl, K7.out⟩
      · have hki : ¬ (0 : Int) < (k : Int) := by omega
        have HZ : Hid (Z = 0) := by
          show _ = _
          have e : R = false := by
            cases hR9 : R with
            | false => rfl
            | true => exact absurd (K8.out.2 hR9) hk
          rw [HR0.out, e]; rfl
        clear HR0 K8 hk
        go_wp2
        go_ret
        exact ⟨by rw [HZ.out]; rfl, K7.out⟩
end Go.Proofs.YtjmpjfggbhongaaDoor
namespace Go.Proofs.YtjmpjfggbhongaaDoor
open Go.RowKit Go.Shelf Go.Maps
set_option linter.unusedVariables false
/-- What an alternative may hold. -/
def FitA (a : AltH) : Prop := a.name.size ≤ maxLen ∧ a.vars.length ≤ 2000000 ∧ (∀ x ∈ a.vars, x.size ≤ maxLen) ∧ Lit.wf (.int .i64 a.num) = true
/-- What alike answers. -/
def AlkOK (m : Nat) (alk : List AltH → Bool) (w : World) : Prop := ∀ (W : World), Below w.heap.size w W → ∀ (d : Nat) (l : List (AltH × Tr d)) (o : Option Addr) (cap B : Nat), RowIn B 11 (AltAt W B d) o l → B ≤ W.heap.size → l.length ≤ 2000000 → (∀ a ∈ l, FitA a.1) → Calls Tryd.prog 97 #[.map (some m), .slice o l.length cap] W fun e w' => e = .returned (.bool (alk (l.map Prod.fst))) ∧ Below W.heap.size W w'
/-- Those that are no AltElse at the end. -/
def noElse (l : List AltH) : List AltH := if (l.getLast?.map (fun a => decide (a.kind = 4))).getD false then l.dropLast else l
def altsB (alk : List AltH → Bool) (l : List AltH) : Bool := !l.isEmpty && (l.all altB && alk (noElse l))
theorem RowIn.take {α : Type} {B n : Nat} {p : α → Nat → Nat → Prop} {o : Option Addr} {l : List α} (h : RowIn B n p o l) (k : Nat) : RowIn B n p o (l.take k) := by
  rcases h with h | ⟨g, off, e, hg, h⟩
  · exact .inl (by rw [h]; exact List.take_nil)
  · refine .inr ⟨g, off, e, hg, fun j hj => ?_⟩
    rw [List.getElem_take]
    exact h j (by rw [List.length_take] at hj; omega)
set_option maxRecDepth 100000 in
set_option maxHeartbeats 4000000 in
theorem mayBeAlts_c (m : Nat) (alk : List AltH → Bool) (w : World) (hA : AlkOK m alk w) (d : Nat) (l : List (AltH × Tr d)) (o : Option Addr) (cap B : Nat) (hl : RowIn B 11 (AltAt w B d) o l) (hw : B ≤ w.heap.size) (hn : l.length ≤ 2000000) (hcap : l.length ≤ cap) (hF : ∀ a ∈ l, FitA a.1) :
    Calls Tryd.prog 78 #[.map (some m), .slice o l.length cap] w fun e w' => e = .returned (.bool (altsB alk (l.map Prod.fst))) ∧ Below w.heap.size w w' := by
  have hrow : ∀ {W : World}, Below w.heap.size w W → RowIn B 11 (AltAt W B d) o l := fun hW => hl.mono (fun y g off hg h => AltAt.same (fun g off hg => cell_of_block (hW.block g (by omega)) off) h)
  have H1 : Hid (∀ (W : World), Below w.heap.size w W → ∀ k, Calls Tryd.prog 97 #[.map (some m), .slice o (l.take k).length cap] W fun e w' => e = .returned (.bool (alk ((l.take k).map Prod.fst))) ∧ Below w.heap.size w w') := fun W hW k => by
    refine (hA W hW d (l.take k) o cap B ((hrow hW).take k) (Nat.le_trans hw hW.size) (by rw [List.length_take]; omega) (fun a ha => hF a (List.mem_of_mem_take ha))).mono ?_
    rintro e w' ⟨rfl, h9⟩
    exact ⟨rfl, hW.trans (h9.mono hW.size)⟩
  have H2 : Hid (∀ k (h : k < l.length), ∃ g off, o = some ⟨g, off, none⟩ ∧ g < w.heap.size ∧ ∀ W, Below w.heap.size w W → W.cell? ⟨g, off + k * 11, none⟩ = some (.int .i64 l[k].1.kind) ∧ Calls Tryd.prog 96 #[.pointer (some ⟨g, off + k * 11, none⟩)] W fun e w' => e = .returned (.bool (altB l[k].1)) ∧ Below w.heap.size w w') := by
    intro k hk
    rcases hl with h0 | ⟨g, off, e, hg, hE⟩
    · subst h0; cases hk
    · refine ⟨g, off, e, by omega, fun W hW => ?_⟩
      have hc : ∀ j, W.cell? ⟨g, j, none⟩ = w.cell? ⟨g, j, none⟩ := fun j => cell_of_block (hW.block g (by omega)) j
      obtain ⟨a0, a1, a2, ⟨oo, cc, a3, av⟩, -⟩ := hE k hk
      refine ⟨(hc _).trans a0, ?_⟩
      have hf := hF _ (List.getElem_mem hk)
      refine (mayBeAlt_c l[k].1 B g (off + k * 11) W oo cc (by have := hW.size; omega) ((hc _).trans a0) ((hc _).trans a1) ((hc _).trans a2) ((hc _).trans a3) (av.same (fun g off hg => cell_of_block (hW.block g (by omega)) off)) (Nat.le_trans hw hW.size) ⟨hf.1, hf.2.1, hf.2.2.1⟩).mono ?_
      rintro e w' ⟨rfl, h9⟩
      exact ⟨rfl, hW.trans (h9.mono hW.size)⟩
  obtain ⟨n, hln⟩ : ∃ n, l.length = n := ⟨_, rfl⟩
  have HN : Hid (l.length = n) := hln
  have HCap : Hid (n ≤ cap) := by show _ ≤ _; omega
  have HR : Hid (altsB alk (l.map Prod.fst) = (!(l.map Prod.fst).isEmpty && ((l.map Prod.fst).all altB && alk (noElse (l.map Prod.fst))))) := rfl
  generalize altsB alk (l.map Prod.fst) = Z at HR ⊢
  have hni : (n : Int) ≤ 2000000 := by omega
  rw [hln]
  clear hl hw hn hF hA hrow hcap
  by_cases h0 : n = 0
  · have HZ : Hid (Z = false) := by
      show _ = _
      have e : l = [] := List.length_eq_zero_iff.1 (hln.trans h0)
      rw [HR.out, e]; rfl
    subst h0
    clear hln HR HN H1 H2
    go_enter Tryd.func78, Tryd.ntmps78
    go_wp2
    go_ret
    exact ⟨by rw [HZ.out]; rfl, Below.refl _ _⟩
  have hn0 : ((n : Int) == 0) = false := by simp; omega
  have hn1 : ¬ (n : Int) = 0 := by omega
  have HP : Hid (0 < n) := Nat.pos_of_ne_zero h0
  clear hln
  go_enter Tryd.func78, Tryd.ntmps78
  go_wp2
  go_loopw [11] (fun i wr => ∃ k : Nat, k ≤ n ∧ i = .int .i64 k ∧ Hid ((l.take k).all (fun a => altB a.1) = true ∧ Below w.heap.size w wr)) (fun i _ => n - (intOf i).toNat)
  case atStart => exact ⟨0, Nat.zero_le _, rfl, ⟨rfl, Below.refl _ _⟩⟩
  case round =>
    obtain ⟨k, hk, rfl, hS⟩ := hrel
    by_cases hkn : k < n
    · have hkl : k < l.length := by rw [HN.out]; exact hkn
      obtain ⟨g, off, rfl, hg, hC⟩ := H2.out k hkl
      have hgw : g < wr.heap.size := Nat.lt_of_lt_of_le hg hS.out.2.size
      have HC : Hid (Calls Tryd.prog 96 #[.pointer (some ⟨g, off + k * 11, none⟩)] wr fun e w' => e = .returned (.bool (altB l[k].1)) ∧ Below w.heap.size w w') := (hC wr hS.out.2).2
      have HT : Hid (∀ b, altB l[k].1 = b → (l.take (k + 1)).all (fun a => altB a.1) = b ∧ (b = false → (l.map Prod.fst).all altB = false)) := by
        intro b hb
        refine ⟨by rw [List.take_succ_eq_append_getElem hkl, List.all_append, hS.out.1]; simp [hb], fun e => ?_⟩
        subst e
        cases e : (l.map Prod.fst).all altB with
        | false => rfl
        | true =>
          have := List.all_eq_true.1 e l[k].1 (List.mem_map.2 ⟨l[k], List.getElem_mem hkl, rfl⟩)
          rw [hb] at this; cases this
      generalize altB l[k].1 = Rk at HC HT
      clear hC hk hkl hS H1 H2
      go_wp2_with (go_at_call 96; fail)
      refine HC.out.mono ?_
      rintro e w2 ⟨rfl, hr⟩
      have HR2 : Hid (Below w.heap.size w w2) := hr
      clear hr HC
      cases Rk with
      | true =>
        go_wp2
        go_roundw
        case rel => exact ⟨k + 1, hkn, by go_num, ⟨(HT.out true rfl).1, HR2.out⟩⟩
        case measure => simp [intOf]; omega
      | false =>
        go_wp2
        go_ret
        exact ⟨by rw [HR.out, (HT.out false rfl).2 rfl, Bool.false_and, Bool.and_false]; rfl, HR2.out⟩
    · have hlp : n - 1 < l.length := by rw [HN.out]; have := HP.out; omega
      obtain ⟨g, off, rfl, hg, hC⟩ := H2.out (n - 1) hlp
      have hgw : g < wr.heap.size := Nat.lt_of_lt_of_le hg hS.out.2.size
      have hcl := (hC wr hS.out.2).1
      have hall : l.all (fun a => altB a.1) = true := by
        have e : l.take k = l := List.take_of_length_le (by rw [HN.out]; omega)
        have h3 := hS.out.1
        rw [e] at h3
        exact h3
      have HZ : Hid (Z = alk (noElse (l.map Prod.fst))) := by
        show _ = _
        have e1 : (l.map Prod.fst).all altB = true := by rw [List.all_map]; exact hall
        have e2 : (l.map Prod.fst).isEmpty = false := by
          cases l with
          | nil => have := HN.out; have := HP.out; simp at *; omega
          | cons a r => rfl
        rw [HR.out, e1, e2]; rfl
      have HB : Hid (Below w.heap.size w wr) := hS.out.2
      have hki : ¬ (k : Int) < (n : Int) := by omega
      obtain ⟨p, hp⟩ : ∃ p, n - 1 = p := ⟨_, rfl⟩
      have hq : (n : Int) - 1 = (p : Int) := by have := HP.out; omega
      have hpi : (p : Int) < (n : Int) := by have := HP.out; omega
      have hpn : p < n := by have := HP.out; omega
      have HPn : Hid (p + 1 = n) := by show _ = _; have := HP.out; omega
      simp only [hp] at hcl
      have hpl : p < l.length := by rw [HN.out]; exact hpn
      have HK1 : Hid (∀ b, decide (l[p].1.kind = 4) = b → noElse (l.map Prod.fst) = (l.take (if b then p else n)).map Prod.fst) := by
        intro b hb
        have hlast : (l.map Prod.fst).getLast? = some l[p].1 := by
          rw [List.getLast?_eq_getElem?, List.length_map, HN.out, show n - 1 = p from by have := HPn.out; omega, List.getElem?_map, List.getElem?_eq_getElem hpl]; rfl
        unfold noElse
        rw [hlast]
        simp only [Option.map_some, Option.getD_some, hb]
        cases b with
        | true =>
          simp only [if_true]
          rw [List.dropLast_eq_take, List.length_map, HN.out, show n - 1 = p from by have := HPn.out; omega, List.map_take]
        | false =>
          simp only [Bool.false_eq_true, if_false]
          rw [List.take_of_length_le (by rw [HN.out]; exact Nat.le_refl _)]
      have HLp : Hid ((l.take p).length = p ∧ (l.take n).length = n) := ⟨by rw [List.length_take]; have := HN.out; have := HPn.out; omega, by rw [List.length_take]; have := HN.out; omega⟩
      have HA1 : Hid (∀ k q, (l.take k).length = q → Calls Tryd.prog 97 #[.map (some m), .slice (some ⟨g, off, none⟩) q cap] wr fun e w' => e = .returned (.bool (alk ((l.take k).map Prod.fst))) ∧ Below w.heap.size w w') := fun k q hq9 => by
        have h9 := H1.out wr HB.out k
        rw [hq9] at h9
        exact h9
      obtain ⟨kd, hkd⟩ : ∃ kd, l[p].1.kind = kd := ⟨_, rfl⟩
      rw [hkd] at hcl HK1
      have hpc : p ≤ cap := by have := HCap.out; omega
      have hpci : (p : Int) ≤ (cap : Int) := by omega
      clear hC hS H2 hall hk hkn hp hkd H1
      by_cases h4 : kd = 4
      · have HZ2 : Hid (Z = alk ((l.take p).map Prod.fst)) := by show _ = _; rw [HZ.out, HK1.out true (by rw [h4]; rfl)]; rfl
        subst h4
        go_wp2_with (go_at_call 97; fail)
        refine (HA1.out p p HLp.out.1).mono ?_
        rintro e w2 ⟨rfl, hr⟩
        have HR2 : Hid (Below w.heap.size w w2) := hr
        clear hr
        go_wp2
        go_ret
        exact ⟨by rw [HZ2.out, List.map_take]; rfl, HR2.out⟩
      · have HZ2 : Hid (Z = alk ((l.take n).map Prod.fst)) := by show _ = _; rw [HZ.out, HK1.out false (by simpa using h4)]; rfl
        have e4 : (kd == 4) = false := by simpa using h4
        go_wp2_with (go_at_call 97; fail)
        refine (HA1.out n n HLp.out.2).mono ?_
        rintro e w2 ⟨rfl, hr⟩
        have HR2 : Hid (Below w.heap.size w w2) := hr
        clear hr
        go_wp2
        go_ret
        exact ⟨by rw [HZ2.out, List.map_take]; rfl, HR2.out⟩
end Go.Proofs.YtjmpjfggbhongaaDoor
namespace Go.Proofs.YtjmpjfggbhongaaDoor
open Go.RowKit Go.Shelf Go.Maps
set_option linter.unusedVariables false
/-- The built-in constructors. -/
def bi7 : List CT := [(⟨#[70, 97, 108, 115, 101]⟩, 0, ⟨#[66, 111, 111, 108]⟩, 0), (⟨#[84, 114, 117, 101]⟩, 0, ⟨#[66, 111, 111, 108]⟩, 1), (⟨#[78, 105, 108]⟩, 0, ⟨#[76, 105, 115, 116]⟩, 0), (⟨#[67, 111, 110, 115]⟩, 2, ⟨#[76, 105, 115, 116]⟩, 1), (⟨#[85, 110, 105, 116]⟩, 0, ⟨#[85, 110, 105, 116]⟩, 0)]
def bi7V : Array Value := #[.string ⟨#[70, 97, 108, 115, 101]⟩, .int .i64 0, .string ⟨#[66, 111, 111, 108]⟩, .int .i64 0, .string ⟨#[84, 114, 117, 101]⟩, .int .i64 0, .string ⟨#[66, 111, 111, 108]⟩, .int .i64 1, .string ⟨#[78, 105, 108]⟩, .int .i64 0, .string ⟨#[76, 105, 115, 116]⟩, .int .i64 0, .string ⟨#[67, 111, 110, 115]⟩, .int .i64 2, .string ⟨#[76, 105, 115, 116]⟩, .int .i64 1, .string ⟨#[85, 110, 105, 116]⟩, .int .i64 0, .string ⟨#[85, 110, 105, 116]⟩, .int .i64 0]
theorem bi7_row {W : World} {g B : Nat} {T : TypeId} (h : Blk W g bi7V T) (hg : g < B) : RowIn B 4 (ConAt W) (some ⟨g, 0, none⟩) bi7 := by
  refine .inr ⟨g, 0, rfl, hg, fun k hk => ?_⟩
  have hk5 : k < 5 := hk
  rcases (by omega : k = 0 ∨ k = 1 ∨ k = 2 ∨ k = 3 ∨ k = 4) with rfl | rfl | rfl | rfl | rfl <;> exact ⟨h.cell _ _ rfl, h.cell _ _ rfl, h.cell _ _ rfl, h.cell _ _ rfl⟩
end Go.Proofs.YtjmpjfggbhongaaDoor
namespace Go.Proofs.YtjmpjfggbhongaaDoor
open Go.RowKit Go.Shelf Go.Maps
set_option linter.unusedVariables false
theorem owns_same {w w' : World} {base : Nat} {e : TypeId} {size : Nat} {v : Value} {n : Nat} {xs : List Value} (h : w.ownsRow base e size v n xs) (hb : ∀ g, v.ownBlock = some g → w'.heap[g]? = w.heap[g]?) : w'.ownsRow base e size v n xs := by
  obtain ⟨h1, h2⟩ := h
  refine ⟨h1, ?_⟩
  rcases h2 with h2 | ⟨g, cap, cur, rfl, h3, h4, h5⟩
  · exact .inl h2
  · exact .inr ⟨g, cap, cur, rfl, h3, by rw [hb g rfl]; exact h4, h5⟩
theorem heap_set_other (W : World) (b j : Nat) (u : Value) (k : Nat) (h : k ≠ b) : (W.setCell ⟨b, j, none⟩ u).heap[k]? = W.heap[k]? := by
  show (W.heap.modify b _)[k]? = _
  rw [Array.getElem?_modify]
  simp [Ne.symm h]
theorem size_set7 (W : World) (a : Addr) (u : Value) : (W.setCell a u).heap.size = W.heap.size := by
  show (W.heap.modify _ _).size = _
  rw [Array.size_modify]
end Go.Proofs.YtjmpjfggbhongaaDoor
namespace Go.Proofs.YtjmpjfggbhongaaDoor
open Go.RowKit Go.Shelf Go.Maps
set_option linter.unusedVariables false
/-- The types of those alternatives whose constructors are there. -/
def tyL (fs : List CT) (l : List AltH) : List ByteArray := l.filterMap (fun a => (fstC fs a.name.data.toList).map (fun f => f.2.2.1))
def akB (k0 : Int) (a : AltH) : Bool := !decide (a.kind = 4) && decide (a.kind = k0)
def cpl (ts : List ByteArray) : Nat := (Lib.compactUpTo (ts.map (fun t => t.data.toList)).toArray ts.length).length
def kyL (l : List AltH) : List (ByteArray × Int) := l.map (fun a => (a.name, a.num))
def hdK (l : List AltH) : Int := (l.head?.map (fun a => a.kind)).getD 0
def alkM (fs : List CT) (l : List AltH) : Bool := l.all (akB (hdK l)) && (decide ((kd2 (kyL l)).Nodup) && decide (cpl (tyL fs l) ≤ 1))
theorem infoKey7 : (Tryd.prog.info? 164).map (fun i => (i.zero, i.size, i.bytes)) = some (some (.agg #[.string ⟨#[]⟩, .int .i64 0]), 2, 24) := by kernel_rfl
theorem mkK_run (n : Nat) (W : World) (hn : n ≤ 2000000) : (Instr.makeSlice 162 (.int .i64 (n : Int)) (.int .i64 (n : Int))).run Tryd.prog W = .ok (.slice (some ⟨W.heap.size, 0, none⟩) n n) (W.alloc (.cells (madeCells #[.string ⟨#[]⟩, .int .i64 0] (n * 2)) 164)) := by
  obtain ⟨i, hi, hzz⟩ := Option.map_eq_some_iff.1 infoKey7
  simp only [Prod.mk.injEq] at hzz
  obtain ⟨hz, hs, hb⟩ := hzz
  have hr := run_make (P := Tryd.prog) W 162 164 i _ Tryd.underlying162 hi hz .i64 .i64 n n (by omega) (Int.le_refl _) (by rw [hb]; omega) (by omega)
  simp only [Int.toNat_natCast, hs] at hr
  exact hr
structure AkI (w : World) (n : Nat) (l : List AltH) (fs : List CT) (k : Nat) (ty : Value) (W : World) : Prop where
  le : k ≤ n
  ok : (l.take k).all (akB (hdK l)) = true
  ky : ∃ arr : Array Value, Blk W w.heap.size arr 164 ∧ arr.size = n * 2 ∧ ∀ i (h : i < l.length), i < k → arr[i * 2]? = some (.string l[i].name) ∧ arr[i * 2 + 1]? = some (.int .i64 l[i].num)
  ty : W.ownsRow (w.heap.size + 1) 9 1 ty (tyL fs (l.take k)).length ((tyL fs (l.take k)).map Value.string)
  b : Below w.heap.size w W
theorem tyL_len (fs : List CT) (l : List AltH) : (tyL fs l).length ≤ l.length := List.length_filterMap_le _ _
theorem ak_start (w : World) (n : Nat) (l : List AltH) (fs : List CT) : AkI w n l fs 0 (.slice none 0 0) (w.alloc (.cells (madeCells #[.string ⟨#[]⟩, .int .i64 0] (n * 2)) 164)) :=
  ⟨Nat.zero_le _, rfl, ⟨_, Blk.new w _ _, size_madeCells _ _, fun i h hi => absurd hi (Nat.not_lt_zero _)⟩, World.ownsRow_nil _ _ _ _, below1 w _⟩
/-- All blocks stay but the keys' own; two cells of it are written. -/
theorem AkI.key {w W V : World} {n : Nat} {l : List AltH} {fs : List CT} {k : Nat} {ty : Value} (h : AkI w n l fs k ty W) (hV : Below W.heap.size W V) (hk : k < n) (hkl : k < l.length) :
    ∃ arr : Array Value, Blk ((V.setCell ⟨w.heap.size, k * 2, none⟩ (.string l[k].name)).setCell ⟨w.heap.size, k * 2 + 1, none⟩ (.int .i64 l[k].num)) w.heap.size arr 164 ∧ arr.size = n * 2 ∧ ∀ i (h : i < l.length), i < k + 1 → arr[i * 2]? = some (.string l[i].name) ∧ arr[i * 2 + 1]? = some (.int .i64 l[i].num) := by
  obtain ⟨arr, h1, h2, h3⟩ := h.ky
  refine ⟨(arr.setIfInBounds (k * 2) (.string l[k].name)).setIfInBounds (k * 2 + 1) (.int .i64 l[k].num), ((h1.below hV).set _ _).set _ _, by simpa using h2, fun i hi hik => ?_⟩
  by_cases e : i = k
  · subst e
    constructor
    · rw [Array.getElem?_setIfInBounds_ne (by omega), Array.getElem?_setIfInBounds_self_of_lt (by omega)]
    · rw [Array.getElem?_setIfInBounds_self_of_lt (by simp; omega)]
  · constructor
    · rw [Array.getElem?_setIfInBounds_ne (by omega), Array.getElem?_setIfInBounds_ne (by omega)]
      exact (h3 i hi (by omega)).1
    · rw [Array.getElem?_setIfInBounds_ne (by omega), Array.getElem?_setIfInBounds_ne (by omega)]
      exact (h3 i hi (by omega)).2
/-- Behind the store of a key. -/
theorem AkI.stored {w W V : World} {n : Nat} {l : List AltH} {fs : List CT} {k : Nat} {ty : Value} (h : AkI w n l fs k ty W) (hV : Below W.heap.size W V) (hk : k < n) (hkl : k < l.length) (hok : akB (hdK l) l[k] = true) (U : World) (hU : U = (V.setCell ⟨w.heap.size, k * 2, none⟩ (.string l[k].name)).setCell ⟨w.heap.size, k * 2 + 1, none⟩ (.int .i64 l[k].num)) (X : World) (hX : Below U.heap.size U X) :
    U.ownsRow (w.heap.size + 1) 9 1 ty (tyL fs (l.take k)).length ((tyL fs (l.take k)).map Value.string) ∧ Below w.heap.size w U ∧ w.heap.size < U.heap.size ∧ (l.take (k + 1)).all (akB (hdK l)) = true ∧ (fstC fs l[k].name.data.toList = none → AkI w n l fs (k + 1) ty X) := by
  have hs : U.heap.size = V.heap.size := by rw [hU, size_set7, size_set7]
  have hBV : Below w.heap.size w V := h.b.trans (hV.mono h.b.size)
  have hlt : w.heap.size < W.heap.size := by obtain ⟨arr, h1, -⟩ := h.ky; exact h1.lt
  have o1 : U.ownsRow (w.heap.size + 1) 9 1 ty (tyL fs (l.take k)).length ((tyL fs (l.take k)).map Value.string) := owns_same h.ty (fun g hg => by
    have := h.ty.lt g hg
    rw [hU, heap_set_other _ _ _ _ _ (by omega), heap_set_other _ _ _ _ _ (by omega), hV.block g this.2])
  have b1 : Below w.heap.size w U := by rw [hU]; exact (hBV.setCell (p := ⟨w.heap.size, k * 2, none⟩) (Nat.le_refl _) _).setCell (p := ⟨w.heap.size, k * 2 + 1, none⟩) (Nat.le_refl _) _
  have l1 : w.heap.size < U.heap.size := by rw [hs]; have := hV.size; omega
  have a1 : (l.take (k + 1)).all (akB (hdK l)) = true := by rw [List.take_succ_eq_append_getElem hkl, List.all_append, h.ok]; simp [hok]
  refine ⟨o1, b1, l1, a1, fun hn => ?_⟩
  have e1 : tyL fs (l.take (k + 1)) = tyL fs (l.take k) := by
    rw [List.take_succ_eq_append_getElem hkl]
    unfold tyL
    rw [List.filterMap_append]
    simp [hn]
  obtain ⟨arr, q1, q2, q3⟩ := h.key hV hk hkl
  rw [← hU] at q1
  refine ⟨hk, a1, ⟨arr, q1.below hX, q2, q3⟩, ?_, b1.trans (hX.mono (Nat.le_of_lt l1))⟩
  rw [e1]
  exact owns_same o1 (fun g hg => hX.block g (o1.lt g hg).2)
theorem news_one (W : World) (x : Value) (t : TypeId) (N : Nat) (hN : W.heap.size = N) : ∀ j u, [x][j]? = some u → (W.alloc (.cells #[x] t)).cell? ((⟨N, 0, none⟩ : Addr).add j) = some u := by
  subst hN; exact cell_one_new W x t
/-- Behind the append of a type. -/
theorem AkI.grown {w W V : World} {n : Nat} {l : List AltH} {fs : List CT} {k : Nat} {ty v : Value} (h : AkI w n l fs k ty W) (hV : Below W.heap.size W V) (hk : k < n) (hkl : k < l.length) (hok : akB (hdK l) l[k] = true) (U : World) (hU : U = (V.setCell ⟨w.heap.size, k * 2, none⟩ (.string l[k].name)).setCell ⟨w.heap.size, k * 2 + 1, none⟩ (.int .i64 l[k].num)) (X w8 : World) (hX : Below U.heap.size U X) (f : CT) (hf : fstC fs l[k].name.data.toList = some f) (hg : X.grownBy w8 ty.ownBlock)
    (ho : w8.ownsRow (w.heap.size + 1) 9 1 v ((tyL fs (l.take k)).length + 1) ((tyL fs (l.take k)).map Value.string ++ [.string f.2.2.1])) : AkI w n l fs (k + 1) v w8 := by
  obtain ⟨o1, b1, l1, a1, -⟩ := h.stored hV hk hkl hok U hU X hX
  have e1 : tyL fs (l.take (k + 1)) = tyL fs (l.take k) ++ [f.2.2.1] := by
    rw [List.take_succ_eq_append_getElem hkl]
    unfold tyL
    rw [List.filterMap_append]
    simp [hf]
  obtain ⟨arr, q1, q2, q3⟩ := h.key hV hk hkl
  rw [← hU] at q1
  have hne : ∀ g, ty.ownBlock = some g → w.heap.size + 1 ≤ g := fun g hg => (o1.lt g hg).1
  have bX : Below w.heap.size w X := b1.trans (hX.mono (Nat.le_of_lt l1))
  refine ⟨hk, a1, ⟨arr, ?_, q2, q3⟩, ?_, bX.grown hg bX.size (fun j hj => by have := hne j hj; omega)⟩
  · have q9 := q1.below hX
    unfold Blk at q9 ⊢
    rw [hg.block _ (by have := hX.size; omega) (fun e => by have := hne _ e.symm; omega)]
    exact q9
  · rw [e1, List.length_append, List.map_append]
    exact ho
end Go.Proofs.YtjmpjfggbhongaaDoor
namespace Go.Proofs.YtjmpjfggbhongaaDoor
open Go.RowKit Go.Shelf Go.Maps
set_option linter.unusedVariables false
/-- The cells of an alternative. -/
def AC (W : World) (a : AltH) (g off : Nat) : Prop := ∃ o3 n3 c3 k4 n5 m6 o7 n7 c7 o8 n8 c8 o9 n9 c9 oA nA cA, W.cell? ⟨g, off, none⟩ = some (.int .i64 a.kind) ∧ W.cell? ⟨g, off + 1, none⟩ = some (.string a.name) ∧ W.cell? ⟨g, off + 2, none⟩ = some (.int .i64 a.num) ∧ W.cell? ⟨g, off + 3, none⟩ = some (.slice o3 n3 c3) ∧ W.cell? ⟨g, off + 4, none⟩ = some (.int .i64 k4) ∧ W.cell? ⟨g, off + 5, none⟩ = some (.string n5) ∧ W.cell? ⟨g, off + 6, none⟩ = some (.int .i64 m6) ∧ W.cell? ⟨g, off + 7, none⟩ = some (.slice o7 n7 c7) ∧ W.cell? ⟨g, off + 8, none⟩ = some (.slice o8 n8 c8) ∧ W.cell? ⟨g, off + 9, none⟩ = some (.slice o9 n9 c9) ∧ W.cell? ⟨g, off + 10, none⟩ = some (.slice oA nA cA)
theorem alt_cells {W : World} {B d : Nat} {a : AltH × Tr d} {g off : Nat} (h : AltAt W B d a g off) : g < B ∧ AC W a.1 g off := by
  cases d with
  | zero => exact nomatch a.2
  | succ d =>
    obtain ⟨a0, a1, a2, ⟨o3, c3, a3, -⟩, hg, e0, e1, e2, ⟨o7, c7, e3, -⟩, ⟨o8, c8, e4, -⟩, ⟨o9, c9, e5, -⟩, oA, cA, e6, -⟩ := h
    exact ⟨hg, o3, _, c3, _, _, _, o7, _, c7, o8, _, c8, o9, _, c9, oA, _, cA, a0, a1, a2, a3, e0, e1, e2, e3, e4, e5, e6⟩
theorem AC.same {W W' : World} {a : AltH} {g off : Nat} (h : AC W a g off) (hb : W'.heap[g]? = W.heap[g]?) : AC W' a g off := by
  obtain ⟨o3, n3, c3, k4, n5, m6, o7, n7, c7, o8, n8, c8, o9, n9, c9, oA, nA, cA, h0, h1, h2, h3, h4, h5, h6, h7, h8, h9, hA⟩ := h
  have e : ∀ j, W'.cell? ⟨g, j, none⟩ = W.cell? ⟨g, j, none⟩ := fun j => cell_of_block hb j
  exact ⟨o3, n3, c3, k4, n5, m6, o7, n7, c7, o8, n8, c8, o9, n9, c9, oA, nA, cA, (e _).trans h0, (e _).trans h1, (e _).trans h2, (e _).trans h3, (e _).trans h4, (e _).trans h5, (e _).trans h6, (e _).trans h7, (e _).trans h8, (e _).trans h9, (e _).trans hA⟩
set_option maxRecDepth 100000 in
set_option maxHeartbeats 8000000 in
theorem alike_c (fs : List CT) (m c : Nat) (w : World) (hc : CtSt w m c fs) (d : Nat) (l : List (AltH × Tr d)) (o : Option Addr) (cap B : Nat) (hl : RowIn B 11 (AltAt w B d) o l) (hw : B ≤ w.heap.size) (hn : l.length ≤ 2000000) (hF : ∀ a ∈ l, FitA a.1) :
    Calls Tryd.prog 97 #[.map (some m), .slice o l.length cap] w fun e w' => e = .returned (.bool (alkM fs (l.map Prod.fst))) ∧ Below w.heap.size w w' := by
  obtain ⟨L, hL⟩ : ∃ L, l.map Prod.fst = L := ⟨_, rfl⟩
  obtain ⟨n, hln⟩ : ∃ n, l.length = n := ⟨_, rfl⟩
  have hLn : L.length = n := by rw [← hL, List.length_map, hln]
  have HC : Hid (∀ k (h : k < L.length), ∃ g off, o = some ⟨g, off, none⟩ ∧ g < w.heap.size ∧ AC w L[k] g (off + k * 11)) := by
    intro k hk
    have hkl : k < l.length := by omega
    rcases hl with h9 | ⟨g, off, e, hg, h9⟩
    · rw [h9] at hkl; exact absurd hkl (Nat.not_lt_zero _)
    · have h8 := alt_cells (h9 k hkl)
      refine ⟨g, off, e, by omega, ?_⟩
      have e2 : L[k] = l[k].1 := by subst hL; rw [List.getElem_map]
      rw [e2]; exact h8.2
  have HFt : Hid (∀ a ∈ L, FitA a) := by
    intro a ha
    rw [← hL] at ha
    obtain ⟨x, hx, rfl⟩ := List.mem_map.1 ha
    exact hF x hx
  have HN : Hid (L.length = n ∧ n ≤ 2000000) := ⟨hLn, by omega⟩
  have HCt : Hid (CtSt w m c fs) := hc
  have hni : (n : Int) ≤ 2000000 := by omega
  have hmk : ∀ W : World, (Instr.makeSlice 162 (.int .i64 (n : Int)) (.int .i64 (n : Int))).run Tryd.prog W = .ok (.slice (some ⟨W.heap.size, 0, none⟩) n n) (W.alloc (.cells (madeCells #[.string ⟨#[]⟩, .int .i64 0] (n * 2)) 164)) := fun W => mkK_run n W (by omega)
  have H0 : Hid (AkI w n L fs 0 (.slice none 0 0) (w.alloc (.cells (madeCells #[.string ⟨#[]⟩, .int .i64 0] (n * 2)) 164))) := ak_start w n L fs
  obtain ⟨i0, hi0, hz0, hz1, hz2⟩ := info_parts infoStr7
  have HI0 : Hid (Tryd.prog.info? 9 = some i0 ∧ i0.zero = some (.string ⟨#[]⟩) ∧ i0.size = 1 ∧ i0.bytes = 16) := ⟨hi0, hz0, hz1, hz2⟩
  rw [hln, hL]
  clear hl hw hn hF hln hL hLn hc hi0 hz0 hz1 hz2
  obtain ⟨K, hK⟩ : ∃ K, w.heap.size = K := ⟨_, rfl⟩
  go_enter Tryd.func97, Tryd.ntmps97
  go_wp2
  clear hmk
  go_loopw [16, 6] (fun v ty wr => ∃ k : Nat, v = .int .i64 (k : Int) ∧ Hid (AkI w n L fs k ty wr)) (fun v _ _ => n - (intOf v).toNat)
  case atStart => exact ⟨0, rfl, H0.out⟩
  case round =>
    clear H0
    obtain ⟨k, rfl, HI⟩ := hrel
    by_cases hk : k < n
    · have hkl : k < L.length := by rw [HN.out.1]; exact hk
      obtain ⟨g, off, rfl, hg, hx⟩ := HC.out k hkl
      obtain ⟨g', off', e', hg', hx0⟩ := HC.out 0 (by omega)
      obtain ⟨rfl, rfl⟩ : g = g' ∧ off = off' := by injection e' with e'; injection e' with e1 e2; exact ⟨e1, e2⟩
      clear e' hg'
      have hBk := HI.out.b
      have hgr : g < wr.heap.size := Nat.lt_of_lt_of_le hg hBk.size
      obtain ⟨o3, n3, c3, k4, n5, m6, o7, n7, c7, o8, n8, c8, o9, n9, c9, oA, nA, cA, x0, x1, x2, x3, x4, x5, x6, x7, x8, x9, xA⟩ := hx.same (hBk.block g hg)
      have y0 : wr.cell? ⟨g, off, none⟩ = some (.int .i64 (hdK L)) := by
        obtain ⟨_, _, _, _, _, _, _, _, _, _, _, _, _, _, _, _, _, _, y0, -⟩ := hx0.same (hBk.block g hg)
        have e : hdK L = L[0].kind := by
          unfold hdK
          rw [List.head?_eq_getElem?, List.getElem?_eq_getElem (by omega)]; rfl
        rw [e]
        simpa using y0
      have hki : (k : Int) < (n : Int) := by omega
      have hn0 : (0 : Int) < (n : Int) := by omega
      obtain ⟨kd, hkd⟩ : ∃ kd, L[k].kind = kd := ⟨_, rfl⟩
      obtain ⟨nm, hnm⟩ : ∃ nm, L[k].name = nm := ⟨_, rfl⟩
      obtain ⟨nu, hnu⟩ : ∃ nu, L[k].num = nu := ⟨_, rfl⟩
      rw [hkd] at x0
      rw [hnm] at x1
      rw [hnu] at x2
      have HK : Hid (k < n ∧ ∃ h : k < L.length, L[k].kind = kd ∧ L[k].name = nm ∧ L[k].num = nu) := ⟨hk, hkl, hkd, hnm, hnu⟩
      have HBad : Hid (akB (hdK L) L[k] = false → alkM fs L = false) := by
        intro e
        have : L.all (akB (hdK L)) = false := by
          cases e9 : L.all (akB (hdK L)) with
          | false => rfl
          | true => have := List.all_eq_true.1 e9 L[k] (List.getElem_mem hkl); rw [e] at this; cases this
        unfold alkM; rw [this]; rfl
      have HKd : Hid (akB (hdK L) L[k] = (!decide (kd = 4) && decide (kd = hdK L))) := by show _ = _; unfold akB; rw [hkd]
      clear hx hx0 hkd hnm hnu hBk hk
      obtain ⟨k0, hk0⟩ : ∃ k0, hdK L = k0 := ⟨_, rfl⟩
      rw [hk0] at y0 HBad HKd
      have HK0 : Hid (hdK L = k0) := hk0
      clear hk0
      by_cases h4 : kd = 4
      · have HZ : Hid (alkM fs L = false) := HBad.out (by rw [HKd.out, h4]; rfl)
        subst h4
        go_wp2
        go_big_quiet (fail)
        go_wp2
        go_ret
        exact ⟨by rw [HZ.out]; rfl, HI.out.b.trans (((below1 wr _).trans ((dqb _ _).mono (below1 wr _).size)).mono HI.out.b.size)⟩
      · have e4 : (kd == 4) = false := by simpa using h4
        by_cases h0 : kd = k0
        · have HOk : Hid (akB k0 L[k] = true) := by show _ = _; rw [HKd.out, h0, decide_eq_true rfl]; simp [← h0, h4]
          subst h0
          have e00 : (kd != kd) = false := by simp
          go_wp2
          go_big_quiet (fail)
          obtain ⟨V, hV⟩ : ∃ V, (wr.alloc (.cells #[.int .i64 kd, .string nm, .int .i64 nu, .slice o3 n3 c3, .int .i64 k4, .string n5, .int .i64 m6, .slice o7 n7 c7, .slice o8 n8 c8, .slice o9 n9 c9, .slice oA nA cA] 52)).drewN nq = V := ⟨_, rfl⟩
          have hBV : Below wr.heap.size wr V := by rw [← hV]; exact (below1 wr _).trans ((dqb _ _).mono (below1 wr _).size)
          have kV : Blk V wr.heap.size #[.int .i64 kd, .string nm, .int .i64 nu, .slice o3 n3 c3, .int .i64 k4, .string n5, .int .i64 m6, .slice o7 n7 c7, .slice o8 n8 c8, .slice o9 n9 c9, .slice oA nA cA] 52 := by rw [← hV]; exact Blk.new wr _ _
          rw [hV]
          clear hV
          obtain ⟨P, hP⟩ : ∃ P, wr.heap.size = P := ⟨_, rfl⟩
          have HP : Hid (wr.heap.size = P) := hP
          rw [hP] at kV ⊢
          have v1 : V.cell? ⟨P, 1, none⟩ = some (.string nm) := kV.cell 1 _ rfl
          have v2 : V.cell? ⟨P, 2, none⟩ = some (.int .i64 nu) := kV.cell 2 _ rfl
          have lP : P < V.heap.size := kV.lt
          obtain ⟨arr, r1, r2, -⟩ := HI.out.ky
          have r1V := r1.below hBV
          rw [hK] at r1 r1V
          obtain ⟨u0, hu0⟩ : ∃ u, arr[k * 2]? = some u := ⟨_, Array.getElem?_eq_getElem (by have := HK.out.1; omega)⟩
          obtain ⟨u1, hu1⟩ : ∃ u, arr[k * 2 + 1]? = some u := ⟨_, Array.getElem?_eq_getElem (by have := HK.out.1; omega)⟩
          have a1 := r1V.cell _ _ hu0
          have a2 := r1V.cell _ _ hu1
          have a3 := r1V.frozen (k * 2)
          have a4 := r1V.frozen (k * 2 + 1)
          have lK : K < V.heap.size := r1V.lt
          have hKP : K ≠ P := by have := r1.lt; omega
          have hPK : P ≠ K := hKP.symm
          obtain ⟨U, hU⟩ : ∃ U, (V.setCell ⟨K, k * 2, none⟩ (.string nm)).setCell ⟨K, k * 2 + 1, none⟩ (.int .i64 nu) = U := ⟨_, rfl⟩
          have hsU : U.heap.size = V.heap.size := by rw [← hU, size_set7, size_set7]
          have hSt : ∀ X, Below U.heap.size U X → U.ownsRow (w.heap.size + 1) 9 1 u6 (tyL fs (L.take k)).length ((tyL fs (L.take k)).map Value.string) ∧ Below w.heap.size w U ∧ w.heap.size < U.heap.size ∧ (L.take (k + 1)).all (akB (hdK L)) = true ∧ (fstC fs nm.data.toList = none → AkI w n L fs (k + 1) u6 X) := by
            intro X hX
            obtain ⟨q1, q2, q3, q4, q5⟩ := HK.out
            have h9 := HI.out.stored hBV q1 q2 (by rw [HK0.out]; exact HOk.out) U (by rw [q4, q5, hK]; exact hU.symm) X hX
            rw [q4] at h9
            exact h9
          have hCt : CtSt U m c fs := HCt.out.same (by
            have hm := HCt.out.lt
            have hs1 := HI.out.b.size
            rw [← hU, heap_set_other _ _ _ _ _ (by omega), heap_set_other _ _ _ _ _ (by omega), hBV.block m (by omega)]
            exact HI.out.b.block m hm)
          obtain ⟨m0, hm0⟩ : ∃ m0, (tyL fs (L.take k)).length = m0 := ⟨_, rfl⟩
          have hm0n : m0 ≤ 2000000 := by have h1 := tyL_len fs (L.take k); rw [List.length_take] at h1; have := HN.out; omega
          have hCL := hCt.look nm (by obtain ⟨q1, q2, q3, q4, q5⟩ := HK.out; have := (HFt.out _ (List.getElem_mem q2)).1; rw [q4] at this; exact this)
          rw [← hU] at hCL
          have HSt : Hid (∀ X, Below U.heap.size U X → U.ownsRow (w.heap.size + 1) 9 1 u6 (tyL fs (L.take k)).length ((tyL fs (L.take k)).map Value.string) ∧ Below w.heap.size w U ∧ w.heap.size < U.heap.size ∧ (L.take (k + 1)).all (akB (hdK L)) = true ∧ (fstC fs nm.data.toList = none → AkI w n L fs (k + 1) u6 X)) := hSt
          have HUe : Hid ((V.setCell ⟨K, k * 2, none⟩ (.string nm)).setCell ⟨K, k * 2 + 1, none⟩ (.int .i64 nu) = U) := hU
          have HK' : Hid (w.heap.size = K) := hK
          have HBV : Hid (Below wr.heap.size wr V) := hBV
          have HM0 : Hid ((tyL fs (L.take k)).length = m0 ∧ m0 ≤ 2000000) := ⟨hm0, hm0n⟩
          rcases hCL with ⟨f, hf, hr⟩ | ⟨hf, hr⟩
          · have HF1 : Hid (fstC fs nm.data.toList = some f) := hf
            have HO : Hid (U.ownsRow (w.heap.size + 1) 9 1 u6 m0 ((tyL fs (L.take k)).map Value.string)) := by
              have := (hSt U (Below.refl _ _)).1
              rw [hm0] at this; exact this
            have HO2 : Hid (((V.setCell ⟨K, k * 2, none⟩ (.string nm)).setCell ⟨K, k * 2 + 1, none⟩ (.int .i64 nu)).ownsRow (w.heap.size + 1) 9 1 u6 m0 ((tyL fs (L.take k)).map Value.string)) := by show World.ownsRow _ _ _ _ _ _ _; rw [hU]; exact HO.out
            have HVs : Hid (∀ o, (((V.setCell ⟨K, k * 2, none⟩ (.string nm)).setCell ⟨K, k * 2 + 1, none⟩ (.int .i64 nu)).alloc o).heap.size = V.heap.size + 1) := fun o => by show (Array.push _ _).size = _; rw [Array.size_push, size_set7, size_set7]
            have HVb : Hid (∀ o o', w.heap.size + 1 ≤ ((((V.setCell ⟨K, k * 2, none⟩ (.string nm)).setCell ⟨K, k * 2 + 1, none⟩ (.int .i64 nu)).alloc o).alloc o').heap.size) := fun o o' => by show _ ≤ (Array.push _ _).size; rw [Array.size_push, HVs.out]; have := lK; omega
            obtain ⟨f0, f1, f2, f3⟩ := f
            unfold cnV at hr
            simp only at hr
            rw [hU] at hr
            clear hf hSt hBV hK hm0 hCt hsU r1 r1V r2 hu0 hu1 hP kV x0 x1 x2 x3 x4 x5 x6 x7 x8 x9 xA y0
            rw [← hU] at hr
            clear hU
            go_wp2_with (at_builtin; refine wpList_append_lies _ rfl _ _ 24 rfl (w.heap.size + 1) 9 i0 (.string ⟨#[]⟩) 1 16 Tryd.underlying24 HI0.out.1 HI0.out.2.1 HI0.out.2.2.1 HI0.out.2.2.2 rfl (by decide) _ _ _ rfl ((HO2.out.alloc _).alloc _) ⟨V.heap.size + 1, 0, none⟩ 1 1 [.string f2] rfl rfl (news_one _ _ _ _ (HVs.out _)) (by simp [Value.oneCell']) (by decide) (by unfold maxLen; omega) (by omega) (HVb.out _ _) _ rfl ?_; intro o8 c8 w8 hown8 hgrow8 hat8 hlt8; have H8 : Hid (((((V.setCell ⟨K, k * 2, none⟩ (.string nm)).setCell ⟨K, k * 2 + 1, none⟩ (.int .i64 nu)).alloc (.cells #[.string f0, .int .i64 f1, .string f2, .int .i64 f3] 79)).alloc (.cells #[.string f2] 9)).grownBy w8 u6.ownBlock ∧ w8.ownsRow (w.heap.size + 1) 9 1 (.slice (some ⟨o8, 0, none⟩) (m0 + 1) c8) (m0 + 1) ((tyL fs (L.take k)).map Value.string ++ [.string f2])) := ⟨hgrow8, hown8⟩; clear hown8 hgrow8 hat8 hlt8)
            refine ⟨⟨k + 1, by congr 1, ?_⟩, ?_⟩
            · obtain ⟨q1, q2, q3, q4, q5⟩ := HK.out
              have h9 := H8.out
              rw [HUe.out] at h9
              refine HI.out.grown HBV.out q1 q2 (by rw [HK0.out]; exact HOk.out) U (by rw [q4, q5, HK'.out]; exact HUe.out.symm) _ _ ((below1 U _).trans ((below1 _ _).mono (below1 U _).size)) (f0, f1, f2, f3) (by rw [q4]; exact HF1.out) h9.1 ?_
              rw [HM0.out.1]
              exact h9.2
            · show n - ((k : Int) + 1).toNat < n - ((k : Int)).toNat
              have := HK.out.1; omega
          · have HF0 : Hid (fstC fs nm.data.toList = none) := hf
            unfold cnZ at hr
            clear hf hSt hU hBV hK hm0 hm0n hCt hsU r1 r1V r2 hu0 hu1 hP kV x0 x1 x2 x3 x4 x5 x6 x7 x8 x9 xA y0
            go_wp2
            refine ⟨⟨k + 1, by congr 1, ?_⟩, ?_⟩
            · rw [HUe.out]
              exact (HSt.out _ (below1 _ _)).2.2.2.2 HF0.out
            · show n - ((k : Int) + 1).toNat < n - ((k : Int)).toNat
              have := HK.out.1; omega
        · have HZ : Hid (alkM fs L = false) := HBad.out (by rw [HKd.out, decide_eq_false h0, Bool.and_false])
          have e00 : (kd != k0) = true := by simpa using h0
          go_wp2
          go_big_quiet (fail)
          go_wp2
          go_ret
          exact ⟨by rw [HZ.out]; rfl, HI.out.b.trans (((below1 wr _).trans ((dqb _ _).mono (below1 wr _).size)).mono HI.out.b.size)⟩
    · have hki : ¬ (k : Int) < (n : Int) := by omega
      have hkn : k = n := by have := HI.out.le; omega
      subst hkn
      have hLt : L.take k = L := List.take_of_length_le (by have := HN.out.1; omega)
      have hok := HI.out.ok
      have hty := HI.out.ty
      rw [hLt] at hok hty
      obtain ⟨arr, r1, r2, r3⟩ := HI.out.ky
      have hKy : RowIn (w.heap.size + 1) 2 (KyAt wr) (some ⟨w.heap.size, 0, none⟩) (kyL L) := by
        refine .inr ⟨w.heap.size, 0, rfl, by omega, fun j hj => ?_⟩
        have hj2 : j < L.length := by unfold kyL at hj; rw [List.length_map] at hj; exact hj
        have h9 := r3 j hj2 (by have := HN.out.1; omega)
        have e : (kyL L)[j] = (L[j].name, L[j].num) := List.getElem_map ..
        rw [e, Nat.zero_add]
        exact ⟨r1.cell _ _ h9.1, r1.cell _ _ h9.2⟩
      have hkl : (kyL L).length = k := by unfold kyL; rw [List.length_map]; exact HN.out.1
      have HD : Hid (Calls Tryd.prog 109 #[.slice (some ⟨w.heap.size, 0, none⟩) k k] wr fun e w' => e = .returned (.bool (decide ((kd2 (kyL L)).Nodup))) ∧ Below wr.heap.size wr w') := by
        have h9 := distinctK_c (kyL L) (some ⟨w.heap.size, 0, none⟩) k (w.heap.size + 1) wr hKy (by have := r1.lt; omega) (by rw [hkl]; exact HN.out.2) (fun x hx => by
          unfold kyL at hx
          obtain ⟨a, ha, rfl⟩ := List.mem_map.1 hx
          exact ⟨(HFt.out a ha).1, (HFt.out a ha).2.2.2⟩)
        rw [hkl] at h9
        exact h9
      have HZ : Hid (alkM fs L = (decide ((kd2 (kyL L)).Nodup) && decide (cpl (tyL fs L) ≤ 1))) := by
        show _ = _
        unfold alkM; rw [hok, Bool.true_and]
      have HTy : Hid (wr.ownsRow (w.heap.size + 1) 9 1 u6 (tyL fs L).length ((tyL fs L).map Value.string)) := hty
      generalize decide ((kd2 (kyL L)).Nodup) = D at HD HZ
      have HBw : Hid (Below w.heap.size w wr) := HI.out.b
      rw [hK] at HD
      clear r1 r2 r3 hKy hkl hok hty hLt hk
      go_wp2_with (go_at_call 109; fail)
      refine HD.out.mono ?_
      rintro e w2 ⟨rfl, hb2⟩
      have HB2 : Hid (Below w.heap.size w w2) := HBw.out.trans (hb2.mono HBw.out.size)
      have HT2 : Hid (w2.ownsRow (w.heap.size + 1) 9 1 u6 (tyL fs L).length ((tyL fs L).map Value.string)) := owns_same HTy.out (fun g hg => hb2.block g (HTy.out.lt g hg).2)
      clear hb2
      cases D with
      | false =>
        go_wp2
        go_ret
        exact ⟨by rw [HZ.out]; rfl, HB2.out⟩
      | true =>
        have HZ2 : Hid (alkM fs L = decide (cpl (tyL fs L) ≤ 1)) := by show _ = _; rw [HZ.out, Bool.true_and]
        have HCp : Hid (∃ v', Calls Tryd.prog 110 #[u6] w2 (fun e w' => e = .returned v' ∧ Below w.heap.size w w') ∧ ∃ o' c', v' = .slice o' (cpl (tyL fs L)) c') := by
          rcases Go.Joins.ownsRow_forms HT2.out with ⟨hu, h0⟩ | ⟨g, cap2, hu⟩
          · refine ⟨.slice none 0 0, ?_, none, 0, ?_⟩
            · rw [hu]
              refine (Tryd.slices_Compact_empty none 0 w2).mono ?_
              rintro e w' ⟨rfl, rfl⟩
              exact ⟨rfl, HB2.out⟩
            · have e0 : tyL fs L = [] := List.length_eq_zero_iff.1 h0
              rw [e0]; rfl
          · have ho := HT2.out
            rw [hu] at ho ⊢
            have e : ((tyL fs L).map (fun t => t.data.toList)).map Proofs.encStr = (tyL fs L).map Value.string := by
              rw [List.map_map]
              apply List.map_congr_left
              intro x _
              simp [Proofs.encStr]
            rw [← e] at ho
            obtain ⟨g', cap', e1, h1, h2, h3, h4, h5, h6⟩ := Lib.holds_of_ownsRow ho (by intro h; cases h)
            cases e1
            have hsz : ((tyL fs L).map (fun t => t.data.toList)).toArray.size = (tyL fs L).length := by simp
            have hc := Tryd.slices_Compact g 0 cap2 ((tyL fs L).map (fun t => t.data.toList)).toArray w2 h6 (by rw [hsz]; unfold maxLen at h4; omega) (by rw [hsz]; exact h3)
            rw [hsz] at hc
            refine ⟨.slice (some ⟨g, 0, none⟩) (cpl (tyL fs L)) cap2, hc.mono ?_, _, _, rfl⟩
            rintro e w' ⟨rfl, q, rfl⟩
            exact ⟨rfl, Lib.below_putRow HB2.out (by omega)⟩
        have hcpl : cpl (tyL fs L) ≤ 2000000 := by
          have h1 := tyL_len fs L
          have h2 : cpl (tyL fs L) ≤ (tyL fs L).length := by
            unfold cpl Lib.compactUpTo
            rw [List.length_map]
            exact Nat.le_trans (List.length_filter_le _ _) (by rw [List.length_range]; exact Nat.le_refl _)
          have := HN.out; omega
        obtain ⟨v', hCv, o', c', rfl⟩ := HCp.out
        obtain ⟨z, hz⟩ : ∃ z, cpl (tyL fs L) = z := ⟨_, rfl⟩
        rw [hz] at hCv HZ2 hcpl
        have HCv : Hid (Calls Tryd.prog 110 #[u6] w2 (fun e w' => e = .returned (.slice o' z c') ∧ Below w.heap.size w w')) := hCv
        have hzi : (z : Int) ≤ 2000000 := by omega
        clear hCv HCp hz HT2 HTy HZ
        go_wp2_with (go_at_call 110; fail)
        refine HCv.out.mono ?_
        rintro e w3 ⟨rfl, hb3⟩
        have HB3 : Hid (Below w.heap.size w w3) := hb3
        clear hb3
        by_cases h1 : z ≤ 1
        · have hz1 : (z : Int) ≤ 1 := by omega
          have HZ3 : Hid (alkM fs L = true) := by show _ = _; rw [HZ2.out, decide_eq_true h1]
          clear h1
          go_wp2
          go_ret
          exact ⟨by rw [HZ3.out]; first | rfl | simp [hz1], HB3.out⟩
        · have hz1 : ¬ (z : Int) ≤ 1 := by omega
          have HZ3 : Hid (alkM fs L = false) := by show _ = _; rw [HZ2.out, decide_eq_false h1]
          clear h1
          go_wp2
          go_ret
          exact ⟨by rw [HZ3.out]; first | rfl | simp [hz1], HB3.out⟩
end Go.Proofs.YtjmpjfggbhongaaDoor
