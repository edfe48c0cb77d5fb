/-
  check, by a contract.
  mayBeAlts, by a contract, over what alike answers.
  follows, bindsRise of one binding, by contracts.
  follows, of a later type.
  core.Builtin, by a contract.
  Keys of alternatives: a set of pairs of a name and a number; distinct, by a contract.
  Texts without repeats, laid at this program.
  alike, by a contract.
-/
import Derived.Test.YtegdloenakachaaGreatDoorCN15
import Derived.Sort.KeysCollected
import Derived.Test.YtegdloenakachaaGreatDoorCN14
import Derived.DeepKeys4
import Derived.Shelf.Slices.CompactS
import Derived.Test.YtegdloenakachaaGreatDoorProg
import Derived.Test.YtegdloenakachaaGreatDoorCN10
import Derived.Deep.AppendLies
import Derived.Lib.OwnBridge
import Derived.Lib.SmallJoins
namespace Go.Proofs.YtegdloenakachaaGreatDoor
open Go.RowKit Go.Shelf Go.Maps
set_option linter.unusedVariables false

/-- Whether there is a name in a set. -/
theorem SetIs.len0 {W : World} {f c : Nat} {F : List UInt8 → Bool} (h : SetIs W f c F) (ty : TypeId) : ∃ k : Nat, (Builtin.len_ #[65] ty #[.map (some f)]).run Tryz.prog W = .ok (.int .i64 (k : Int)) W ∧ (0 < k ↔ ∃ x, F x = true) := by
  obtain ⟨D, hown, hD, -, hall⟩ := h
  refine ⟨Maps.size D, hown.len Tryz.underlying65 ty, ?_⟩
  obtain ⟨es, rfl, hko⟩ := hown.keysOf
  rw [Maps.size_eq]
  constructor
  · intro h0
    obtain ⟨p, hp⟩ : ∃ p, p ∈ es := List.exists_mem_of_length_pos h0
    obtain ⟨v, hv⟩ := hko p hp
    obtain ⟨x, _, hx, _⟩ := Maps.keyOf_str Tryz.underlying9 hv
    refine ⟨x, ?_⟩
    rw [← hall x, ← hx]
    exact List.any_eq_true.2 ⟨p, hp, WideAt.sameKey_self (by rw [hx]; constructor)⟩
  · rintro ⟨x, hx⟩
    rw [← hall x] at hx
    cases es with
    | nil => cases hx
    | cons a r => simp
/-- What check answers. -/
def chkN (ab : List AltH → Bool) (fs : List CT) (d : Nat) (l : List (ByteArray × Tr d)) (R : Bool) : Int := if l.all (fun b => allM (fun _ t => mbN ab t) d b.2) = false then 2 else if l.all (fun b => allM (fun _ t => shN fs t) d b.2) = false then 9 else if R then 8 else 0
set_option maxRecDepth 100000 in
set_option maxHeartbeats 4000000 in
theorem check_c (ab : List AltH → Bool) (fs : List CT) (of : Option Addr) (cpf : Nat) (names : List ByteArray) (on : Option Addr) (cpn : Nat) (d : Nat) (l : List (ByteArray × Tr d)) (o : Option Addr) (cap B : Nat) (w : World)
    (hl : RowIn B 8 (fun (b : ByteArray × Tr d) g off => w.cell? ⟨g, off, none⟩ = some (.string b.1) ∧ ExAt w B d b.2 g (off + 1)) o l) (hf : RowIn B 4 (ConAt w) of fs) (hn : TxIn w B on names) (hw : B ≤ w.heap.size)
    (hll : l.length ≤ 2000000) (hfl : fs.length ≤ 2000000) (hfz : ∀ f ∈ fs, f.1.size ≤ maxLen) (hnz : ∀ x ∈ names, x.size ≤ maxLen) (hFit : ∀ b ∈ l, Fit d b.2) (hN : ∀ b ∈ l, NmOK d b.2)
    (hc : names.length + 2 * (l.map fun b => costM d b.2).sum ≤ 2000000) (hs : (l.map fun b => sizeM d b.2).sum ≤ 2000000)
    (hcp : ∀ k (h : k < l.length) g off, o = some ⟨g, off, none⟩ → g < B → CpAt w B d l[k].2 g (off + k * 8 + 1))
    (hA : ∀ (W : World) (m c : Nat), Below w.heap.size w W → CtSt W m c fs → MbaOK m ab W)
    (R : Bool) (hR : R = true ↔ ∃ x, l.any (fun b => freeM d b.2 (dl names.reverse) x) = true) :
    Calls Tryz.prog 43 #[.slice o l.length cap, .slice of fs.length cpf, .slice on names.length cpn] w fun e w' => e = .returned (.int .i64 (chkN ab fs d l R)) ∧ Below w.heap.size w w' := by
  have hcell : ∀ {W : World}, Below w.heap.size w W → ∀ g off, g < B → W.cell? ⟨g, off, none⟩ = w.cell? ⟨g, off, none⟩ := fun hW g off hg => cell_of_block (hW.block g (by omega)) off
  have hrow : ∀ {W : World}, Below w.heap.size w W → RowIn B 8 (fun (b : ByteArray × Tr d) g off => W.cell? ⟨g, off, none⟩ = some (.string b.1) ∧ ExAt W B d b.2 g (off + 1)) o l := fun hW => hl.mono (fun y g off hg h => ⟨(hcell hW _ _ hg).trans h.1, ExAt.same (hcell hW) d _ _ _ h.2⟩)
  have E1 : Enters Tryz.prog 84 := enters_of Tryz.func84 (by kernel_rfl) rfl
  have E2 : Enters Tryz.prog 85 := enters_of Tryz.func85 (by kernel_rfl) rfl
  have H1 : Hid (Calls Tryz.prog 82 #[.slice of fs.length cpf] w fun e w' => ∃ c, e = .returned (.map (some w.heap.size)) ∧ CtSt w' w.heap.size c fs ∧ Below w.heap.size w w') := constructorsOf_c fs of cpf B w hf hw hfl hfz
  have H2 : Hid (∀ (W : World) (m c : Nat), Below w.heap.size w W → CtSt W m c fs → Calls Tryz.prog 83 #[.slice o l.length cap, .func (.func 84) #[.map (some m)] #[]] W fun e w' => e = .returned (.bool (l.all (fun b => allM (fun _ t => mbN ab t) d b.2))) ∧ Below W.heap.size W w') := fun W m c hW hC => all_binds_c 84 (.map (some m)) W (fun _ t => mbN ab t) d (allOK _ _ _ _ E1 (fun W' hW' d' t' B' g' off' hE' hCp' hw' hF' => mayBe_c m ab d' t' B' g' off' W' (hA W' m c (hW.trans (hW'.mono hW.size)) (hC.below hW')) hE' hw' hF' hCp'.1) d) l o cap B W (Below.refl _ _) (hrow hW) (Nat.le_trans hw hW.size) hll hFit (fun k hk g off e hg => CpAt.same (hcell hW) d _ _ _ hg (hcp k hk g off e hg))
  have H3 : Hid (∀ (W : World) (m c : Nat), Below w.heap.size w W → CtSt W m c fs → Calls Tryz.prog 83 #[.slice o l.length cap, .func (.func 85) #[.map (some m)] #[]] W fun e w' => e = .returned (.bool (l.all (fun b => allM (fun _ t => shN fs t) d b.2))) ∧ Below W.heap.size W w') := fun W m c hW hC => all_binds_c 85 (.map (some m)) W (fun _ t => shN fs t) d (allOK _ _ _ _ E2 (fun W' hW' d' t' B' g' off' hE' hCp' hw' hF' => shaped_c fs m c d' t' B' g' off' W' (hC.below hW') hE' hw' hF') d) l o cap B W (Below.refl _ _) (hrow hW) (Nat.le_trans hw hW.size) hll hFit (fun k hk g off e hg => CpAt.same (hcell hW) d _ _ _ hg (hcp k hk g off e hg))
  have H5 : Hid (∀ (W : World) (S m f : Nat), Below w.heap.size w W → SkSt W S m f 0 0 [] (fun _ => false) → w.heap.size ≤ S → w.heap.size ≤ m → w.heap.size ≤ f → Calls Tryz.prog 86 #[.pointer (some ⟨S, 0, none⟩), .slice on names.length cpn] W fun e w' => e = .returned (.tuple #[]) ∧ Below w.heap.size w w' ∧ S < w'.heap.size ∧ Calls Tryz.prog 87 #[.pointer (some ⟨S, 0, none⟩), .slice o l.length cap] w' fun e w'' => e = .returned (.tuple #[]) ∧ Below w.heap.size w w'' ∧ S < w''.heap.size ∧ w''.cell? ⟨S, 2, none⟩ = some (.map (some f)) ∧ ∃ k : Nat, (Builtin.len_ #[65] 3 #[.map (some f)]).run Tryz.prog w'' = .ok (.int .i64 (k : Int)) w'' ∧ (0 < k ↔ R = true)) := by
    intro W S m f hW hS h1 h2 h3
    have hsz := hW.size
    refine (bindAll_c names hnz on cpn B S 0 m 0 [] W (hn.same (hcell hW)) (by omega) (by omega) (by omega) hS.sc (by omega) (by simp; omega)).mono ?_
    rintro e w5 ⟨rfl, ext, he, hsc, hch⟩
    have hS5 : SkSt w5 S m f (0 + names.length) 0 (ext ++ []) (fun _ => false) := hS.step hsc hch
    have hB5 : Below w.heap.size w w5 := ⟨hch.os.trans hW.os, hch.tape.trans hW.tape, hch.output.trans hW.output, Nat.le_trans hsz hch.size, fun k hk => (hch.block k (by omega) (by omega) (by omega)).trans (hW.block k hk)⟩
    refine ⟨rfl, hB5, hS5.sc.lt, ?_⟩
    have hsz5 := hB5.size
    have hexl : ext.length = names.length := by have := congrArg List.length he; simpa using this
    refine (seek_binds_c d (seekOK d) l o cap B S m f (0 + names.length) 0 (ext ++ []) (fun _ => false) w5 (hrow hB5) (by omega) (by omega) (by omega) (by omega) hS5 hN (by omega) (by simp; omega) (by omega) hll).mono ?_
    rintro e w6 ⟨rfl, ⟨c', cf', q1, q2, q3⟩, q4⟩
    have hB6 : Below w.heap.size w w6 := ⟨q4.os.trans hB5.os, q4.tape.trans hB5.tape, q4.output.trans hB5.output, Nat.le_trans hsz5 q4.size, fun k hk => (q4.block k (by omega) (by omega) (by omega) (by omega)).trans (hB5.block k hk)⟩
    obtain ⟨k, hk1, hk2⟩ := q3.set.len0 3
    refine ⟨rfl, hB6, q3.sc.lt, q3.found, k, hk1, ?_⟩
    rw [hk2, hR]
    have e : nms (ext ++ []) = dl names.reverse := by rw [nms_grown he]; simp [nms]
    rw [e]
    simp
  have HR0 : Hid (chkN ab fs d l R = if l.all (fun b => allM (fun _ t => mbN ab t) d b.2) = false then 2 else if l.all (fun b => allM (fun _ t => shN fs t) d b.2) = false then 9 else if R then 8 else 0) := rfl
  generalize chkN ab fs d l R = Z at HR0 ⊢
  generalize l.all (fun b => allM (fun _ t => mbN ab t) d b.2) = R1 at H2 HR0
  generalize l.all (fun b => allM (fun _ t => shN fs t) d b.2) = R2 at H3 HR0
  generalize l.length = n1 at H2 H3 H5
  generalize fs.length = n2 at H1
  generalize names.length = n3 at H5
  clear hl hf hn hw hll hfl hfz hnz hFit hN hc hs hA hcp hR hcell hrow E1 E2
  go_enter Tryz.func43, Tryz.ntmps43
  go_wp2_with (go_at_call 82; fail)
  refine H1.out.mono ?_
  rintro e w1 ⟨c, rfl, hC1, hB1⟩
  have K1 : Hid (CtSt w1 w.heap.size c fs ∧ Below w.heap.size w w1) := ⟨hC1, hB1⟩
  clear hC1 hB1 H1
  go_wp2_with (go_at_call 83; fail)
  refine (H2.out w1 w.heap.size c K1.out.2 K1.out.1).mono ?_
  rintro e w2 ⟨rfl, hB2⟩
  have K2 : Hid (CtSt w2 w.heap.size c fs ∧ Below w.heap.size w w2) := ⟨K1.out.1.below hB2, K1.out.2.trans (hB2.mono K1.out.2.size)⟩
  clear hB2 H2 K1
  cases R1 with
  | false =>
    go_wp2
    go_ret
    exact ⟨by rw [HR0.out]; rfl, K2.out.2⟩
  | true =>
    go_wp2_with (go_at_call 83; fail)
    refine (H3.out w2 w.heap.size c K2.out.2 K2.out.1).mono ?_
    rintro e w3 ⟨rfl, hB3⟩
    have K3 : Hid (Below w.heap.size w w3) := K2.out.2.trans (hB3.mono K2.out.2.size)
    clear hB3 H3 K2
    cases R2 with
    | false =>
      go_wp2
      go_ret
      exact ⟨by rw [HR0.out]; rfl, K3.out⟩
    | true =>
      go_wp2_with (go_at_call 58; fail)
      refine (newSeeker_c w3).mono ?_
      rintro e w4 ⟨S, m, f, rfl, hS, hm, hf, hSk, hB4⟩
      have K4 : Hid (Below w.heap.size w w4) := K3.out.trans (hB4.mono K3.out.size)
      have hs3 := K3.out.size
      have K5 : Hid (Calls Tryz.prog 86 #[.pointer (some ⟨S, 0, none⟩), .slice on n3 cpn] w4 fun e w' => e = .returned (.tuple #[]) ∧ Below w.heap.size w w' ∧ S < w'.heap.size ∧ Calls Tryz.prog 87 #[.pointer (some ⟨S, 0, none⟩), .slice o n1 cap] w' fun e w'' => e = .returned (.tuple #[]) ∧ Below w.heap.size w w'' ∧ S < w''.heap.size ∧ w''.cell? ⟨S, 2, none⟩ = some (.map (some f)) ∧ ∃ k : Nat, (Builtin.len_ #[65] 3 #[.map (some f)]).run Tryz.prog w'' = .ok (.int .i64 (k : Int)) w'' ∧ (0 < k ↔ R = true)) := H5.out w4 S m f K4.out hSk (by omega) (by omega) (by omega)
      have lS : S < w4.heap.size := hSk.sc.lt
      clear hS hm hf hSk hB4 K3 K4 H5 hs3
      go_wp2_with (go_at_call 86; fail)
      refine K5.out.mono ?_
      rintro e w5 ⟨rfl, hB5, lS5, hcall⟩
      have K6 : Hid (Calls Tryz.prog 87 #[.pointer (some ⟨S, 0, none⟩), .slice o n1 cap] w5 fun e w'' => e = .returned (.tuple #[]) ∧ Below w.heap.size w w'' ∧ S < w''.heap.size ∧ w''.cell? ⟨S, 2, none⟩ = some (.map (some f)) ∧ ∃ k : Nat, (Builtin.len_ #[65] 3 #[.map (some f)]).run Tryz.prog w'' = .ok (.int .i64 (k : Int)) w'' ∧ (0 < k ↔ R = true)) := hcall
      clear hcall hB5 K5 lS
      go_wp2_with (go_at_call 87; fail)
      refine K6.out.mono ?_
      rintro e w6 ⟨rfl, hB6, lS6, hfo, k, hk1, hk2⟩
      have K7 : Hid (Below w.heap.size w w6) := hB6
      have K8 : Hid (0 < k ↔ R = true) := hk2
      clear hB6 hk2 K6 lS5
      by_cases hk : 0 < k
      · have hki : (0 : Int) < (k : Int) := by omega
        have HZ : Hid (Z = 8) := by show _ = _; rw [HR0.out, K8.out.1 hk]; rfl
        clear HR0 K8 hk
        go_wp2
        go_ret
        exact ⟨by rw [HZ.out]; rfl, K7.out⟩
      · have hki : ¬ (0 : Int) < (k : Int) := by omega
        have HZ : Hid (Z = 0) := by
          show _ = _
          have e : R = false := by
            cases hR9 : R with
            | false => rfl
            | true => exact absurd (K8.out.2 hR9) hk
          rw [HR0.out, e]; rfl
        clear HR0 K8 hk
        go_wp2
        go_ret
        exact ⟨by rw [HZ.out]; rfl, K7.out⟩
end Go.Proofs.YtegdloenakachaaGreatDoor

namespace Go.Proofs.YtegdloenakachaaGreatDoor
open Go.RowKit Go.Shelf Go.Maps
set_option linter.unusedVariables false

/-- What an alternative may hold. -/
def FitA (a : AltH) : Prop := a.name.size ≤ maxLen ∧ a.vars.length ≤ 2000000 ∧ (∀ x ∈ a.vars, x.size ≤ maxLen) ∧ Lit.wf (.int .i64 a.num) = true
/-- What alike answers. -/
def AlkOK (m : Nat) (alk : List AltH → Bool) (w : World) : Prop := ∀ (W : World), Below w.heap.size w W → ∀ (d : Nat) (l : List (AltH × Tr d)) (o : Option Addr) (cap B : Nat), RowIn B 11 (AltAt W B d) o l → B ≤ W.heap.size → l.length ≤ 2000000 → (∀ a ∈ l, FitA a.1) → Calls Tryz.prog 157 #[.map (some m), .slice o l.length cap] W fun e w' => e = .returned (.bool (alk (l.map Prod.fst))) ∧ Below W.heap.size W w'
/-- Those that are no AltElse at the end. -/
def noElse (l : List AltH) : List AltH := if (l.getLast?.map (fun a => decide (a.kind = 4))).getD false then l.dropLast else l
def altsB (alk : List AltH → Bool) (l : List AltH) : Bool := !l.isEmpty && (l.all altB && alk (noElse l))
theorem RowIn.take {α : Type} {B n : Nat} {p : α → Nat → Nat → Prop} {o : Option Addr} {l : List α} (h : RowIn B n p o l) (k : Nat) : RowIn B n p o (l.take k) := by
  rcases h with h | ⟨g, off, e, hg, h⟩
  · exact .inl (by rw [h]; exact List.take_nil)
  · refine .inr ⟨g, off, e, hg, fun j hj => ?_⟩
    rw [List.getElem_take]
    exact h j (by rw [List.length_take] at hj; omega)
set_option maxRecDepth 100000 in
set_option maxHeartbeats 4000000 in
theorem mayBeAlts_c (m : Nat) (alk : List AltH → Bool) (w : World) (hA : AlkOK m alk w) (d : Nat) (l : List (AltH × Tr d)) (o : Option Addr) (cap B : Nat) (hl : RowIn B 11 (AltAt w B d) o l) (hw : B ≤ w.heap.size) (hn : l.length ≤ 2000000) (hcap : l.length ≤ cap) (hF : ∀ a ∈ l, FitA a.1) :
    Calls Tryz.prog 125 #[.map (some m), .slice o l.length cap] w fun e w' => e = .returned (.bool (altsB alk (l.map Prod.fst))) ∧ Below w.heap.size w w' := by
  have hrow : ∀ {W : World}, Below w.heap.size w W → RowIn B 11 (AltAt W B d) o l := fun hW => hl.mono (fun y g off hg h => AltAt.same (fun g off hg => cell_of_block (hW.block g (by omega)) off) h)
  have H1 : Hid (∀ (W : World), Below w.heap.size w W → ∀ k, Calls Tryz.prog 157 #[.map (some m), .slice o (l.take k).length cap] W fun e w' => e = .returned (.bool (alk ((l.take k).map Prod.fst))) ∧ Below w.heap.size w w') := fun W hW k => by
    refine (hA W hW d (l.take k) o cap B ((hrow hW).take k) (Nat.le_trans hw hW.size) (by rw [List.length_take]; omega) (fun a ha => hF a (List.mem_of_mem_take ha))).mono ?_
    rintro e w' ⟨rfl, h9⟩
    exact ⟨rfl, hW.trans (h9.mono hW.size)⟩
  have H2 : Hid (∀ k (h : k < l.length), ∃ g off, o = some ⟨g, off, none⟩ ∧ g < w.heap.size ∧ ∀ W, Below w.heap.size w W → W.cell? ⟨g, off + k * 11, none⟩ = some (.int .i64 l[k].1.kind) ∧ Calls Tryz.prog 156 #[.pointer (some ⟨g, off + k * 11, none⟩)] W fun e w' => e = .returned (.bool (altB l[k].1)) ∧ Below w.heap.size w w') := by
    intro k hk
    rcases hl with h0 | ⟨g, off, e, hg, hE⟩
    · subst h0; cases hk
    · refine ⟨g, off, e, by omega, fun W hW => ?_⟩
      have hc : ∀ j, W.cell? ⟨g, j, none⟩ = w.cell? ⟨g, j, none⟩ := fun j => cell_of_block (hW.block g (by omega)) j
      obtain ⟨a0, a1, a2, ⟨oo, cc, a3, av⟩, -⟩ := hE k hk
      refine ⟨(hc _).trans a0, ?_⟩
      have hf := hF _ (List.getElem_mem hk)
      refine (mayBeAlt_c l[k].1 B g (off + k * 11) W oo cc (by have := hW.size; omega) ((hc _).trans a0) ((hc _).trans a1) ((hc _).trans a2) ((hc _).trans a3) (av.same (fun g off hg => cell_of_block (hW.block g (by omega)) off)) (Nat.le_trans hw hW.size) ⟨hf.1, hf.2.1, hf.2.2.1⟩).mono ?_
      rintro e w' ⟨rfl, h9⟩
      exact ⟨rfl, hW.trans (h9.mono hW.size)⟩
  obtain ⟨n, hln⟩ : ∃ n, l.length = n := ⟨_, rfl⟩
  have HN : Hid (l.length = n) := hln
  have HCap : Hid (n ≤ cap) := by show _ ≤ _; omega
  have HR : Hid (altsB alk (l.map Prod.fst) = (!(l.map Prod.fst).isEmpty && ((l.map Prod.fst).all altB && alk (noElse (l.map Prod.fst))))) := rfl
  generalize altsB alk (l.map Prod.fst) = Z at HR ⊢
  have hni : (n : Int) ≤ 2000000 := by omega
  rw [hln]
  clear hl hw hn hF hA hrow hcap
  by_cases h0 : n = 0
  · have HZ : Hid (Z = false) := by
      show _ = _
      have e : l = [] := List.length_eq_zero_iff.1 (hln.trans h0)
      rw [HR.out, e]; rfl
    subst h0
    clear hln HR HN H1 H2
    go_enter Tryz.func125, Tryz.ntmps125
    go_wp2
    go_ret
    exact ⟨by rw [HZ.out]; rfl, Below.refl _ _⟩
  have hn0 : ((n : Int) == 0) = false := by simp; omega
  have hn1 : ¬ (n : Int) = 0 := by omega
  have HP : Hid (0 < n) := Nat.pos_of_ne_zero h0
  clear hln
  go_enter Tryz.func125, Tryz.ntmps125
  go_wp2
  go_loopw [11] (fun i wr => ∃ k : Nat, k ≤ n ∧ i = .int .i64 k ∧ Hid ((l.take k).all (fun a => altB a.1) = true ∧ Below w.heap.size w wr)) (fun i _ => n - (intOf i).toNat)
  case atStart => exact ⟨0, Nat.zero_le _, rfl, ⟨rfl, Below.refl _ _⟩⟩
  case round =>
    obtain ⟨k, hk, rfl, hS⟩ := hrel
    by_cases hkn : k < n
    · have hkl : k < l.length := by rw [HN.out]; exact hkn
      obtain ⟨g, off, rfl, hg, hC⟩ := H2.out k hkl
      have hgw : g < wr.heap.size := Nat.lt_of_lt_of_le hg hS.out.2.size
      have HC : Hid (Calls Tryz.prog 156 #[.pointer (some ⟨g, off + k * 11, none⟩)] wr fun e w' => e = .returned (.bool (altB l[k].1)) ∧ Below w.heap.size w w') := (hC wr hS.out.2).2
      have HT : Hid (∀ b, altB l[k].1 = b → (l.take (k + 1)).all (fun a => altB a.1) = b ∧ (b = false → (l.map Prod.fst).all altB = false)) := by
        intro b hb
        refine ⟨by rw [List.take_succ_eq_append_getElem hkl, List.all_append, hS.out.1]; simp [hb], fun e => ?_⟩
        subst e
        cases e : (l.map Prod.fst).all altB with
        | false => rfl
        | true =>
          have := List.all_eq_true.1 e l[k].1 (List.mem_map.2 ⟨l[k], List.getElem_mem hkl, rfl⟩)
          rw [hb] at this; cases this
      generalize altB l[k].1 = Rk at HC HT
      clear hC hk hkl hS H1 H2
      go_wp2_with (go_at_call 156; fail)
      refine HC.out.mono ?_
      rintro e w2 ⟨rfl, hr⟩
      have HR2 : Hid (Below w.heap.size w w2) := hr
      clear hr HC
      cases Rk with
      | true =>
        go_wp2
        go_roundw
        case rel => exact ⟨k + 1, hkn, by go_num, ⟨(HT.out true rfl).1, HR2.out⟩⟩
        case measure => simp [intOf]; omega
      | false =>
        go_wp2
        go_ret
        exact ⟨by rw [HR.out, (HT.out false rfl).2 rfl, Bool.false_and, Bool.and_false]; rfl, HR2.out⟩
    · have hlp : n - 1 < l.length := by rw [HN.out]; have := HP.out; omega
      obtain ⟨g, off, rfl, hg, hC⟩ := H2.out (n - 1) hlp
      have hgw : g < wr.heap.size := Nat.lt_of_lt_of_le hg hS.out.2.size
      have hcl := (hC wr hS.out.2).1
      have hall : l.all (fun a => altB a.1) = true := by
        have e : l.take k = l := List.take_of_length_le (by rw [HN.out]; omega)
        have h3 := hS.out.1
        rw [e] at h3
        exact h3
      have HZ : Hid (Z = alk (noElse (l.map Prod.fst))) := by
        show _ = _
        have e1 : (l.map Prod.fst).all altB = true := by rw [List.all_map]; exact hall
        have e2 : (l.map Prod.fst).isEmpty = false := by
          cases l with
          | nil => have := HN.out; have := HP.out; simp at *; omega
          | cons a r => rfl
        rw [HR.out, e1, e2]; rfl
      have HB : Hid (Below w.heap.size w wr) := hS.out.2
      have hki : ¬ (k : Int) < (n : Int) := by omega
      obtain ⟨p, hp⟩ : ∃ p, n - 1 = p := ⟨_, rfl⟩
      have hq : (n : Int) - 1 = (p : Int) := by have := HP.out; omega
      have hpi : (p : Int) < (n : Int) := by have := HP.out; omega
      have hpn : p < n := by have := HP.out; omega
      have HPn : Hid (p + 1 = n) := by show _ = _; have := HP.out; omega
      simp only [hp] at hcl
      have hpl : p < l.length := by rw [HN.out]; exact hpn
      have HK1 : Hid (∀ b, decide (l[p].1.kind = 4) = b → noElse (l.map Prod.fst) = (l.take (if b then p else n)).map Prod.fst) := by
        intro b hb
        have hlast : (l.map Prod.fst).getLast? = some l[p].1 := by
          rw [List.getLast?_eq_getElem?, List.length_map, HN.out, show n - 1 = p from by have := HPn.out; omega, List.getElem?_map, List.getElem?_eq_getElem hpl]; rfl
        unfold noElse
        rw [hlast]
        simp only [Option.map_some, Option.getD_some, hb]
        cases b with
        | true =>
          simp only [if_true]
          rw [List.dropLast_eq_take, List.length_map, HN.out, show n - 1 = p from by have := HPn.out; omega, List.map_take]
        | false =>
          simp only [Bool.false_eq_true, if_false]
          rw [List.take_of_length_le (by rw [HN.out]; exact Nat.le_refl _)]
      have HLp : Hid ((l.take p).length = p ∧ (l.take n).length = n) := ⟨by rw [List.length_take]; have := HN.out; have := HPn.out; omega, by rw [List.length_take]; have := HN.out; omega⟩
      have HA1 : Hid (∀ k q, (l.take k).length = q → Calls Tryz.prog 157 #[.map (some m), .slice (some ⟨g, off, none⟩) q cap] wr fun e w' => e = .returned (.bool (alk ((l.take k).map Prod.fst))) ∧ Below w.heap.size w w') := fun k q hq9 => by
        have h9 := H1.out wr HB.out k
        rw [hq9] at h9
        exact h9
      obtain ⟨kd, hkd⟩ : ∃ kd, l[p].1.kind = kd := ⟨_, rfl⟩
      rw [hkd] at hcl HK1
      have hpc : p ≤ cap := by have := HCap.out; omega
      have hpci : (p : Int) ≤ (cap : Int) := by omega
      clear hC hS H2 hall hk hkn hp hkd H1
      by_cases h4 : kd = 4
      · have HZ2 : Hid (Z = alk ((l.take p).map Prod.fst)) := by show _ = _; rw [HZ.out, HK1.out true (by rw [h4]; rfl)]; rfl
        subst h4
        go_wp2_with (go_at_call 157; fail)
        refine (HA1.out p p HLp.out.1).mono ?_
        rintro e w2 ⟨rfl, hr⟩
        have HR2 : Hid (Below w.heap.size w w2) := hr
        clear hr
        go_wp2
        go_ret
        exact ⟨by rw [HZ2.out, List.map_take]; rfl, HR2.out⟩
      · have HZ2 : Hid (Z = alk ((l.take n).map Prod.fst)) := by show _ = _; rw [HZ.out, HK1.out false (by simpa using h4)]; rfl
        have e4 : (kd == 4) = false := by simpa using h4
        go_wp2_with (go_at_call 157; fail)
        refine (HA1.out n n HLp.out.2).mono ?_
        rintro e w2 ⟨rfl, hr⟩
        have HR2 : Hid (Below w.heap.size w w2) := hr
        clear hr
        go_wp2
        go_ret
        exact ⟨by rw [HZ2.out, List.map_take]; rfl, HR2.out⟩
end Go.Proofs.YtegdloenakachaaGreatDoor

namespace Go.Proofs.YtegdloenakachaaGreatDoor
open Go.RowKit Go.Shelf Go.Maps
set_option linter.unusedVariables false

set_option maxRecDepth 100000 in
set_option maxHeartbeats 4000000 in
/-- The next one of its type. -/
theorem follows_next (a b : CT) (w : World) (ht : b.2.2.1 = a.2.2.1) (hg : b.2.2.2 = a.2.2.2 + 1) (hw : 0 ≤ a.2.2.2 ∧ a.2.2.2 ≤ 1000) : Calls Tryz.prog 78 #[cnV a, cnV b] w fun e w' => e = .returned (.bool true) ∧ Below w.heap.size w w' := by
  obtain ⟨n1, a1, t1, g1⟩ := a
  obtain ⟨n2, a2, t2, g2⟩ := b
  simp only at ht hg hw
  subst ht hg
  have h1 := hw.1
  have h2 := hw.2
  clear hw
  unfold cnV
  go_enter Tryz.func78, Tryz.ntmps78
  go_wp2
  go_ret
  exact ⟨by simp, (below1 w _).trans ((below1 _ _).mono (below1 w _).size)⟩
set_option maxRecDepth 100000 in
set_option maxHeartbeats 4000000 in
theorem bindsRise1_c (nm : ByteArray) (hs : nm.size ≤ maxLen) (g off cap : Nat) (w : World) (hg : g < w.heap.size) (h : w.cell? ⟨g, off, none⟩ = some (.string nm)) : Calls Tryz.prog 41 #[.slice (some ⟨g, off, none⟩) 1 cap] w fun e w' => e = .returned (.bool (nameB nm.data.toList)) ∧ Below w.heap.size w w' := by
  have HI : Hid (∀ n, Calls Tryz.prog 77 #[.string nm] (w.drewN n) fun e w' => e = .returned (.bool (nameB nm.data.toList)) ∧ w' = w.drewN n) := fun n => isName_c nm (by unfold maxLen at hs; omega) _
  generalize nameB nm.data.toList = R at HI ⊢
  clear hs
  go_enter Tryz.func41, Tryz.ntmps41
  go_wp2
  go_loopw [6] (fun i wr => ∃ k : Nat, k ≤ 1 ∧ i = .int .i64 k ∧ Hid ((k = 0 → wr = w) ∧ (k = 1 → R = true ∧ Below w.heap.size w wr))) (fun i _ => 1 - (intOf i).toNat)
  case atStart => exact ⟨0, Nat.zero_le _, rfl, ⟨fun _ => rfl, fun e => by cases e⟩⟩
  case round =>
    obtain ⟨k, hk, rfl, hS⟩ := hrel
    rcases (by omega : k = 0 ∨ k = 1) with rfl | rfl
    · obtain rfl : w = wr := (hS.out.1 rfl).symm
      clear hS
      cases R with
      | true =>
        go_wp2
        go_big_quiet ((go_at_call 77; exact Calls.quiet_of_same (HI.out _)))
        go_wp2
        exact ⟨⟨1, Nat.le_refl _, rfl, ⟨fun e => (by cases e), fun _ => ⟨trivial, dqb w _⟩⟩⟩, by decide⟩
      | false =>
        go_wp2
        go_big_quiet ((go_at_call 77; exact Calls.quiet_of_same (HI.out _)))
        go_wp2
        go_ret
        exact ⟨rfl, dqb w _⟩
    · have HE := hS.out.2 rfl
      have HE1 : Hid (R = true ∧ Below w.heap.size w wr) := HE
      clear HE hS
      go_wp2
      go_ret
      exact ⟨by rw [HE1.out.1]; rfl, HE1.out.2⟩
end Go.Proofs.YtegdloenakachaaGreatDoor

namespace Go.Proofs.YtegdloenakachaaGreatDoor
open Go.RowKit Go.Shelf Go.Maps
set_option linter.unusedVariables false

set_option maxRecDepth 100000 in
set_option maxHeartbeats 4000000 in
theorem follows_first (a b : CT) (w : World) (ht : (b.2.2.1.toList == a.2.2.1.toList) = false) (hb : Op.bytesLess b.2.2.1.toList a.2.2.1.toList = false) (hg : b.2.2.2 = 0) : Calls Tryz.prog 78 #[cnV a, cnV b] w fun e w' => e = .returned (.bool true) ∧ Below w.heap.size w w' := by
  obtain ⟨n1, a1, t1, g1⟩ := a
  obtain ⟨n2, a2, t2, g2⟩ := b
  simp only at ht hg hb
  subst hg
  have hgt : ∀ W : World, (binOp .gtr 9 (.string t2) (.string t1)).run Tryz.prog W = .ok (.bool true) W := fun W => by
    show (Op.stringOp .gtr t2 t1).run Tryz.prog W = _
    unfold Op.stringOp
    simp only [ht, hb]
    rfl
  unfold cnV
  go_enter Tryz.func78, Tryz.ntmps78
  go_wp2
  go_ret
  exact ⟨by first | rfl | simp, (below1 w _).trans ((below1 _ _).mono (below1 w _).size)⟩
end Go.Proofs.YtegdloenakachaaGreatDoor

namespace Go.Proofs.YtegdloenakachaaGreatDoor
open Go.RowKit Go.Shelf Go.Maps
set_option linter.unusedVariables false

/-- The built-in constructors. -/
def bi7 : List CT := [(⟨#[70, 97, 108, 115, 101]⟩, 0, ⟨#[66, 111, 111, 108]⟩, 0), (⟨#[84, 114, 117, 101]⟩, 0, ⟨#[66, 111, 111, 108]⟩, 1), (⟨#[78, 105, 108]⟩, 0, ⟨#[76, 105, 115, 116]⟩, 0), (⟨#[67, 111, 110, 115]⟩, 2, ⟨#[76, 105, 115, 116]⟩, 1), (⟨#[85, 110, 105, 116]⟩, 0, ⟨#[85, 110, 105, 116]⟩, 0)]
def bi7V : Array Value := #[.string ⟨#[70, 97, 108, 115, 101]⟩, .int .i64 0, .string ⟨#[66, 111, 111, 108]⟩, .int .i64 0, .string ⟨#[84, 114, 117, 101]⟩, .int .i64 0, .string ⟨#[66, 111, 111, 108]⟩, .int .i64 1, .string ⟨#[78, 105, 108]⟩, .int .i64 0, .string ⟨#[76, 105, 115, 116]⟩, .int .i64 0, .string ⟨#[67, 111, 110, 115]⟩, .int .i64 2, .string ⟨#[76, 105, 115, 116]⟩, .int .i64 1, .string ⟨#[85, 110, 105, 116]⟩, .int .i64 0, .string ⟨#[85, 110, 105, 116]⟩, .int .i64 0]
theorem bi7_row {W : World} {g B : Nat} {T : TypeId} (h : Blk W g bi7V T) (hg : g < B) : RowIn B 4 (ConAt W) (some ⟨g, 0, none⟩) bi7 := by
  refine .inr ⟨g, 0, rfl, hg, fun k hk => ?_⟩
  have hk5 : k < 5 := hk
  rcases (by omega : k = 0 ∨ k = 1 ∨ k = 2 ∨ k = 3 ∨ k = 4) with rfl | rfl | rfl | rfl | rfl <;> exact ⟨h.cell _ _ rfl, h.cell _ _ rfl, h.cell _ _ rfl, h.cell _ _ rfl⟩
set_option maxRecDepth 100000 in
set_option maxHeartbeats 4000000 in
theorem builtin7_c (w : World) : Calls Tryz.prog 7 #[] w fun e w' => e = .returned (.slice (some ⟨w.heap.size, 0, none⟩) 5 5) ∧ Blk w' w.heap.size bi7V 59 ∧ Below w.heap.size w w' := by
  go_enter Tryz.func7, Tryz.ntmps7
  go_wp2
  go_ret
  exact ⟨rfl, Blk.new w _ _, below1 w _⟩
end Go.Proofs.YtegdloenakachaaGreatDoor

namespace Go.Proofs.YtegdloenakachaaGreatDoor
open Go.RowKit Go.Shelf Go.Maps
set_option linter.unusedVariables false

theorem ck_laid : laidOutB Tryz.prog = true := by kernel_rfl
theorem ck_row : 204 < Tryz.prog.types.size := by
  have e : Tryz.prog.types.size + 100 = 338 := by kernel_rfl
  omega
theorem ck_keyed : Keyed Tryz.prog 204 := Keyed.of_law (deep_law_laid ck_laid (m := 2) (by omega) ck_row (by kernel_rfl) (by kernel_rfl))
/-- What a key reads as. -/
def ckL (s : List UInt8) (n : Int) : Lit := .string (keyBytes [.string s, .int .i64 n])
theorem ck_lits (s : ByteArray) (n : Int) (hs : s.size ≤ maxLen) (hn : Lit.wf (.int .i64 n) = true) : Tryz.prog.keyLits (Tryz.prog.types.size + 1) 204 [.string s, .int .i64 n] = some [.string s.data.toList, .int .i64 n] := by
  obtain ⟨m, hm⟩ : ∃ m, Tryz.prog.types.size = m + 1 := ⟨Tryz.prog.types.size - 1, by kernel_rfl⟩
  rw [hm]
  have c1 : Tryz.prog.cellsOf 204 = 2 := by kernel_rfl
  have c2 : Tryz.prog.cellsOf 9 = 1 := by kernel_rfl
  have c3 : Tryz.prog.cellsOf 2 = 1 := by kernel_rfl
  have u9 : Tryz.prog.underlying 9 = some .string := Tryz.underlying9
  have u2 : Tryz.prog.underlying 2 = some (.int .i64) := by kernel_rfl
  simp [Program.keyLits, Tryz.underlying204, c1, c2, c3, u9, u2, hs, hn]
theorem ck_key (s : ByteArray) (n : Int) (hs : s.size ≤ maxLen) (hn : Lit.wf (.int .i64 n) = true) : keyOf Tryz.prog 204 (.agg #[.string s, .int .i64 n]) = some (ckL s.data.toList n) := by
  have h1 : Tryz.prog.keyType 204 = true := by kernel_rfl
  have h2 : Value.formed Tryz.prog 204 (.agg #[.string s, .int .i64 n]) = true := by kernel_rfl
  have h3 := ck_lits s n hs hn
  unfold keyOf
  rw [Tryz.underlying204]
  simp only [h1, h2, Value.cells, Bool.and_self, if_true, h3, ckL, Option.map_some]
/-- A key that can be. -/
def KV (x : List UInt8 × Int) : Prop := x.1.length ≤ maxLen ∧ Lit.wf (.int .i64 x.2) = true
theorem ck_inj {x y : List UInt8 × Int} (hx : KV x) (hy : KV y) (e : ckL x.1 x.2 = ckL y.1 y.2) : x = y := by
  obtain ⟨a, b⟩ := x
  obtain ⟨a', b'⟩ := y
  unfold ckL at e
  injection e with e
  have h := keyBytes_inj (l := [.string a, .int .i64 b]) (l' := [.string a', .int .i64 b']) (by simp [Alike, Lit.sameKind]) (by intro z hz; simp at hz; rcases hz with rfl | rfl; exact hx.1; exact hx.2) (by intro z hz; simp at hz; rcases hz with rfl | rfl; exact hy.1; exact hy.2) e
  simp at h
  obtain ⟨rfl, rfl⟩ := h
  rfl
/-- A set of keys, with its size. -/
def KS (W : World) (b : Nat) (ms : List (List UInt8 × Int)) : Prop := (∀ x ∈ ms, KV x) ∧ ∃ (c : Nat) (D : DataW Value), c ≤ ms.length ∧ W.ownsMap Tryz.prog 204 heldElem b c D ∧ Maps.IsMap D ∧ (∀ x, KV x → Maps.has D (ckL x.1 x.2) = decide (x ∈ ms)) ∧ Maps.size D ≤ ms.length ∧ (Maps.size D = ms.length ↔ ms.Nodup)
theorem ks_new (W : World) : KS (W.alloc (.map #[] 0)) W.heap.size [] := ⟨fun x hx => (by cases hx), 0, .map [], Nat.le_refl _, World.ownsMap_made W Tryz.prog 204 heldElem, ⟨_, rfl⟩, fun x _ => rfl, Nat.le_refl _, ⟨fun _ => .nil, fun _ => rfl⟩⟩
theorem KS.lt {W : World} {b : Nat} {ms : List (List UInt8 × Int)} (h : KS W b ms) : b < W.heap.size := by
  obtain ⟨-, c, D, -, h1, -⟩ := h
  exact h1.lt
theorem KS.same {W W' : World} {b : Nat} {ms : List (List UInt8 × Int)} (h : KS W b ms) (hb : W'.heap[b]? = W.heap[b]?) : KS W' b ms := by
  obtain ⟨h0, c, D, h1, ⟨es, clock, k1, k2⟩, h2⟩ := h
  exact ⟨h0, c, D, h1, ⟨es, clock, by rw [hb]; exact k1, k2⟩, h2⟩
theorem KS.upd {W : World} {b : Nat} {ms : List (List UInt8 × Int)} (h : KS W b ms) (hc : ms.length ≤ 3000000) (s : ByteArray) (n : Int) (hs : s.size ≤ maxLen) (hn : Lit.wf (.int .i64 n) = true) :
    ∃ W', (Instr.mapUpdate 216 (.map (some b)) (.agg #[.string s, .int .i64 n]) (.agg #[])).run Tryz.prog W = .ok () W' ∧ KS W' b (ms ++ [(s.data.toList, n)]) ∧ W.grownBy W' (some b) := by
  obtain ⟨hv, c, D, h0, hown, hD, hhas, hsz, hnd⟩ := h
  obtain ⟨W', hrun, r1, r2⟩ := hown.update ck_keyed Tryz.underlying216 (by unfold maxLen; omega) (ck_key s n hs hn) (show heldElem (.agg #[]) = some (.held (.agg #[]), []) from rfl)
  have hK : KV (s.data.toList, n) := ⟨hs, hn⟩
  have htidy := hown.tidy ck_keyed
  have hput := Maps.size_put (k := ckL s.data.toList n) htidy (.held (.agg #[]))
  have hh := hhas _ hK
  simp only at hh
  rw [hh] at hput
  generalize s.data.toList = nm at hput r1 hK hh ⊢
  refine ⟨W', hrun, ⟨?_, c + 1, _, by simp; omega, r1, ?_, fun x hx => ?_, ?_, ?_⟩, r2⟩
  · intro x hx
    rcases List.mem_append.1 hx with h | h
    · exact hv x h
    · simp at h; subst h; exact hK
  · obtain ⟨es, rfl⟩ := hD
    exact ⟨_, rfl⟩
  · by_cases e : x = (nm, n)
    · subst e
      rw [Maps.has_put_same hD (by unfold ckL; constructor)]; simp
    · rw [Maps.has_put_other (fun e9 => e (ck_inj hx hK (by first | exact e9 | exact e9.symm))), hhas x hx]; simp [e]
  · rw [hput]; simp; split <;> omega
  · rw [hput]
    by_cases hx : (nm, n) ∈ ms
    · simp only [hx, decide_true, if_true, List.length_append, List.length_cons, List.length_nil]
      constructor
      · intro e; omega
      · intro hn
        exact absurd rfl ((List.nodup_append.1 hn).2.2 (nm, n) hx (nm, n) (by simp))
    · simp only [hx, decide_false, List.length_append, List.length_cons, List.length_nil]
      constructor
      · intro e
        have : ms.Nodup := hnd.1 (by simpa using e)
        exact List.nodup_append.2 ⟨this, by simp, fun a ha b hb => by simp at hb; subst hb; intro e2; exact hx (e2 ▸ ha)⟩
      · intro hn
        have := hnd.2 (List.nodup_append.1 hn).1
        simpa using this
theorem KS.len {W : World} {b : Nat} {ms : List (List UInt8 × Int)} (h : KS W b ms) (ty : TypeId) : ∃ k : Nat, (Builtin.len_ #[216] ty #[.map (some b)]).run Tryz.prog W = .ok (.int .i64 (k : Int)) W ∧ k ≤ ms.length ∧ (k = ms.length ↔ ms.Nodup) := by
  obtain ⟨h9, c, D, h0, hown, hD, hhas, hsz, hnd⟩ := h
  exact ⟨Maps.size D, hown.len Tryz.underlying216 ty, hsz, hnd⟩
theorem mmK_run (n : Nat) (W : World) (hn : n ≤ 4611686018427387904) : (Instr.makeMap 216 (some (.int .i64 n))).run Tryz.prog W = .ok (.map (some W.heap.size)) (W.alloc (.map #[] 0)) := by
  simp [Instr.makeMap, go_sem]
/-- Keys in memory. -/
def KyAt (W : World) (x : ByteArray × Int) (g off : Nat) : Prop := W.cell? ⟨g, off, none⟩ = some (.string x.1) ∧ W.cell? ⟨g, off + 1, none⟩ = some (.int .i64 x.2)
def kd2 (l : List (ByteArray × Int)) : List (List UInt8 × Int) := l.map (fun x => (x.1.data.toList, x.2))
set_option maxRecDepth 100000 in
set_option maxHeartbeats 4000000 in
theorem distinctK_c (l : List (ByteArray × Int)) (o : Option Addr) (cap B : Nat) (w : World) (hl : RowIn B 2 (KyAt w) o l) (hw : B ≤ w.heap.size) (hn : l.length ≤ 2000000) (hz : ∀ x ∈ l, x.1.size ≤ maxLen ∧ Lit.wf (.int .i64 x.2) = true) :
    Calls Tryz.prog 171 #[.slice o l.length cap] w fun e w' => e = .returned (.bool (decide ((kd2 l).Nodup))) ∧ Below w.heap.size w w' := by
  obtain ⟨n, hln⟩ : ∃ n, l.length = n := ⟨_, rfl⟩
  have HN : Hid (RowIn B 2 (KyAt w) o l ∧ B ≤ w.heap.size ∧ l.length = n ∧ (∀ x ∈ l, x.1.size ≤ maxLen ∧ Lit.wf (.int .i64 x.2) = true) ∧ n ≤ 2000000) := ⟨hl, hw, hln, hz, by omega⟩
  have hni : (n : Int) ≤ 2000000 := by omega
  have hmm : ∀ W : World, (Instr.makeMap 216 (some (.int .i64 (n : Int)))).run Tryz.prog W = .ok (.map (some W.heap.size)) (W.alloc (.map #[] 0)) := fun W => mmK_run n W (by omega)
  have H0 : Hid (KS (w.alloc (.map #[] 0)) w.heap.size [] ∧ Below w.heap.size w (w.alloc (.map #[] 0))) := ⟨ks_new w, below1 w _⟩
  rw [hln]
  clear hl hw hln hn hz
  go_enter Tryz.func171, Tryz.ntmps171
  go_wp2
  go_loopw [11] (fun v wr => ∃ k : Nat, v = .int .i64 (k : Int) ∧ Hid (k ≤ n ∧ KS wr w.heap.size (kd2 (l.take k)) ∧ Below w.heap.size w wr)) (fun v _ => n - (intOf v).toNat)
  case atStart => exact ⟨0, rfl, ⟨Nat.zero_le _, H0.out.1, H0.out.2⟩⟩
  case round =>
    clear H0 hmm
    obtain ⟨k, rfl, HI⟩ := hrel
    by_cases hk : k < n
    · have hkl : k < l.length := by rw [HN.out.2.2.1]; exact hk
      obtain ⟨g, off, rfl, hg, hx⟩ : ∃ g off, o = some ⟨g, off, none⟩ ∧ g < B ∧ KyAt w l[k] g (off + k * 2) := by
        rcases HN.out.1 with h9 | ⟨g, off, e, hg, h9⟩
        · rw [h9] at hkl; exact absurd hkl (Nat.not_lt_zero _)
        · exact ⟨g, off, e, hg, h9 k hkl⟩
      have hgw : g < w.heap.size := by have := HN.out.2.1; omega
      have hcx := (HI.out.2.2.cell (p := ⟨g, off + k * 2, none⟩) hgw).trans hx.1
      have hcy := (HI.out.2.2.cell (p := ⟨g, off + k * 2 + 1, none⟩) hgw).trans hx.2
      have hgr : g < wr.heap.size := Nat.lt_of_lt_of_le hgw HI.out.2.2.size
      have hB1 : Below w.heap.size w (wr.alloc (.cells #[.string l[k].1, .int .i64 l[k].2] 204)) := HI.out.2.2.trans ((below1 wr _).mono HI.out.2.2.size)
      have hK1 : KS (wr.alloc (.cells #[.string l[k].1, .int .i64 l[k].2] 204)) w.heap.size (kd2 (l.take k)) := HI.out.2.1.same ((below1 wr _).block _ HI.out.2.1.lt)
      obtain ⟨W2, hr2, hp2, hg2⟩ := hK1.upd (by unfold kd2; rw [List.length_map, List.length_take]; have := HN.out.2.2.2.2; omega) l[k].1 l[k].2 (HN.out.2.2.2.1 _ (List.getElem_mem hkl)).1 (HN.out.2.2.2.1 _ (List.getElem_mem hkl)).2
      have H2 : Hid (KS W2 w.heap.size (kd2 (l.take (k + 1))) ∧ Below w.heap.size w W2 ∧ k < n) := ⟨by rw [List.take_succ_eq_append_getElem hkl]; unfold kd2; rw [List.map_append]; exact hp2, hB1.grown hg2 hB1.size (fun j hj => by cases hj; exact Nat.le_refl _), hk⟩
      have hki : (k : Int) < (n : Int) := by omega
      generalize l[k].1 = nk at hcx hr2
      generalize l[k].2 = mk at hcy hr2
      clear hp2 hg2 hk hx hkl hg hgw hB1 hK1
      go_wp2
      refine ⟨⟨k + 1, by congr 1, ⟨H2.out.2.2, H2.out.1, H2.out.2.1⟩⟩, ?_⟩
      show n - ((k : Int) + 1).toNat < n - ((k : Int)).toNat
      have := H2.out.2.2; omega
    · have hki : ¬ (k : Int) < (n : Int) := by omega
      have hke : l.take k = l := List.take_of_length_le (by have := HN.out.2.2.1; omega)
      have hds := HI.out.2.1
      rw [hke] at hds
      obtain ⟨q, hq1, hq2, hq3⟩ := hds.len 3
      have hdl : (kd2 l).length = n := by unfold kd2; rw [List.length_map]; exact HN.out.2.2.1
      rw [hdl] at hq2 hq3
      have hqi : (q : Int) ≤ 2000000 := by omega
      have HQ : Hid (q = n ↔ (kd2 l).Nodup) := hq3
      clear hk hke hds hdl hq3 hq2
      by_cases hqn : q = n
      · have HX : Hid ((kd2 l).Nodup) := HQ.out.1 hqn
        subst hqn
        clear HQ
        go_wp2
        go_ret
        exact ⟨by rw [decide_eq_true HX.out]; first | rfl | simp, HI.out.2.2⟩
      · have e1 : ¬ (q : Int) = (n : Int) := by omega
        have e2 : ((q : Int) == (n : Int)) = false := by simp; omega
        have HX : Hid (¬ (kd2 l).Nodup) := fun h9 => hqn (HQ.out.2 h9)
        clear hqn HQ
        go_wp2
        go_ret
        exact ⟨by rw [decide_eq_false HX.out]; first | rfl | simp, HI.out.2.2⟩
end Go.Proofs.YtegdloenakachaaGreatDoor

namespace Go.Proofs
open Go.Shelf
def Tryz.hLaysn194_ren : Go.Shelf.Ren := ⟨fun | 194 => 172 | n => n, fun | 0 => 0 | 3 => 3 | 4 => 4 | 9 => 9 | 31 => 26 | n => n, fun  | n => n⟩
theorem Tryz.hLaysn194 : Go.Proofs.Lays.n194 Tryz.prog Tryz.hLaysn194_ren := {
  mixed := by kernel_rfl
  f194 := Tryz.func172.trans (congrArg some (by kernel_rfl))
  t0 := Tryz.underlying0
  a0 := Tryz.isAgg0
  z0 := Tryz.sizeOf0
  v0 := Tryz.zeroValue0
  t3 := Tryz.underlying3
  a3 := Tryz.isAgg3
  z3 := Tryz.sizeOf3
  v3 := Tryz.zeroValue3
  t4 := Tryz.underlying4
  a4 := Tryz.isAgg4
  z4 := Tryz.sizeOf4
  v4 := Tryz.zeroValue4
  t9 := Tryz.underlying9
  a9 := Tryz.isAgg9
  z9 := Tryz.sizeOf9
  v9 := Tryz.zeroValue9
  t31 := Tryz.underlying26
  a31 := Tryz.isAgg26
  z31 := Tryz.sizeOf26
  v31 := Tryz.zeroValue26 }
open Go.RowKit Go.Sort Go.Lib in
theorem Tryz.slices_Compact (blk off cap : Nat) (d : Array (List UInt8)) (w : World) (hH : Holds encStr w blk off d) (hsz : d.size ≤ 9223372036854775807) (hcap : d.size ≤ cap) :
    Calls Tryz.prog 172 #[.slice (some ⟨blk, off, none⟩) d.size cap] w fun e w' => e = .returned (.slice (some ⟨blk, off, none⟩) (compactUpTo d d.size).length cap) ∧ ∃ q, w' = putRow encStr (Sort.ahead w q) blk off (compactUpTo d d.size ++ List.replicate (d.size - (compactUpTo d d.size).length) []).toArray := Any.slices_Compact_string_arr Tryz.hLaysn194 blk off cap d w hH hsz hcap
open Go.RowKit Go.Sort Go.Lib in
theorem Tryz.slices_Compact_empty (a : Option Addr) (cap : Nat) (w : World) :
    Calls Tryz.prog 172 #[.slice a 0 cap] w fun e w' => e = .returned (.slice a 0 cap) ∧ w' = w := Any.slices_Compact_string_empty Tryz.hLaysn194 a cap w
end Go.Proofs

namespace Go.Proofs.YtegdloenakachaaGreatDoor
open Go.RowKit Go.Shelf Go.Maps
set_option linter.unusedVariables false

/-- The types of those alternatives whose constructors are there. -/
def tyL (fs : List CT) (l : List AltH) : List ByteArray := l.filterMap (fun a => (fstC fs a.name.data.toList).map (fun f => f.2.2.1))
def akB (k0 : Int) (a : AltH) : Bool := !decide (a.kind = 4) && decide (a.kind = k0)
def cpl (ts : List ByteArray) : Nat := (Lib.compactUpTo (ts.map (fun t => t.data.toList)).toArray ts.length).length
def kyL (l : List AltH) : List (ByteArray × Int) := l.map (fun a => (a.name, a.num))
def hdK (l : List AltH) : Int := (l.head?.map (fun a => a.kind)).getD 0
def alkM (fs : List CT) (l : List AltH) : Bool := l.all (akB (hdK l)) && (decide ((kd2 (kyL l)).Nodup) && decide (cpl (tyL fs l) ≤ 1))
theorem infoKey7 : (Tryz.prog.info? 204).map (fun i => (i.zero, i.size, i.bytes)) = some (some (.agg #[.string ⟨#[]⟩, .int .i64 0]), 2, 24) := by kernel_rfl
theorem mkK_run (n : Nat) (W : World) (hn : n ≤ 2000000) : (Instr.makeSlice 202 (.int .i64 (n : Int)) (.int .i64 (n : Int))).run Tryz.prog W = .ok (.slice (some ⟨W.heap.size, 0, none⟩) n n) (W.alloc (.cells (madeCells #[.string ⟨#[]⟩, .int .i64 0] (n * 2)) 204)) := by
  obtain ⟨i, hi, hzz⟩ := Option.map_eq_some_iff.1 infoKey7
  simp only [Prod.mk.injEq] at hzz
  obtain ⟨hz, hs, hb⟩ := hzz
  have hr := run_make (P := Tryz.prog) W 202 204 i _ Tryz.underlying202 hi hz .i64 .i64 n n (by omega) (Int.le_refl _) (by rw [hb]; omega) (by omega)
  simp only [Int.toNat_natCast, hs] at hr
  exact hr
structure AkI (w : World) (n : Nat) (l : List AltH) (fs : List CT) (k : Nat) (ty : Value) (W : World) : Prop where
  le : k ≤ n
  ok : (l.take k).all (akB (hdK l)) = true
  ky : ∃ arr : Array Value, Blk W w.heap.size arr 204 ∧ arr.size = n * 2 ∧ ∀ i (h : i < l.length), i < k → arr[i * 2]? = some (.string l[i].name) ∧ arr[i * 2 + 1]? = some (.int .i64 l[i].num)
  ty : W.ownsRow (w.heap.size + 1) 9 1 ty (tyL fs (l.take k)).length ((tyL fs (l.take k)).map Value.string)
  b : Below w.heap.size w W
theorem tyL_len (fs : List CT) (l : List AltH) : (tyL fs l).length ≤ l.length := List.length_filterMap_le _ _
theorem ak_start (w : World) (n : Nat) (l : List AltH) (fs : List CT) : AkI w n l fs 0 (.slice none 0 0) (w.alloc (.cells (madeCells #[.string ⟨#[]⟩, .int .i64 0] (n * 2)) 204)) :=
  ⟨Nat.zero_le _, rfl, ⟨_, Blk.new w _ _, size_madeCells _ _, fun i h hi => absurd hi (Nat.not_lt_zero _)⟩, World.ownsRow_nil _ _ _ _, below1 w _⟩
/-- All blocks stay but the keys' own; two cells of it are written. -/
theorem AkI.key {w W V : World} {n : Nat} {l : List AltH} {fs : List CT} {k : Nat} {ty : Value} (h : AkI w n l fs k ty W) (hV : Below W.heap.size W V) (hk : k < n) (hkl : k < l.length) :
    ∃ arr : Array Value, Blk ((V.setCell ⟨w.heap.size, k * 2, none⟩ (.string l[k].name)).setCell ⟨w.heap.size, k * 2 + 1, none⟩ (.int .i64 l[k].num)) w.heap.size arr 204 ∧ arr.size = n * 2 ∧ ∀ i (h : i < l.length), i < k + 1 → arr[i * 2]? = some (.string l[i].name) ∧ arr[i * 2 + 1]? = some (.int .i64 l[i].num) := by
  obtain ⟨arr, h1, h2, h3⟩ := h.ky
  refine ⟨(arr.setIfInBounds (k * 2) (.string l[k].name)).setIfInBounds (k * 2 + 1) (.int .i64 l[k].num), ((h1.below hV).set _ _).set _ _, by simpa using h2, fun i hi hik => ?_⟩
  by_cases e : i = k
  · subst e
    constructor
    · rw [Array.getElem?_setIfInBounds_ne (by omega), Array.getElem?_setIfInBounds_self_of_lt (by omega)]
    · rw [Array.getElem?_setIfInBounds_self_of_lt (by simp; omega)]
  · constructor
    · rw [Array.getElem?_setIfInBounds_ne (by omega), Array.getElem?_setIfInBounds_ne (by omega)]
      exact (h3 i hi (by omega)).1
    · rw [Array.getElem?_setIfInBounds_ne (by omega), Array.getElem?_setIfInBounds_ne (by omega)]
      exact (h3 i hi (by omega)).2
/-- Behind the store of a key. -/
theorem AkI.stored {w W V : World} {n : Nat} {l : List AltH} {fs : List CT} {k : Nat} {ty : Value} (h : AkI w n l fs k ty W) (hV : Below W.heap.size W V) (hk : k < n) (hkl : k < l.length) (hok : akB (hdK l) l[k] = true) (U : World) (hU : U = (V.setCell ⟨w.heap.size, k * 2, none⟩ (.string l[k].name)).setCell ⟨w.heap.size, k * 2 + 1, none⟩ (.int .i64 l[k].num)) (X : World) (hX : Below U.heap.size U X) :
    U.ownsRow (w.heap.size + 1) 9 1 ty (tyL fs (l.take k)).length ((tyL fs (l.take k)).map Value.string) ∧ Below w.heap.size w U ∧ w.heap.size < U.heap.size ∧ (l.take (k + 1)).all (akB (hdK l)) = true ∧ (fstC fs l[k].name.data.toList = none → AkI w n l fs (k + 1) ty X) := by
  have hs : U.heap.size = V.heap.size := by rw [hU, size_set7, size_set7]
  have hBV : Below w.heap.size w V := h.b.trans (hV.mono h.b.size)
  have hlt : w.heap.size < W.heap.size := by obtain ⟨arr, h1, -⟩ := h.ky; exact h1.lt
  have o1 : U.ownsRow (w.heap.size + 1) 9 1 ty (tyL fs (l.take k)).length ((tyL fs (l.take k)).map Value.string) := owns_same h.ty (fun g hg => by
    have := h.ty.lt g hg
    rw [hU, heap_set_other _ _ _ _ _ (by omega), heap_set_other _ _ _ _ _ (by omega), hV.block g this.2])
  have b1 : Below w.heap.size w U := by rw [hU]; exact (hBV.setCell (p := ⟨w.heap.size, k * 2, none⟩) (Nat.le_refl _) _).setCell (p := ⟨w.heap.size, k * 2 + 1, none⟩) (Nat.le_refl _) _
  have l1 : w.heap.size < U.heap.size := by rw [hs]; have := hV.size; omega
  have a1 : (l.take (k + 1)).all (akB (hdK l)) = true := by rw [List.take_succ_eq_append_getElem hkl, List.all_append, h.ok]; simp [hok]
  refine ⟨o1, b1, l1, a1, fun hn => ?_⟩
  have e1 : tyL fs (l.take (k + 1)) = tyL fs (l.take k) := by
    rw [List.take_succ_eq_append_getElem hkl]
    unfold tyL
    rw [List.filterMap_append]
    simp [hn]
  obtain ⟨arr, q1, q2, q3⟩ := h.key hV hk hkl
  rw [← hU] at q1
  refine ⟨hk, a1, ⟨arr, q1.below hX, q2, q3⟩, ?_, b1.trans (hX.mono (Nat.le_of_lt l1))⟩
  rw [e1]
  exact owns_same o1 (fun g hg => hX.block g (o1.lt g hg).2)
theorem news_one (W : World) (x : Value) (t : TypeId) (N : Nat) (hN : W.heap.size = N) : ∀ j u, [x][j]? = some u → (W.alloc (.cells #[x] t)).cell? ((⟨N, 0, none⟩ : Addr).add j) = some u := by
  subst hN; exact cell_one_new W x t
/-- Behind the append of a type. -/
theorem AkI.grown {w W V : World} {n : Nat} {l : List AltH} {fs : List CT} {k : Nat} {ty v : Value} (h : AkI w n l fs k ty W) (hV : Below W.heap.size W V) (hk : k < n) (hkl : k < l.length) (hok : akB (hdK l) l[k] = true) (U : World) (hU : U = (V.setCell ⟨w.heap.size, k * 2, none⟩ (.string l[k].name)).setCell ⟨w.heap.size, k * 2 + 1, none⟩ (.int .i64 l[k].num)) (X w8 : World) (hX : Below U.heap.size U X) (f : CT) (hf : fstC fs l[k].name.data.toList = some f) (hg : X.grownBy w8 ty.ownBlock)
    (ho : w8.ownsRow (w.heap.size + 1) 9 1 v ((tyL fs (l.take k)).length + 1) ((tyL fs (l.take k)).map Value.string ++ [.string f.2.2.1])) : AkI w n l fs (k + 1) v w8 := by
  obtain ⟨o1, b1, l1, a1, -⟩ := h.stored hV hk hkl hok U hU X hX
  have e1 : tyL fs (l.take (k + 1)) = tyL fs (l.take k) ++ [f.2.2.1] := by
    rw [List.take_succ_eq_append_getElem hkl]
    unfold tyL
    rw [List.filterMap_append]
    simp [hf]
  obtain ⟨arr, q1, q2, q3⟩ := h.key hV hk hkl
  rw [← hU] at q1
  have hne : ∀ g, ty.ownBlock = some g → w.heap.size + 1 ≤ g := fun g hg => (o1.lt g hg).1
  have bX : Below w.heap.size w X := b1.trans (hX.mono (Nat.le_of_lt l1))
  refine ⟨hk, a1, ⟨arr, ?_, q2, q3⟩, ?_, bX.grown hg bX.size (fun j hj => by have := hne j hj; omega)⟩
  · have q9 := q1.below hX
    unfold Blk at q9 ⊢
    rw [hg.block _ (by have := hX.size; omega) (fun e => by have := hne _ e.symm; omega)]
    exact q9
  · rw [e1, List.length_append, List.map_append]
    exact ho
end Go.Proofs.YtegdloenakachaaGreatDoor
