/-
  Package fixity's small functions, by contracts.
  Package fixity: an operator with both its operands, by a contract.
  Package fixity: whether an entry is none, and the function that tells how an operator holds, by contracts.
  Package fixity: the function that tells how an operator holds, by a contract.
-/
import Derived.Test.YtppnhaacmhfenabGreatDoorGSame
import Derived.Test.YtppnhaacmhfenabGreatDoorGChk
namespace Go.Proofs.YtppnhaacmhfenabGreatDoor
open Go.RowKit Go.Shelf Go.Maps
set_option linter.unusedVariables false

/-- How an operator holds: its name, side and level. -/
structure Fx where
  name : List UInt8
  side : Int
  level : Int
def Fx.val (f : Fx) : Value := .agg #[.string (bs f.name), .int .i64 f.side, .int .i64 f.level]
def Fx.cells (f : Fx) : Array Value := #[.string (bs f.name), .int .i64 f.side, .int .i64 f.level]
def Nd.val (n : Nd) (o : Option Addr) (cap : Nat) : Value := .agg #[.int .i64 n.kind, .string (bs n.name), .int .i64 n.num, .slice o n.kids.length cap, .int .i64 n.pos]

/-- Has an entry a side or a level that is none. -/
def noneM (f : Fx) : Bool := decide (f.side < 1) || decide (3 < f.side) || decide (f.level < 0) || decide (9 < f.level)
def clashM (b n : Fx) : Bool := decide (b.level = n.level) && (decide (b.side ≠ n.side) || decide (b.side = 3))
def keepsM (b n : Fx) : Bool := decide (n.level < b.level) || (decide (b.level = n.level) && decide (b.side = 1))

set_option maxRecDepth 100000 in
theorem untold_c (nm : List UInt8) (w : World) : Calls Tryz.prog 33 #[.string (bs nm)] w fun e w' => e = .returned (Fx.val ⟨nm, 1, 9⟩) ∧ Below w.heap.size w w' := by
  have HB : Hid (∀ o : Obj, Below w.heap.size w (w.alloc o)) := fun o => (Below.refl _ w).alloc (Nat.le_refl _) _
  go_enter Tryz.func33, Tryz.ntmps33
  go_wp2
  exact bodyPost_ret (v := Fx.val ⟨nm, 1, 9⟩) (by simp [results, Tryz.results33, go_sem]; rfl) rfl ⟨rfl, by repeat (first | (refine Below.setCell ?_ (by simp) _) | exact HB.out _)⟩
set_option maxRecDepth 100000 in
theorem negation_c (w : World) : Calls Tryz.prog 55 #[] w fun e w' => e = .returned (Fx.val ⟨[], 1, 6⟩) ∧ Below w.heap.size w w' := by
  have HB : Hid (∀ o : Obj, Below w.heap.size w (w.alloc o)) := fun o => (Below.refl _ w).alloc (Nat.le_refl _) _
  go_enter Tryz.func55, Tryz.ntmps55
  go_wp2
  exact bodyPost_ret (v := Fx.val ⟨[], 1, 6⟩) (by simp [results, Tryz.results55, go_sem]; rfl) rfl ⟨rfl, by repeat (first | (refine Below.setCell ?_ (by simp) _) | exact HB.out _)⟩
set_option maxRecDepth 100000 in
theorem cannotBe_c (v0 v1 v2 v3 : Value) (p : Int) (w : World) : Calls Tryz.prog 56 #[.agg #[v0, v1, v2, v3, .int .i64 p]] w fun e w' => ∃ g, e = .returned (.pointer (some ⟨g, 0, none⟩)) ∧ Blk w' g #[.int .i64 7, .int .i64 p] 33 ∧ Below w.heap.size w w' ∧ w.heap.size ≤ g := by
  go_enter Tryz.func56, Tryz.ntmps56
  go_wp2
  go_ret
  exact ⟨_, rfl, Blk.new2 _ _ _ _, ((Below.refl _ _).alloc (Nat.le_refl _) _).alloc (by simp) _, by simp⟩
set_option maxRecDepth 100000 in
theorem isNone_c (f : Fx) (w : World) : Calls Tryz.prog 20 #[f.val] w fun e w' => e = .returned (.bool (noneM f)) ∧ Below w.heap.size w w' := by
  obtain ⟨nm, sd, lv⟩ := f
  by_cases h1 : sd < 1
  · have HR : Hid (noneM ⟨nm, sd, lv⟩ = true) := by show _ = _; simp [noneM, h1]
    have t1 : decide (sd < 1) = true := decide_eq_true h1
    unfold Fx.val
    go_enter Tryz.func20, Tryz.ntmps20
    go_wp2
    go_ret
    exact ⟨by rw [HR.out]; rfl, (Below.refl _ _).alloc (Nat.le_refl _) _⟩
  have t1 : decide (sd < 1) = false := decide_eq_false h1
  by_cases h2 : 3 < sd
  · have HR : Hid (noneM ⟨nm, sd, lv⟩ = true) := by show _ = _; simp [noneM, h2]
    have t2 : decide (3 < sd) = true := decide_eq_true h2
    unfold Fx.val
    go_enter Tryz.func20, Tryz.ntmps20
    go_wp2
    go_ret
    exact ⟨by rw [HR.out]; rfl, (Below.refl _ _).alloc (Nat.le_refl _) _⟩
  have t2 : decide (3 < sd) = false := decide_eq_false h2
  by_cases h3 : lv < 0
  · have HR : Hid (noneM ⟨nm, sd, lv⟩ = true) := by show _ = _; simp [noneM, h3]
    have t3 : decide (lv < 0) = true := decide_eq_true h3
    unfold Fx.val
    go_enter Tryz.func20, Tryz.ntmps20
    go_wp2
    go_ret
    exact ⟨by rw [HR.out]; rfl, (Below.refl _ _).alloc (Nat.le_refl _) _⟩
  have t3 : decide (lv < 0) = false := decide_eq_false h3
  have HR : Hid (noneM ⟨nm, sd, lv⟩ = decide (9 < lv)) := by show _ = _; simp [noneM, h1, h2, h3]
  clear h1 h2 h3
  unfold Fx.val
  go_enter Tryz.func20, Tryz.ntmps20
  go_wp2
  go_ret
  exact ⟨by rw [HR.out]; rfl, (Below.refl _ _).alloc (Nat.le_refl _) _⟩
set_option maxRecDepth 100000 in
theorem clash_c (b n : Fx) (w : World) : Calls Tryz.prog 59 #[b.val, n.val] w fun e w' => e = .returned (.bool (clashM b n)) ∧ Below w.heap.size w w' := by
  obtain ⟨nm, sd, lv⟩ := b
  obtain ⟨nm', sd', lv'⟩ := n
  by_cases h1 : lv = lv'
  · subst h1
    by_cases h2 : sd = sd'
    · subst h2
      have HR : Hid (clashM ⟨nm, sd, lv⟩ ⟨nm', sd, lv⟩ = (sd == 3)) := by show _ = _; simp [clashM]; rfl
      unfold Fx.val
      go_enter Tryz.func59, Tryz.ntmps59
      go_wp2
      go_ret
      exact ⟨by rw [HR.out]; rfl, ((Below.refl _ _).alloc (Nat.le_refl _) _).alloc (by simp) _⟩
    · have HR : Hid (clashM ⟨nm, sd, lv⟩ ⟨nm', sd', lv⟩ = true) := by show _ = _; simp [clashM, h2]
      have t2 : (sd != sd') = true := bne_iff_ne.2 h2
      unfold Fx.val
      go_enter Tryz.func59, Tryz.ntmps59
      go_wp2
      go_ret
      exact ⟨by rw [HR.out]; rfl, ((Below.refl _ _).alloc (Nat.le_refl _) _).alloc (by simp) _⟩
  · have HR : Hid (clashM ⟨nm, sd, lv⟩ ⟨nm', sd', lv'⟩ = false) := by show _ = _; simp [clashM, h1]
    have t1 : (lv == lv') = false := beq_eq_false_iff_ne.2 h1
    unfold Fx.val
    go_enter Tryz.func59, Tryz.ntmps59
    go_wp2
    go_ret
    exact ⟨by rw [HR.out]; rfl, ((Below.refl _ _).alloc (Nat.le_refl _) _).alloc (by simp) _⟩
set_option maxRecDepth 100000 in
theorem keeps_c (b n : Fx) (w : World) : Calls Tryz.prog 60 #[b.val, n.val] w fun e w' => e = .returned (.bool (keepsM b n)) ∧ Below w.heap.size w w' := by
  obtain ⟨nm, sd, lv⟩ := b
  obtain ⟨nm', sd', lv'⟩ := n
  by_cases h1 : lv' < lv
  · have HR : Hid (keepsM ⟨nm, sd, lv⟩ ⟨nm', sd', lv'⟩ = true) := by show _ = _; simp [keepsM, h1]
    have t1 : decide (lv' < lv) = true := decide_eq_true h1
    unfold Fx.val
    go_enter Tryz.func60, Tryz.ntmps60
    go_wp2
    go_ret
    exact ⟨by rw [HR.out]; rfl, ((Below.refl _ _).alloc (Nat.le_refl _) _).alloc (by simp) _⟩
  have t1 : decide (lv' < lv) = false := decide_eq_false h1
  by_cases h2 : lv = lv'
  · subst h2
    have HR : Hid (keepsM ⟨nm, sd, lv⟩ ⟨nm', sd', lv⟩ = (sd == 1)) := by show _ = _; simp [keepsM]; rfl
    unfold Fx.val
    go_enter Tryz.func60, Tryz.ntmps60
    go_wp2
    go_ret
    exact ⟨by rw [HR.out]; rfl, ((Below.refl _ _).alloc (Nat.le_refl _) _).alloc (by simp) _⟩
  · have HR : Hid (keepsM ⟨nm, sd, lv⟩ ⟨nm', sd', lv'⟩ = false) := by show _ = _; simp [keepsM, h2]; omega
    have t2 : (lv == lv') = false := beq_eq_false_iff_ne.2 h2
    unfold Fx.val
    go_enter Tryz.func60, Tryz.ntmps60
    go_wp2
    go_ret
    exact ⟨by rw [HR.out]; rfl, ((Below.refl _ _).alloc (Nat.le_refl _) _).alloc (by simp) _⟩

/-- Is an operator a constructor's: by its first byte. -/
def isCon : List UInt8 → Bool
  | [] => false
  | b :: _ => ((b.toNat : Int) == 58) || (decide (65 ≤ (b.toNat : Int)) && decide ((b.toNat : Int) ≤ 90))
theorem isCon_ge {b : UInt8} {l : List UInt8} (h : 65 ≤ (b.toNat : Int)) : isCon (b :: l) = (((b.toNat : Int) == 58) || decide ((b.toNat : Int) ≤ 90)) := by
  simp only [isCon]; rw [decide_eq_true h, Bool.true_and]
theorem isCon_lt {b : UInt8} {l : List UInt8} (h : (b.toNat : Int) < 65) : isCon (b :: l) = ((b.toNat : Int) == 58) := by
  simp only [isCon]; rw [decide_eq_false (show ¬ 65 ≤ (b.toNat : Int) by omega), Bool.false_and, Bool.or_false]
set_option maxRecDepth 100000 in
theorem isConF_c (b : UInt8) (l : List UInt8) (w : World) : Calls Tryz.prog 76 #[.string (bs (b :: l))] w fun e w' => e = .returned (.bool (isCon (b :: l))) ∧ w' = w := by
  have hsz : 0 < (bs (b :: l)).size := by show 0 < l.length + 1; omega
  have h0 : ∀ h : 0 < (bs (b :: l)).size, (bs (b :: l))[0]'h = b := fun _ => rfl
  generalize bs (b :: l) = s at *
  by_cases h1 : (b.toNat : Int) = 58
  · have HR : Hid (isCon (b :: l) = true) := by show _ = _; rw [isCon_lt (by omega)]; simp [h1]
    have t1 : ((b.toNat : Int) == 58) = true := by simp [h1]
    clear h1
    go_enter Tryz.func76, Tryz.ntmps76
    go_wp2
    all_goals go_ret
    all_goals exact ⟨by rw [HR.out]; simp_all; try rfl, rfl⟩
  have t1 : ((b.toNat : Int) == 58) = false := beq_eq_false_iff_ne.2 h1
  by_cases h2 : 65 ≤ (b.toNat : Int)
  · have HR : Hid (isCon (b :: l) = decide ((b.toNat : Int) ≤ 90)) := by show _ = _; rw [isCon_ge h2, t1, Bool.false_or]
    have t2 : decide (65 ≤ (b.toNat : Int)) = true := decide_eq_true h2
    clear h1
    go_enter Tryz.func76, Tryz.ntmps76
    go_wp2
    all_goals go_ret
    all_goals exact ⟨by rw [HR.out]; simp_all; try rfl, rfl⟩
  · have HR : Hid (isCon (b :: l) = false) := by show _ = _; rw [isCon_lt (by omega), t1]
    have t2 : decide (65 ≤ (b.toNat : Int)) = false := decide_eq_false h2
    clear h1
    go_enter Tryz.func76, Tryz.ntmps76
    go_wp2
    all_goals go_ret
    all_goals exact ⟨by rw [HR.out]; simp_all; try rfl, rfl⟩
/-- May an operator be among operands of a kind. -/
def mayM (kind : Int) (nm : List UInt8) : Bool := (kind == 17) || isCon nm
set_option maxRecDepth 100000 in
theorem mayStand_c (kind : Int) (nm : List UInt8) (hn : nm ≠ []) (w : World) : Calls Tryz.prog 58 #[.int .i64 kind, .string (bs nm)] w fun e w' => e = .returned (.bool (mayM kind nm)) ∧ w' = w := by
  obtain ⟨b, l, rfl⟩ : ∃ b l, nm = b :: l := by cases nm with | nil => exact absurd rfl hn | cons b l => exact ⟨b, l, rfl⟩
  have HC : Hid (Calls Tryz.prog 76 #[.string (bs (b :: l))] w fun e w' => e = .returned (.bool (isCon (b :: l))) ∧ w' = w) := isConF_c b l w
  have HR : Hid (mayM kind (b :: l) = ((kind == 17) || isCon (b :: l))) := rfl
  generalize bs (b :: l) = s at *
  generalize isCon (b :: l) = c at *
  generalize mayM kind (b :: l) = m at *
  clear hn
  by_cases h1 : kind = 17
  · subst h1
    have HR2 : Hid (m = true) := by show _ = _; rw [HR.out]; rfl
    clear HR
    go_enter Tryz.func58, Tryz.ntmps58
    go_wp2_with (go_at_call 76; refine HC.out.mono ?_; rintro e w1 ⟨rfl, rfl⟩)
    go_ret
    exact ⟨by rw [HR2.out]; rfl, rfl⟩
  · have t1 : (kind == 17) = false := beq_eq_false_iff_ne.2 h1
    have HR2 : Hid (m = c) := by show _ = _; rw [HR.out, t1, Bool.false_or]
    clear HR h1
    go_enter Tryz.func58, Tryz.ntmps58
    go_wp2_with (go_at_call 76; refine HC.out.mono ?_; rintro e w1 ⟨rfl, rfl⟩)
    go_ret
    exact ⟨by rw [HR2.out]; rfl, rfl⟩
end Go.Proofs.YtppnhaacmhfenabGreatDoor

namespace Go.Proofs.YtppnhaacmhfenabGreatDoor
open Go.RowKit Go.Shelf Go.Maps
set_option linter.unusedVariables false

theorem nin_mono {W : World} {B B' : Nat} {n : Nd} {o : Option Addr} {cap : Nat} (h : NdIn W B n o cap) (hb : B ≤ B') : NdIn W B' n o cap := by
  refine ⟨?_, h.2⟩
  rcases h.1 with e | ⟨g, off, e, hg, hK⟩
  · exact .inl e
  · exact .inr ⟨g, off, e, by omega, KidsAt.mono hb _ g off hK⟩
def WfF (n : Nd) : Prop := (-9223372036854775808 ≤ n.kind ∧ n.kind ≤ 9223372036854775807) ∧ n.name.length ≤ 9223372036854775807 ∧ (-9223372036854775808 ≤ n.num ∧ n.num ≤ 9223372036854775807)
theorem ndF_at {W : World} {B g off : Nat} {n : Nd} {o : Option Addr} {cap : Nat} (h : NdIn W B n o cap) (c0 : W.cell? ⟨g, off, none⟩ = some (.int .i64 n.kind)) (c1 : W.cell? ⟨g, off + 1, none⟩ = some (.string (bs n.name))) (c2 : W.cell? ⟨g, off + 2, none⟩ = some (.int .i64 n.num)) (c3 : W.cell? ⟨g, off + 3, none⟩ = some (.slice o n.kids.length cap)) (c4 : W.cell? ⟨g, off + 4, none⟩ = some (.int .i64 n.pos)) : NdAt W B n g off := by
  obtain ⟨h1, h2, h3, h4, h5, h6⟩ := h
  cases n
  simp only [NdAt]
  exact ⟨o, cap, c0, c1, c2, c3, c4, h2, h3, ⟨h4, h5, h6⟩, h1⟩
def Nd.cells (n : Nd) (o : Option Addr) (cap : Nat) : Array Value := #[.int .i64 n.kind, .string (bs n.name), .int .i64 n.num, .slice o n.kids.length cap, .int .i64 n.pos]
theorem nin_1 {W : World} {B g : Nat} (n : Nd) {a : Nd} {oa : Option Addr} {ca : Nat} (hk : n.kids = [a]) (hw : WfF n) (ha : NdIn W B a oa ca) (hg : g < B) (hB : Blk W g #[.int .i64 a.kind, .string (bs a.name), .int .i64 a.num, .slice oa a.kids.length ca, .int .i64 a.pos] 28) : NdIn W B n (some ⟨g, 0, none⟩) 1 := by
  refine ⟨.inr ⟨g, 0, rfl, hg, ?_⟩, by rw [hk]; exact Nat.le_refl _, by decide, hw⟩
  rw [hk]
  simp only [KidsAt]
  exact ⟨ndF_at ha (hB.cell 0 _ rfl) (hB.cell 1 _ rfl) (hB.cell 2 _ rfl) (hB.cell 3 _ rfl) (hB.cell 4 _ rfl), trivial⟩
theorem nin_2 {W : World} {B g : Nat} (n : Nd) {a : Nd} {b : Nd} {oa : Option Addr} {ca : Nat} {ob : Option Addr} {cb : Nat} (hk : n.kids = [a, b]) (hw : WfF n) (ha : NdIn W B a oa ca) (hb : NdIn W B b ob cb) (hg : g < B) (hB : Blk W g #[.int .i64 a.kind, .string (bs a.name), .int .i64 a.num, .slice oa a.kids.length ca, .int .i64 a.pos, .int .i64 b.kind, .string (bs b.name), .int .i64 b.num, .slice ob b.kids.length cb, .int .i64 b.pos] 28) : NdIn W B n (some ⟨g, 0, none⟩) 2 := by
  refine ⟨.inr ⟨g, 0, rfl, hg, ?_⟩, by rw [hk]; exact Nat.le_refl _, by decide, hw⟩
  rw [hk]
  simp only [KidsAt]
  exact ⟨ndF_at ha (hB.cell 0 _ rfl) (hB.cell 1 _ rfl) (hB.cell 2 _ rfl) (hB.cell 3 _ rfl) (hB.cell 4 _ rfl), ndF_at hb (hB.cell 5 _ rfl) (hB.cell 6 _ rfl) (hB.cell 7 _ rfl) (hB.cell 8 _ rfl) (hB.cell 9 _ rfl), trivial⟩
theorem nin_3 {W : World} {B g : Nat} (n : Nd) {a : Nd} {b : Nd} {d : Nd} {oa : Option Addr} {ca : Nat} {ob : Option Addr} {cb : Nat} {od : Option Addr} {cd : Nat} (hk : n.kids = [a, b, d]) (hw : WfF n) (ha : NdIn W B a oa ca) (hb : NdIn W B b ob cb) (hd : NdIn W B d od cd) (hg : g < B) (hB : Blk W g #[.int .i64 a.kind, .string (bs a.name), .int .i64 a.num, .slice oa a.kids.length ca, .int .i64 a.pos, .int .i64 b.kind, .string (bs b.name), .int .i64 b.num, .slice ob b.kids.length cb, .int .i64 b.pos, .int .i64 d.kind, .string (bs d.name), .int .i64 d.num, .slice od d.kids.length cd, .int .i64 d.pos] 28) : NdIn W B n (some ⟨g, 0, none⟩) 3 := by
  refine ⟨.inr ⟨g, 0, rfl, hg, ?_⟩, by rw [hk]; exact Nat.le_refl _, by decide, hw⟩
  rw [hk]
  simp only [KidsAt]
  exact ⟨ndF_at ha (hB.cell 0 _ rfl) (hB.cell 1 _ rfl) (hB.cell 2 _ rfl) (hB.cell 3 _ rfl) (hB.cell 4 _ rfl), ndF_at hb (hB.cell 5 _ rfl) (hB.cell 6 _ rfl) (hB.cell 7 _ rfl) (hB.cell 8 _ rfl) (hB.cell 9 _ rfl), ndF_at hd (hB.cell 10 _ rfl) (hB.cell 11 _ rfl) (hB.cell 12 _ rfl) (hB.cell 13 _ rfl) (hB.cell 14 _ rfl), trivial⟩

/-- An operator as an expression. -/
def opHead (op : Nd) : Nd := .mk (if isCon op.name = true then 12 else 11) op.name op.num op.kids op.pos
/-- An operator with both its operands. -/
def appM (kind : Int) (op l r : Nd) : Nd := if kind = 44 then .mk 39 op.name 0 [l, r] l.pos else .mk 16 [] 0 [opHead op, l, r] l.pos

theorem fifth (w : World) (a b c d : Obj) (vs : Array Value) (T : TypeId) : Blk (((((w.alloc a).alloc b).alloc c).alloc d).alloc (.cells vs T)) (w.heap.size + 4) vs T ∧ Below w.heap.size w (((((w.alloc a).alloc b).alloc c).alloc d).alloc (.cells vs T)) ∧ (((((w.alloc a).alloc b).alloc c).alloc d).alloc (.cells vs T)).heap.size = w.heap.size + 5 := by
  refine ⟨?_, ?_, by simp⟩
  · have := Blk.new ((((w.alloc a).alloc b).alloc c).alloc d) vs T
    simpa using this
  · exact (((((Below.refl _ w).alloc (Nat.le_refl _) _).alloc (by simp) _).alloc (by simp; omega) _).alloc (by simp; omega) _).alloc (by simp; omega) _
theorem bs_nil : (⟨#[]⟩ : ByteArray) = bs [] := rfl

set_option maxRecDepth 100000 in
set_option maxHeartbeats 4000000 in
theorem applied_c (kind : Int) (op l r : Nd) (oo ol or' : Option Addr) (co cl cr : Nat) (hne : op.name ≠ []) (w : World) (ho : NdIn w w.heap.size op oo co) (hl : NdIn w w.heap.size l ol cl) (hr : NdIn w w.heap.size r or' cr) :
    Calls Tryz.prog 61 #[.int .i64 kind, op.val oo co, l.val ol cl, r.val or' cr] w fun e w' => ∃ o cap, e = .returned ((appM kind op l r).val o cap) ∧ NdIn w' w'.heap.size (appM kind op l r) o cap ∧ Below w.heap.size w w' := by
  by_cases hk : kind = 44
  · have HF : Hid (∀ (a b c d : Obj), ∃ o cap, o = some ⟨w.heap.size + 4, 0, none⟩ ∧ cap = 2 ∧ NdIn (((((w.alloc a).alloc b).alloc c).alloc d).alloc (.cells #[.int .i64 l.kind, .string (bs l.name), .int .i64 l.num, .slice ol l.kids.length cl, .int .i64 l.pos, .int .i64 r.kind, .string (bs r.name), .int .i64 r.num, .slice or' r.kids.length cr, .int .i64 r.pos] 28)) (w.heap.size + 5) (appM 44 op l r) o cap ∧ Below w.heap.size w (((((w.alloc a).alloc b).alloc c).alloc d).alloc (.cells #[.int .i64 l.kind, .string (bs l.name), .int .i64 l.num, .slice ol l.kids.length cl, .int .i64 l.pos, .int .i64 r.kind, .string (bs r.name), .int .i64 r.num, .slice or' r.kids.length cr, .int .i64 r.pos] 28))) := by
      intro a b c d
      obtain ⟨h1, h2, h3⟩ := fifth w a b c d #[.int .i64 l.kind, .string (bs l.name), .int .i64 l.num, .slice ol l.kids.length cl, .int .i64 l.pos, .int .i64 r.kind, .string (bs r.name), .int .i64 r.num, .slice or' r.kids.length cr, .int .i64 r.pos] 28
      refine ⟨_, _, rfl, rfl, nin_2 _ rfl ⟨(by decide : (-9223372036854775808 : Int) ≤ 39 ∧ (39 : Int) ≤ 9223372036854775807), ho.2.2.2.2.1, (by decide : (-9223372036854775808 : Int) ≤ 0 ∧ (0 : Int) ≤ 9223372036854775807)⟩ (nin_mono (hl.below h2) (by omega)) (nin_mono (hr.below h2) (by omega)) (by omega) h1, h2⟩
    subst hk
    clear ho hl hr
    unfold Nd.val
    go_enter Tryz.func61, Tryz.ntmps61
    go_wp2
    obtain ⟨o, cap, rfl, rfl, h1, h2⟩ := HF.out (.cells #[.int .i64 op.kind, .string (bs op.name), .int .i64 op.num, .slice oo op.kids.length co, .int .i64 op.pos] 28) (.cells #[.int .i64 l.kind, .string (bs l.name), .int .i64 l.num, .slice ol l.kids.length cl, .int .i64 l.pos] 28) (.cells #[.int .i64 r.kind, .string (bs r.name), .int .i64 r.num, .slice or' r.kids.length cr, .int .i64 r.pos] 28) (.cells #[.int .i64 39, .string (bs op.name), .int .i64 0, .slice (some ⟨w.heap.size + 4, 0, none⟩) 2 2, .int .i64 l.pos] 28)
    exact bodyPost_ret (v := (appM 44 op l r).val (some ⟨w.heap.size + 4, 0, none⟩) 2) (by simp [results, Tryz.results61, go_sem]; rfl) rfl ⟨_, _, rfl, by simpa using h1, h2⟩
  · have hA : appM kind op l r = .mk 16 [] 0 [opHead op, l, r] l.pos := if_neg hk
    have t1 : (kind == 44) = false := beq_eq_false_iff_ne.2 hk
    obtain ⟨b, ls, hbl⟩ : ∃ b ls, op.name = b :: ls := by cases h : op.name with | nil => exact absurd h hne | cons b ls => exact ⟨b, ls, rfl⟩
    have HC : Hid (∀ W, Calls Tryz.prog 76 #[.string (bs op.name)] W fun e w' => e = .returned (.bool (isCon op.name)) ∧ w' = W) := by intro W; rw [hbl]; exact isConF_c b ls W
    clear hbl hk hne
    cases hb : isCon op.name with
    | true =>
      have hH : opHead op = .mk 12 op.name op.num op.kids op.pos := by unfold opHead; rw [hb]; rfl
      have HF : Hid (∀ (a b c d : Obj), NdIn (((((w.alloc a).alloc b).alloc c).alloc d).alloc (.cells #[.int .i64 12, .string (bs op.name), .int .i64 op.num, .slice oo op.kids.length co, .int .i64 op.pos, .int .i64 l.kind, .string (bs l.name), .int .i64 l.num, .slice ol l.kids.length cl, .int .i64 l.pos, .int .i64 r.kind, .string (bs r.name), .int .i64 r.num, .slice or' r.kids.length cr, .int .i64 r.pos] 28)) (w.heap.size + 5) (appM kind op l r) (some ⟨w.heap.size + 4, 0, none⟩) 3 ∧ Below w.heap.size w (((((w.alloc a).alloc b).alloc c).alloc d).alloc (.cells #[.int .i64 12, .string (bs op.name), .int .i64 op.num, .slice oo op.kids.length co, .int .i64 op.pos, .int .i64 l.kind, .string (bs l.name), .int .i64 l.num, .slice ol l.kids.length cl, .int .i64 l.pos, .int .i64 r.kind, .string (bs r.name), .int .i64 r.num, .slice or' r.kids.length cr, .int .i64 r.pos] 28))) := by
        intro a b c d
        obtain ⟨h1, h2, h3⟩ := fifth w a b c d #[.int .i64 12, .string (bs op.name), .int .i64 op.num, .slice oo op.kids.length co, .int .i64 op.pos, .int .i64 l.kind, .string (bs l.name), .int .i64 l.num, .slice ol l.kids.length cl, .int .i64 l.pos, .int .i64 r.kind, .string (bs r.name), .int .i64 r.num, .slice or' r.kids.length cr, .int .i64 r.pos] 28
        rw [hA]
        refine ⟨nin_3 (a := .mk 12 op.name op.num op.kids op.pos) (b := l) (d := r) _ (by show [opHead op, l, r] = _; rw [hH]) ⟨(by decide : (-9223372036854775808 : Int) ≤ 16 ∧ (16 : Int) ≤ 9223372036854775807), (by decide : (0 : Nat) ≤ 9223372036854775807), (by decide : (-9223372036854775808 : Int) ≤ 0 ∧ (0 : Int) ≤ 9223372036854775807)⟩ (nin_mono (NdIn.below (n := .mk 12 op.name op.num op.kids op.pos) ⟨ho.1, ho.2.1, ho.2.2.1, (by decide : (-9223372036854775808 : Int) ≤ 12 ∧ (12 : Int) ≤ 9223372036854775807), ho.2.2.2.2⟩ h2) (by omega)) (nin_mono (hl.below h2) (by omega)) (nin_mono (hr.below h2) (by omega)) (by omega) h1, h2⟩
      have HV : Hid ((appM kind op l r).val (some ⟨w.heap.size + 4, 0, none⟩) 3 = .agg #[.int .i64 16, .string ⟨#[]⟩, .int .i64 0, .slice (some ⟨w.heap.size + 4, 0, none⟩) 3 3, .int .i64 l.pos]) := by show _ = _; rw [hA]; rfl
      rw [hb] at HC
      clear ho hl hr hH hb hA
      unfold Nd.val
      go_enter Tryz.func61, Tryz.ntmps61
      go_wp2_with (go_at_call 76; refine (HC.out _).mono ?_; rintro e w1 ⟨rfl, rfl⟩)
      refine bodyPost_ret (v := (appM kind op l r).val (some ⟨w.heap.size + 4, 0, none⟩) 3) (by rw [HV.out]; simp [results, Tryz.results61, go_sem]) rfl ⟨_, _, rfl, ?_, (HF.out _ _ _ _).2⟩
      have h5 := (HF.out (.cells #[.int .i64 12, .string (bs op.name), .int .i64 op.num, .slice oo op.kids.length co, .int .i64 op.pos] 28) (.cells #[.int .i64 l.kind, .string (bs l.name), .int .i64 l.num, .slice ol l.kids.length cl, .int .i64 l.pos] 28) (.cells #[.int .i64 r.kind, .string (bs r.name), .int .i64 r.num, .slice or' r.kids.length cr, .int .i64 r.pos] 28) (.cells #[.int .i64 16, .string ⟨#[]⟩, .int .i64 0, .slice (some ⟨w.heap.size + 4, 0, none⟩) 3 3, .int .i64 l.pos] 28)).1
      simpa using h5
    | false =>
      have hH : opHead op = .mk 11 op.name op.num op.kids op.pos := by unfold opHead; rw [hb]; rfl
      have HF : Hid (∀ (a b c d : Obj), NdIn (((((w.alloc a).alloc b).alloc c).alloc d).alloc (.cells #[.int .i64 11, .string (bs op.name), .int .i64 op.num, .slice oo op.kids.length co, .int .i64 op.pos, .int .i64 l.kind, .string (bs l.name), .int .i64 l.num, .slice ol l.kids.length cl, .int .i64 l.pos, .int .i64 r.kind, .string (bs r.name), .int .i64 r.num, .slice or' r.kids.length cr, .int .i64 r.pos] 28)) (w.heap.size + 5) (appM kind op l r) (some ⟨w.heap.size + 4, 0, none⟩) 3 ∧ Below w.heap.size w (((((w.alloc a).alloc b).alloc c).alloc d).alloc (.cells #[.int .i64 11, .string (bs op.name), .int .i64 op.num, .slice oo op.kids.length co, .int .i64 op.pos, .int .i64 l.kind, .string (bs l.name), .int .i64 l.num, .slice ol l.kids.length cl, .int .i64 l.pos, .int .i64 r.kind, .string (bs r.name), .int .i64 r.num, .slice or' r.kids.length cr, .int .i64 r.pos] 28))) := by
        intro a b c d
        obtain ⟨h1, h2, h3⟩ := fifth w a b c d #[.int .i64 11, .string (bs op.name), .int .i64 op.num, .slice oo op.kids.length co, .int .i64 op.pos, .int .i64 l.kind, .string (bs l.name), .int .i64 l.num, .slice ol l.kids.length cl, .int .i64 l.pos, .int .i64 r.kind, .string (bs r.name), .int .i64 r.num, .slice or' r.kids.length cr, .int .i64 r.pos] 28
        rw [hA]
        refine ⟨nin_3 (a := .mk 11 op.name op.num op.kids op.pos) (b := l) (d := r) _ (by show [opHead op, l, r] = _; rw [hH]) ⟨(by decide : (-9223372036854775808 : Int) ≤ 16 ∧ (16 : Int) ≤ 9223372036854775807), (by decide : (0 : Nat) ≤ 9223372036854775807), (by decide : (-9223372036854775808 : Int) ≤ 0 ∧ (0 : Int) ≤ 9223372036854775807)⟩ (nin_mono (NdIn.below (n := .mk 11 op.name op.num op.kids op.pos) ⟨ho.1, ho.2.1, ho.2.2.1, (by decide : (-9223372036854775808 : Int) ≤ 11 ∧ (11 : Int) ≤ 9223372036854775807), ho.2.2.2.2⟩ h2) (by omega)) (nin_mono (hl.below h2) (by omega)) (nin_mono (hr.below h2) (by omega)) (by omega) h1, h2⟩
      have HV : Hid ((appM kind op l r).val (some ⟨w.heap.size + 4, 0, none⟩) 3 = .agg #[.int .i64 16, .string ⟨#[]⟩, .int .i64 0, .slice (some ⟨w.heap.size + 4, 0, none⟩) 3 3, .int .i64 l.pos]) := by show _ = _; rw [hA]; rfl
      rw [hb] at HC
      clear ho hl hr hH hb hA
      unfold Nd.val
      go_enter Tryz.func61, Tryz.ntmps61
      go_wp2_with (go_at_call 76; refine (HC.out _).mono ?_; rintro e w1 ⟨rfl, rfl⟩)
      refine bodyPost_ret (v := (appM kind op l r).val (some ⟨w.heap.size + 4, 0, none⟩) 3) (by rw [HV.out]; simp [results, Tryz.results61, go_sem]) rfl ⟨_, _, rfl, ?_, (HF.out _ _ _ _).2⟩
      have h5 := (HF.out (.cells #[.int .i64 11, .string (bs op.name), .int .i64 op.num, .slice oo op.kids.length co, .int .i64 op.pos] 28) (.cells #[.int .i64 l.kind, .string (bs l.name), .int .i64 l.num, .slice ol l.kids.length cl, .int .i64 l.pos] 28) (.cells #[.int .i64 r.kind, .string (bs r.name), .int .i64 r.num, .slice or' r.kids.length cr, .int .i64 r.pos] 28) (.cells #[.int .i64 16, .string ⟨#[]⟩, .int .i64 0, .slice (some ⟨w.heap.size + 4, 0, none⟩) 3 3, .int .i64 l.pos] 28)).1
      simpa using h5
end Go.Proofs.YtppnhaacmhfenabGreatDoor

namespace Go.Proofs.YtppnhaacmhfenabGreatDoor
open Go.RowKit Go.Shelf Go.Maps
set_option linter.unusedVariables false

/-- Entries one behind the other. -/
def FxsAt (W : World) (fs : List Fx) (g off : Nat) : Prop := ∀ k (h : k < fs.length), W.cell? ⟨g, off + k * 3, none⟩ = some (.string (bs fs[k].name)) ∧ W.cell? ⟨g, off + k * 3 + 1, none⟩ = some (.int .i64 fs[k].side) ∧ W.cell? ⟨g, off + k * 3 + 2, none⟩ = some (.int .i64 fs[k].level)
def FxsIn (W : World) (B : Nat) (o : Option Addr) (fs : List Fx) : Prop := fs = [] ∨ ∃ g off, o = some ⟨g, off, none⟩ ∧ g < B ∧ FxsAt W fs g off
theorem FxsIn.at {W : World} {B : Nat} {o : Option Addr} {fs : List Fx} (h : FxsIn W B o fs) (k : Nat) (hk : k < fs.length) : ∃ g off, o = some ⟨g, off, none⟩ ∧ g < B ∧ FxsAt W fs g off := by
  rcases h with rfl | h
  · cases hk
  · exact h
theorem FxsAt.below {W W' : World} {B : Nat} {fs : List Fx} {g off : Nat} (h : FxsAt W fs g off) (hg : g < B) (hb : Below B W W') : FxsAt W' fs g off := fun k hk => ⟨(hb.cell (p := ⟨g, off + k * 3, none⟩) hg).trans (h k hk).1, (hb.cell (p := ⟨g, off + k * 3 + 1, none⟩) hg).trans (h k hk).2.1, (hb.cell (p := ⟨g, off + k * 3 + 2, none⟩) hg).trans (h k hk).2.2⟩
theorem FxsIn.below {W W' : World} {B : Nat} {o : Option Addr} {fs : List Fx} (h : FxsIn W B o fs) (hb : Below B W W') : FxsIn W' B o fs := by
  rcases h with h | ⟨g, off, e, hg, h⟩
  · exact .inl h
  · exact .inr ⟨g, off, e, hg, h.below hg hb⟩
/-- The number of the first entry that is none. -/
def ixM : Nat → List Fx → Int
  | _, [] => -1
  | k, f :: fs => if noneM f = true then (k : Int) else ixM (k + 1) fs

set_option maxRecDepth 100000 in
set_option maxHeartbeats 4000000 in
theorem indexFunc_c (fs : List Fx) (o : Option Addr) (cap : Nat) (hl : fs.length ≤ 4611686018427387904) (w : World) (h : FxsIn w w.heap.size o fs) :
    Calls Tryz.prog 30 #[.slice o fs.length cap, .func (.func 20) #[] #[]] w fun e w' => e = .returned (.int .i64 (ixM 0 fs)) ∧ Below w.heap.size w w' := by
  have HK : Hid (FxsIn w w.heap.size o fs) := h
  have HC : Hid (∀ (f : Fx) (W : World), Calls Tryz.prog 20 #[.agg #[.string (bs f.name), .int .i64 f.side, .int .i64 f.level]] W fun e w' => e = .returned (.bool (noneM f)) ∧ Below W.heap.size W w') := isNone_c
  have HR : Hid (ixM 0 fs = ixM 0 (fs.drop 0)) := rfl
  obtain ⟨L, hL⟩ : ∃ L, fs.length = L := ⟨_, rfl⟩
  have HLf : Hid (fs.length = L) := hL
  rw [hL]
  have hLi : (L : Int) ≤ 4611686018427387904 := by omega
  clear h hl hL
  go_enter Tryz.func30, Tryz.ntmps30
  go_wp2
  go_loopw [8] (fun i wr => ∃ k : Nat, k ≤ L ∧ i = .int .i64 k ∧ Hid (Below w.heap.size w wr) ∧ Hid (ixM 0 fs = ixM k (fs.drop k))) (fun i _ => L - (intOf i).toNat)
  case atStart => exact ⟨0, Nat.zero_le _, rfl, Below.refl _ _, HR⟩
  case round =>
    obtain ⟨k, hk, rfl, hB, hEq⟩ := hrel
    by_cases hlt : k < L
    · have hkf : k < fs.length := by rw [HLf.out]; exact hlt
      have hki : (k : Int) < (L : Int) := by omega
      obtain ⟨g, off, rfl, hg, hA⟩ := HK.out.at k hkf
      obtain ⟨c0, c1, c2⟩ := (hA.below hg hB.out) k hkf
      have hgr : g < wr.heap.size := Nat.lt_of_lt_of_le hg hB.out.size
      have HC1 : Hid (Calls Tryz.prog 20 #[.agg #[.string (bs fs[k].name), .int .i64 fs[k].side, .int .i64 fs[k].level]] wr fun e w' => e = .returned (.bool (noneM fs[k])) ∧ Below wr.heap.size wr w') := HC.out fs[k] wr
      have HD : Hid (ixM k (fs.drop k) = if noneM fs[k] = true then (k : Int) else ixM (k + 1) (fs.drop (k + 1))) := by
        show _ = _
        rw [List.drop_eq_getElem_cons hkf]; rfl
      generalize fs[k] = f at *
      generalize bs f.name = nm at *
      generalize f.side = sd at *
      generalize f.level = lv at *
      clear hA hkf
      cases hn : noneM f with
      | true =>
        rw [hn] at HC1 HD
        rw [if_pos rfl] at HD
        go_wp2_with (go_at_call 20; refine HC1.out.mono ?_; rintro e w1 ⟨rfl, hb1⟩)
        go_ret
        exact ⟨by rw [hEq.out, HD.out]; rfl, hB.out.trans (hb1.mono hB.out.size)⟩
      | false =>
        rw [hn] at HC1 HD
        rw [if_neg (by simp)] at HD
        go_wp2_with (go_at_call 20; refine HC1.out.mono ?_; rintro e w1 ⟨rfl, hb1⟩)
        go_roundw
        case rel => exact ⟨k + 1, by omega, by go_num, (hB.out.trans (hb1.mono hB.out.size) : Below _ _ _), (hEq.out.trans HD.out : ixM 0 fs = ixM (k + 1) (fs.drop (k + 1)))⟩
        case measure => simp [intOf]; omega
    · obtain rfl : k = L := by omega
      have HD : Hid (ixM k (fs.drop k) = -1) := by
        show _ = _
        rw [List.drop_eq_nil_of_le (by rw [HLf.out]; exact Nat.le_refl _)]; rfl
      go_wp2
      go_ret
      exact ⟨by rw [hEq.out, HD.out]; rfl, hB.out⟩

/-- Is an entry of a table none. -/
def anyNone (fs : List Fx) : Bool := decide (0 ≤ ixM 0 fs)
set_option maxRecDepth 100000 in
theorem containsFunc_c (fs : List Fx) (o : Option Addr) (cap : Nat) (hl : fs.length ≤ 4611686018427387904) (w : World) (h : FxsIn w w.heap.size o fs) :
    Calls Tryz.prog 19 #[.slice o fs.length cap, .func (.func 20) #[] #[]] w fun e w' => e = .returned (.bool (anyNone fs)) ∧ Below w.heap.size w w' := by
  have HC : Hid (Calls Tryz.prog 30 #[.slice o fs.length cap, .func (.func 20) #[] #[]] w fun e w' => e = .returned (.int .i64 (ixM 0 fs)) ∧ Below w.heap.size w w') := indexFunc_c fs o cap hl w h
  have HR : Hid (anyNone fs = decide (0 ≤ ixM 0 fs)) := rfl
  clear h hl
  go_enter Tryz.func19, Tryz.ntmps19
  go_wp2_with (go_at_call 30; refine HC.out.mono ?_; rintro e w1 ⟨rfl, hb1⟩)
  go_ret
  exact ⟨by rw [HR.out]; rfl, hb1⟩
end Go.Proofs.YtppnhaacmhfenabGreatDoor

namespace Go.Proofs.YtppnhaacmhfenabGreatDoor
open Go.RowKit Go.Shelf Go.Maps
set_option linter.unusedVariables false

theorem Blk.sets3 {W : World} {E : Nat} {v0 v1 v2 : Value} {T : TypeId} (h : Blk W E #[v0, v1, v2] T) (a0 a1 a2 : Value) : Blk (((W.setCell ⟨E, 0, none⟩ a0).setCell ⟨E, 1, none⟩ a1).setCell ⟨E, 2, none⟩ a2) E #[a0, a1, a2] T := by
  have h0 : Blk (W.setCell ⟨E, 0, none⟩ a0) E #[a0, v1, v2] T := h.set 0 a0
  have h1 : Blk ((W.setCell ⟨E, 0, none⟩ a0).setCell ⟨E, 1, none⟩ a1) E #[a0, a1, v2] T := h0.set 1 a1
  exact h1.set 2 a2
/-- How an operator holds by a table, whose first entry of that name counts. -/
def holdM (fs : List Fx) (x : List UInt8) : Fx := match fs.find? (fun f => f.name == x) with | some f => f | none => ⟨x, 1, 9⟩
def fxZero : Value := .agg #[.string ⟨#[]⟩, .int .i64 0, .int .i64 0]
/-- The map holds the first entry of each name. -/
def FxSt (W : World) (b c : Nat) (fs : List Fx) : Prop := ∃ D : DataW Value, W.ownsMap Tryz.prog 9 heldElem b c D ∧ Maps.IsMap D ∧ ∀ x : List UInt8, Maps.has D (.string x) = (fs.find? (fun f => f.name == x)).isSome ∧ ∀ f, fs.find? (fun f => f.name == x) = some f → D.atKey (.string x) (.held fxZero) = .held f.val
theorem FxSt.lt {W : World} {b c : Nat} {fs : List Fx} (h : FxSt W b c fs) : b < W.heap.size := by
  obtain ⟨D, h1, _⟩ := h
  exact h1.lt
theorem FxSt.same {W W' : World} {b c : Nat} {fs : List Fx} (h : FxSt W b c fs) (hb : W'.heap[b]? = W.heap[b]?) : FxSt W' b c fs := by
  obtain ⟨D, h1, h2⟩ := h
  obtain ⟨es, clock, k1, k2⟩ := h1
  exact ⟨D, ⟨es, clock, by rw [hb]; exact k1, k2⟩, h2⟩
theorem FxSt.below {W W' : World} {b c : Nat} {fs : List Fx} (h : FxSt W b c fs) (hb : Below W.heap.size W W') : FxSt W' b c fs := h.same (hb.block b h.lt)
theorem fxSt_new (W : World) : FxSt (W.alloc (.map #[] 0)) W.heap.size 0 [] := ⟨.map [], World.ownsMap_made W Tryz.prog 9 heldElem, ⟨_, rfl⟩, fun x => ⟨rfl, fun f h => by cases h⟩⟩
theorem zeroFx (w : World) : (zeroValue 42).run Tryz.prog w = .ok fxZero w := by kernel_rfl

theorem FxSt.look {W : World} {b c : Nat} {fs : List Fx} (h : FxSt W b c fs) (nm : List UInt8) (hs : nm.length ≤ 9223372036854775807) :
    (∃ f, fs.find? (fun f => f.name == nm) = some f ∧ (Instr.lookup 70 (.map (some b)) (.string (bs nm)) true).run Tryz.prog W = .ok (.tuple #[f.val, .bool true]) W) ∨ (fs.find? (fun f => f.name == nm) = none ∧ (Instr.lookup 70 (.map (some b)) (.string (bs nm)) true).run Tryz.prog W = .ok (.tuple #[fxZero, .bool false]) W) := by
  obtain ⟨D, hown, hD, hall⟩ := h
  obtain ⟨v, ps, hrun, hv⟩ := hown.look_ok (string_keyed Tryz.underlying9) Tryz.underlying70 (zeroFx W) (zd := .held fxZero) (zp := []) rfl (key_strN (bs nm) hs)
  have e : (bs nm).data.toList = nm := rfl
  rw [e] at hrun hv
  obtain ⟨h1, h2⟩ := hall nm
  cases hf : fs.find? (fun f => f.name == nm) with
  | none =>
    rw [hf] at h1
    right
    refine ⟨rfl, ?_⟩
    rw [Maps.atKey_of_not_has h1] at hv
    rw [heldElem_inv hv, h1] at hrun
    exact hrun
  | some f =>
    rw [hf] at h1
    left
    refine ⟨f, rfl, ?_⟩
    rw [h2 f hf] at hv
    rw [heldElem_inv hv, h1] at hrun
    exact hrun

set_option maxRecDepth 100000 in
set_option maxHeartbeats 4000000 in
theorem finder1_c (fs : List Fx) (nm : List UInt8) (hs : nm.length ≤ 9223372036854775807) (mb b c : Nat) (w : World) (hm : w.cell? ⟨mb, 0, none⟩ = some (.map (some b))) (hmb : mb < w.heap.size) (h : FxSt w b c fs) :
    Calls Tryz.prog 32 #[.string (bs nm), .pointer (some ⟨mb, 0, none⟩)] w fun e w' => e = .returned (holdM fs nm).val ∧ Below w.heap.size w w' := by
  have HB : Hid (∀ a, Below w.heap.size w (w.alloc a)) := fun a => (Below.refl _ w).alloc (Nat.le_refl _) _
  have HB2 : Hid (∀ a b, Below w.heap.size w ((w.alloc a).alloc b)) := fun a b => ((Below.refl _ w).alloc (Nat.le_refl _) _).alloc (by simp) _
  obtain ⟨w0, hw0⟩ : ∃ w0, w.alloc (.cells #[.string ⟨#[]⟩, .int .i64 0, .int .i64 0] 42) = w0 := ⟨_, rfl⟩
  have hst : FxSt w0 b c fs := by rw [← hw0]; exact h.below (HB.out _)
  rcases hst.look nm hs with ⟨⟨fn, fsd, flv⟩, hf, hrun⟩ | ⟨hf, hrun⟩
  · have HR : Hid ((holdM fs nm).val = .agg #[.string (bs fn), .int .i64 fsd, .int .i64 flv]) := by show _ = _; unfold holdM; rw [hf]; rfl
    rw [← hw0] at hrun
    simp only [Fx.val] at hrun
    clear hf hst hw0 h hs
    generalize bs nm = s at *
    generalize bs fn = s2 at *
    go_enter Tryz.func32, Tryz.ntmps32
    go_wp2
    exact bodyPost_ret (v := (holdM fs nm).val) (by rw [HR.out]; simp [results, Tryz.results32, go_sem]) rfl ⟨rfl, HB2.out _ _⟩
  · have HR : Hid ((holdM fs nm).val = (Fx.val ⟨nm, 1, 9⟩)) := by show _ = _; unfold holdM; rw [hf]
    have HC : Hid (∀ W : World, Calls Tryz.prog 33 #[.string (bs nm)] W fun e w' => e = .returned (.agg #[.string (bs nm), .int .i64 1, .int .i64 9]) ∧ Below W.heap.size W w') := untold_c nm
    rw [← hw0] at hrun
    simp only [fxZero] at hrun
    clear hf hst hw0 h hs
    obtain ⟨V, hV⟩ : ∃ V, ((w.alloc (.cells #[.string ⟨#[]⟩, .int .i64 0, .int .i64 0] 42)).alloc (.cells #[.string ⟨#[]⟩, .int .i64 0, .int .i64 0] 42)) = V := ⟨_, rfl⟩
    have HVb : Hid (Below w.heap.size w V) := by show Below _ _ _; rw [← hV]; exact HB2.out _ _
    have HVk : Hid (Blk V w.heap.size #[.string ⟨#[]⟩, .int .i64 0, .int .i64 0] 42) := by show Blk _ _ _ _; rw [← hV]; exact (Blk.new w _ _).below ((Below.refl _ _).alloc (Nat.le_refl _) _)
    have HVe : Hid (((w.alloc (.cells #[.string ⟨#[]⟩, .int .i64 0, .int .i64 0] 42)).alloc (.cells #[.string ⟨#[]⟩, .int .i64 0, .int .i64 0] 42)) = V) := hV
    clear hV HB HB2
    generalize hs : bs nm = s at hrun HC ⊢
    have HS : Hid (bs nm = s) := hs
    clear hs
    go_enter Tryz.func32, Tryz.ntmps32
    go_wp2_with (go_at_call 33; fail)
    rw [HVe.out]
    refine (HC.out V).mono ?_
    rintro e w1 ⟨rfl, hb⟩
    have H1 : Hid (Below w.heap.size w w1) := HVb.out.trans (hb.mono HVb.out.size)
    obtain ⟨f0, f1, f2, z0, z1, z2⟩ := (HVk.out.below hb).all3
    have hl := (HVk.out.below hb).lt
    have HVw : Hid (Blk w1 w.heap.size #[.string ⟨#[]⟩, .int .i64 0, .int .i64 0] 42) := HVk.out.below hb
    clear hb
    go_wp2
    have hK := HVw.out.sets3 (.string s) (.int .i64 1) (.int .i64 9)
    have hBW : Below w.heap.size w (((w1.setCell ⟨w.heap.size, 0, none⟩ (.string s)).setCell ⟨w.heap.size, 1, none⟩ (.int .i64 1)).setCell ⟨w.heap.size, 2, none⟩ (.int .i64 9)) := ((H1.out.setCell (p := ⟨w.heap.size, 0, none⟩) (Nat.le_refl _) _).setCell (p := ⟨w.heap.size, 1, none⟩) (Nat.le_refl _) _).setCell (p := ⟨w.heap.size, 2, none⟩) (Nat.le_refl _) _
    generalize (((w1.setCell ⟨w.heap.size, 0, none⟩ (.string s)).setCell ⟨w.heap.size, 1, none⟩ (.int .i64 1)).setCell ⟨w.heap.size, 2, none⟩ (.int .i64 9)) = WF at hK hBW ⊢
    obtain ⟨g0, g1, g2, _, _, _⟩ := hK.all3
    exact bodyPost_ret (v := (holdM fs nm).val) (by rw [HR.out]; simp [results, Tryz.results32, go_sem, g0, g1, g2, Fx.val, HS.out]) rfl ⟨rfl, hBW⟩
end Go.Proofs.YtppnhaacmhfenabGreatDoor
