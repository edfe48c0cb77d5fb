/-
  Package prim: Apply, by a contract.
-/
import Derived.Test.YtijafedpaghhaaaDoorPe
import Derived.Deep.RegionHeld3
import Derived.Laws.EntriesVeiled
namespace Go.Proofs.YtijafedpaghhaaaDoor
open Go.RowKit Go.Shelf Go.Maps
set_option linter.unusedVariables false

/-- A simple value. -/
structure PT where
  k : Int
  n : Int
  t : ByteArray
def PT.val (p : PT) : Value := pv p.k p.n p.t
def PsAt (W : World) (ps : List PT) (g off : Nat) : Prop := ∀ k (h : k < ps.length), W.cell? ⟨g, off + k * 3, none⟩ = some (.int .i64 ps[k].k) ∧ W.cell? ⟨g, off + k * 3 + 1, none⟩ = some (.int .i64 ps[k].n) ∧ W.cell? ⟨g, off + k * 3 + 2, none⟩ = some (.string ps[k].t)
def PsIn (W : World) (B : Nat) (o : Option Addr) (ps : List PT) : Prop := ps = [] ∨ ∃ g off, o = some ⟨g, off, none⟩ ∧ g < B ∧ PsAt W ps g off
theorem PsIn.at {W : World} {B : Nat} {o : Option Addr} {ps : List PT} (h : PsIn W B o ps) (k : Nat) (hk : k < ps.length) : ∃ g off, o = some ⟨g, off, none⟩ ∧ g < B ∧ PsAt W ps g off := by
  rcases h with rfl | h
  · cases hk
  · exact h
theorem PsAt.below {W W' : World} {B : Nat} {ps : List PT} {g off : Nat} (h : PsAt W ps g off) (hg : g < B) (hb : Below B W W') : PsAt W' ps g off := fun k hk => ⟨(hb.cell (p := ⟨g, off + k * 3, none⟩) hg).trans (h k hk).1, (hb.cell (p := ⟨g, off + k * 3 + 1, none⟩) hg).trans (h k hk).2.1, (hb.cell (p := ⟨g, off + k * 3 + 2, none⟩) hg).trans (h k hk).2.2⟩
theorem PsIn.below {W W' : World} {B : Nat} {o : Option Addr} {ps : List PT} (h : PsIn W B o ps) (hb : Below B W W') : PsIn W' B o ps := by
  rcases h with h | ⟨g, off, e, hg, h⟩
  · exact .inl h
  · exact .inr ⟨g, off, e, hg, h.below hg hb⟩
def okP (tk : Int) (p : PT) : Bool := (p.k == tk) && mayM p.k p.n p.t
def pz : Value := pv 0 0 noText
def refused : Value := .tuple #[pz, .int .i64 2]
theorem zeroEnt (w : World) : (zeroValue 49).run Tryd.prog w = .ok (.agg #[.int .i64 0, .nilFunc]) w := by kernel_rfl

theorem toL (s : ByteArray) : s.toList = s.data.toList := by
  first | exact Lib.toList_eq s | exact ByteArray.toList_eq s | simp
theorem mapFind (x : List UInt8) (hf : opOf x = none) : tabL.find? (fun p => p.1 == x) = none := by
  rcases tab_find x with h | ⟨tk, f, g, _, h, _⟩
  · exact h.1
  · rw [hf] at h; cases h
set_option maxRecDepth 100000 in
set_option maxHeartbeats 2000000 in
theorem apply_none (s : ByteArray) (hs : s.size ≤ maxLen) (o : Option Addr) (len cap : Nat) (w : World) (hf : opOf s.data.toList = none) :
    Calls Tryd.prog 8 #[.string s, .slice o len cap] w fun e w' => e = .returned refused ∧ Below w.heap.size w w' := by
  have hfind := mapFind _ hf
  have HL : Hid (∀ (W : World) (b : Nat), MapIs W b 15 tabL → (Instr.lookup 46 (.map (some b)) (.string s) true).run Tryd.prog W = .ok (.tuple #[.agg #[.int .i64 0, .nilFunc], .bool false]) W) := by
    intro W b h
    rcases h.look 46 49 Tryd.underlying46 _ (zeroEnt W) s hs with ⟨v, h1, _⟩ | ⟨_, h2⟩
    · rw [hfind] at h1; cases h1
    · exact h2
  clear hf hfind hs
  go_enter Tryd.func8, Tryd.ntmps8
  go_wp2_with (go_at_call 25; fail)
  refine (table_c _).mono ?_
  rintro e w1 ⟨rfl, hm, hb⟩
  have HK := (Blk.new w _ _).below hb
  have HB : Hid (Below w.heap.size w w1) := (below1 w _).trans (hb.mono (by simp))
  obtain ⟨f0, f1, f2, z0, z1, z2⟩ := HK.all3
  have HKh : Hid (Blk w1 w.heap.size #[.int .i64 0, .int .i64 0, .string ⟨#[]⟩] 26) := HK
  have hl := HK.lt
  have hrun := HL.out w1 (w.heap.size + 1) (by simpa using hm)
  clear HK hb hm HL
  go_wp2
  have hB2 := (below_sets3 HB.out w.heap.size (Nat.le_refl _) (.int .i64 0) (.int .i64 0) (.string ⟨#[]⟩)).alloc (below_sets3 HB.out w.heap.size (Nat.le_refl _) (.int .i64 0) (.int .i64 0) (.string ⟨#[]⟩)).size (.cells #[.int .i64 0, .nilFunc] 49)
  have hK := (HKh.out.sets3 (.int .i64 0) (.int .i64 0) (.string ⟨#[]⟩)).alloc (.cells #[.int .i64 0, .nilFunc] 49)
  generalize World.alloc _ _ = WF at hK hB2 ⊢
  obtain ⟨g0, g1, g2, _, _, _⟩ := hK.all3
  exact bodyPost_ret (v := refused) (by simp [results, Tryd.results8, go_sem, g0, g1, g2, refused, pz, pv, noText]) rfl ⟨rfl, hB2⟩
theorem look_tab (s : ByteArray) (hs : s.size ≤ maxLen) (tk : Int) (f : Nat) (hfind : tabL.find? (fun p => p.1 == s.data.toList) = some (s.data.toList, entV tk f)) (W : World) (b : Nat) (h : MapIs W b 15 tabL) : (Instr.lookup 46 (.map (some b)) (.string s) true).run Tryd.prog W = .ok (.tuple #[.agg #[.int .i64 tk, .func (.func f) #[] #[]], .bool true]) W := by
  rcases h.look 46 49 Tryd.underlying46 _ (zeroEnt W) s hs with ⟨v, h1, h2⟩ | ⟨h1, _⟩
  · rw [hfind] at h1; cases h1; exact h2
  · rw [hfind] at h1; cases h1
set_option maxRecDepth 100000 in
set_option maxHeartbeats 2000000 in
theorem apply_len (s : ByteArray) (hs : s.size ≤ maxLen) (o : Option Addr) (len cap : Nat) (w : World) (tk : Int) (f : Nat) (hfind : tabL.find? (fun p => p.1 == s.data.toList) = some (s.data.toList, entV tk f)) (hne : (len : Int) ≠ arM s.data.toList) :
    Calls Tryd.prog 8 #[.string s, .slice o len cap] w fun e w' => e = .returned refused ∧ Below w.heap.size w w' := by
  have HL : Hid (∀ (W : World) (b : Nat), MapIs W b 15 tabL → (Instr.lookup 46 (.map (some b)) (.string s) true).run Tryd.prog W = .ok (.tuple #[.agg #[.int .i64 tk, .func (.func f) #[] #[]], .bool true]) W) := look_tab s hs tk f hfind
  have HA : Hid (∀ W : World, Calls Tryd.prog 29 #[.string s] W fun e w' => e = .returned (.int .i64 (arM s.data.toList)) ∧ w' = W) := fun W => by rw [← toL]; exact arity_c s W
  clear hs hfind
  generalize arM s.data.toList = ar at *
  have hne2 : ((len : Int) != ar) = true := by simpa using hne
  clear hne
  go_enter Tryd.func8, Tryd.ntmps8
  go_wp2_with (go_at_call 25; fail)
  refine (table_c _).mono ?_
  rintro e w1 ⟨rfl, hm, hb⟩
  have HK := (Blk.new w _ _).below hb
  have HB : Hid (Below w.heap.size w w1) := (below1 w _).trans (hb.mono (by simp))
  obtain ⟨f0, f1, f2, z0, z1, z2⟩ := HK.all3
  have HKh : Hid (Blk w1 w.heap.size #[.int .i64 0, .int .i64 0, .string ⟨#[]⟩] 26) := HK
  have hl := HK.lt
  have hrun := HL.out w1 (w.heap.size + 1) (by simpa using hm)
  clear HK hb hm HL
  go_wp2_with (go_at_call 29; refine (HA.out _).mono ?_; rintro e w' ⟨rfl, rfl⟩)
  have hB2 := (below_sets3 HB.out w.heap.size (Nat.le_refl _) (.int .i64 0) (.int .i64 0) (.string ⟨#[]⟩)).alloc (below_sets3 HB.out w.heap.size (Nat.le_refl _) (.int .i64 0) (.int .i64 0) (.string ⟨#[]⟩)).size (.cells #[.int .i64 tk, .func (.func f) #[] #[]] 49)
  have hK := (HKh.out.sets3 (.int .i64 0) (.int .i64 0) (.string ⟨#[]⟩)).alloc (.cells #[.int .i64 tk, .func (.func f) #[] #[]] 49)
  generalize World.alloc _ _ = WF at hK hB2 ⊢
  obtain ⟨g0, g1, g2, _, _, _⟩ := hK.all3
  exact bodyPost_ret (v := refused) (by simp [results, Tryd.results8, go_sem, g0, g1, g2, refused, pz, pv, noText]) rfl ⟨rfl, hB2⟩
end Go.Proofs.YtijafedpaghhaaaDoor
