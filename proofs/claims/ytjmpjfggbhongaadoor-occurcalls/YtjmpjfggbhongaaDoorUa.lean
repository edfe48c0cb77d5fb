/-
  A walk in memory (stage 16): its rows, its map, its binders.
-/
import Derived.Test.YtjmpjfggbhongaaDoorVd
import Derived.Maps.AppendAt
import Derived.Laws.OwnMore
import Derived.Laws.AppendOwnNone
import Derived.Deep.RegionHeld3
import Derived.Deep.RegionWith
import Derived.Deep.Cut
import Derived.Deep.LoopGhost
import Derived.Deep.OwnRows
namespace Go.Proofs.YtjmpjfggbhongaaDoor
open Go.RowKit Go.Shelf Go.Maps
set_option linter.unusedVariables false

theorem zeroB16 (w : World) : (zeroValue 57).run Tryd.prog w = .ok (.pointer none) w := by kernel_rfl
/-- A map of names to binders; nothing is the nil pointer. -/
def BmMap (W : World) (m c : Nat) (f : List UInt8 → Value) : Prop := ∃ D : DataW Value, W.ownsMap Tryd.prog 9 heldElem m c D ∧ Maps.IsMap D ∧ ∀ x, D.atKey (.string x) (.held (.pointer none)) = .held (f x)
theorem BmMap.lt {W : World} {m c : Nat} {f : List UInt8 → Value} (h : BmMap W m c f) : m < W.heap.size := by
  obtain ⟨D, h1, _⟩ := h
  exact h1.lt
theorem BmMap.same {W W' : World} {m c : Nat} {f : List UInt8 → Value} (h : BmMap W m c f) (hb : W'.heap[m]? = W.heap[m]?) : BmMap W' m c f := by
  obtain ⟨D, ⟨es, clock, k1, k2⟩, h2⟩ := h
  exact ⟨D, ⟨es, clock, by rw [hb]; exact k1, k2⟩, h2⟩
theorem bmMap_new (W : World) : BmMap (W.alloc (.map #[] 0)) W.heap.size 0 (fun _ => .pointer none) := ⟨.map [], World.ownsMap_made W Tryd.prog 9 heldElem, ⟨_, rfl⟩, fun x => rfl⟩
theorem BmMap.look {W : World} {m c : Nat} {f : List UInt8 → Value} (h : BmMap W m c f) (s : ByteArray) (hs : s.size ≤ maxLen) : (Instr.lookup 70 (.map (some m)) (.string s) false).run Tryd.prog W = .ok (f s.data.toList) W := by
  obtain ⟨D, ⟨es, clock, hb, F, hsz, rfl⟩, hD, hall⟩ := h
  have hx := hall s.data.toList
  rcases Maps.fit_look false (string_keyed Tryd.underlying9) Tryd.underlying70 (zeroB16 W) hb F (key_str s hs) with ⟨h1, _, h3⟩ | ⟨e0, y, _, _, h1, h2, h3, _⟩
  · rw [h3] at hx
    have e : f s.data.toList = .pointer none := (DataW.held.inj hx).symm
    rw [e]
    rw [if_neg (by decide)] at h1
    exact h1
  · rw [h3] at hx
    have h2' : y = (.held e0.val, []) := (Option.some.inj h2).symm
    subst h2'
    have e : e0.val = f s.data.toList := DataW.held.inj hx
    rw [← e]
    rw [if_neg (by decide)] at h1
    exact h1
theorem BmMap.put {W : World} {m c : Nat} {f : List UInt8 → Value} (h : BmMap W m c f) (hc : c < 4000000) (s : ByteArray) (hs : s.size ≤ maxLen) (val : Value) :
    ∃ W', (Instr.mapUpdate 70 (.map (some m)) (.string s) val).run Tryd.prog W = .ok () W' ∧ BmMap W' m (c + 1) (fun x => if x = s.data.toList then val else f x) ∧ But m W W' := by
  obtain ⟨D, hown, hD, hall⟩ := h
  obtain ⟨w', h5, h6, h7⟩ := hown.store (string_keyed Tryd.underlying9) Tryd.underlying70 (by unfold maxLen; omega) (key_str s hs) (d := .held val) (ps := []) rfl
  refine ⟨w', h5, ⟨_, h6, ?_, fun x => ?_⟩, ?_⟩
  · obtain ⟨es2, rfl⟩ := hD
    exact ⟨_, rfl⟩
  · show DataW.atKey _ _ _ = .held (if x = s.data.toList then val else f x)
    by_cases hx : x = s.data.toList
    · subst hx
      rw [if_pos rfl]
      exact Maps.atKey_put_same hD (by constructor) _ _
    · rw [if_neg hx, Maps.atKey_put_other (by simpa using hx)]
      exact hall x
  · obtain ⟨es, clock, es', clock', hb, rfl⟩ := h7
    refine ⟨rfl, rfl, rfl, ?_, fun k hk hn => Go.ChangeMaps.heap_setBlock_other hb _ hn⟩
    show _ ≤ (W.heap.setIfInBounds m _).size
    simp
theorem owns_same16 {W W' : World} {b e z n : Nat} {v : Value} {xs : List Value} (h : W.ownsRow b e z v n xs) (hb : ∀ g, v.ownBlock = some g → W'.heap[g]? = W.heap[g]?) : W'.ownsRow b e z v n xs := by
  rcases h with ⟨hl, h | ⟨g, cap, cur, h1, h2, h3, h4⟩⟩
  · exact ⟨hl, .inl h⟩
  · refine ⟨hl, .inr ⟨g, cap, cur, h1, h2, ?_, h4⟩⟩
    rw [hb g (by rw [h1]; rfl)]; exact h3
theorem owns_form {W : World} {b e z n : Nat} {v : Value} {xs : List Value} (h : W.ownsRow b e z v n xs) : ∃ (o : Option Addr) (c : Nat), v = .slice o n c ∧ n ≤ c ∧ c ≤ 9223372036854775807 := by
  rcases h with ⟨_, ⟨rfl, rfl⟩ | ⟨g, cap, cur, h, _, _, h1, h2, _⟩⟩
  · exact ⟨none, 0, rfl, Nat.le_refl _, by decide⟩
  · exact ⟨_, cap, h, h1, by unfold maxLen at h2; omega⟩
theorem owns_lt {W : World} {b e z n : Nat} {v : Value} {xs : List Value} (h : W.ownsRow b e z v n xs) {g : Nat} (hg : v.ownBlock = some g) : b ≤ g ∧ g < W.heap.size := by
  rcases h with ⟨_, ⟨rfl, rfl⟩ | ⟨g', cap, cur, rfl, h1, h2, _⟩⟩
  · cases hg
  · cases hg; exact ⟨h1, (Array.getElem?_eq_some_iff.1 h2).1⟩
theorem owns_nil (W : World) (b e z : Nat) : W.ownsRow b e z (.slice none 0 0) 0 [] := ⟨by simp, .inl ⟨rfl, rfl⟩⟩
/-- The type of a block's cells. -/
def tyOf (W : World) (g : Nat) : Option TypeId := match W.heap[g]? with | some (.cells _ T _) => some T | _ => none
theorem tyBlk {W : World} {B : Nat} {vs : Array Value} {T : TypeId} (h : Blk W B vs T) : tyOf W B = some T := by unfold tyOf; rw [show W.heap[B]? = _ from h]
theorem tyOwn {W : World} {b e z n : Nat} {v : Value} {xs : List Value} (h : W.ownsRow b e z v n xs) {g : Nat} (hg : v.ownBlock = some g) : tyOf W g = some e := by
  rcases h with ⟨_, ⟨rfl, rfl⟩ | ⟨g', cap, cur, rfl, h1, h2, _⟩⟩
  · cases hg
  · cases hg; unfold tyOf; rw [h2]
theorem tyMap {W : World} {m c : Nat} {f : List UInt8 → Value} (h : BmMap W m c f) : tyOf W m = none := by
  obtain ⟨D, ⟨es, clock, k1, k2⟩, h2⟩ := h
  unfold tyOf; rw [k1]
theorem neT {W : World} {a b : Nat} {x y : Option TypeId} (h1 : tyOf W a = x) (h2 : tyOf W b = y) (h : x ≠ y) : a ≠ b := fun e => h (by rw [← h1, ← h2, e])

def aV : Option Nat → Int
  | none => 9223372036854775807
  | some a => a
def pC (q : Nat × Option Nat) : List Value := [.int .i64 (q.1 : Int), .int .i64 (aV q.2)]
def ptV (bl : Nat → Nat) : Option Nat → Value
  | none => .pointer none
  | some i => .pointer (some ⟨bl i, 0, none⟩)
def bC (bl : Nat → Nat) (b : BdR) : Array Value := #[.string b.name, .int .i64 (b.occ : Int), .int .i64 (b.places : Int), .int .i64 (b.last : Int), .int .i64 (b.lam : Int), .int .i64 (b.level : Int), ptV bl b.hid]
def pL (l : List (Nat × Option Nat)) : List Value := l.reverse.flatMap pC
def iL (bl : Nat → Nat) (l : List Nat) : List Value := l.map (fun i => ptV bl (some i))
theorem pL_len (l : List (Nat × Option Nat)) : (pL l).length = l.length * 2 := by
  have e : ∀ r : List (Nat × Option Nat), (r.flatMap pC).length = r.length * 2 := by
    intro r
    induction r with
    | nil => rfl
    | cons v l ih => rw [List.flatMap_cons, List.length_append, ih, List.length_cons]; show 2 + _ = _; omega
  unfold pL
  rw [e, List.length_reverse]
/-- All numbers of binders are those of binders. -/
structure RgS (s : WS) : Prop where
  rn : ∀ x i, s.named x = some i → i < s.bs.length
  rs : ∀ i ∈ s.scope, i < s.bs.length
  ra : ∀ i ∈ s.asked, i < s.bs.length
  rh : ∀ k (h : k < s.bs.length) i, s.bs[k].hid = some i → i < s.bs.length
/-- A walk in memory: its own cells in block P, all of it from block F on. -/
structure WkS (W : World) (F P : Nat) (s : WS) (bl : Nat → Nat) (pv sv av : Value) (m c : Nat) : Prop where
  blk : Blk W P #[pv, .int .i64 (s.lam : Int), .int .i64 (s.met : Int), .map (some m), sv, av] 73
  FP : F ≤ P
  Fm : F ≤ m
  FW : F ≤ W.heap.size
  pr : W.ownsRow F 116 2 pv s.parts.length (pL s.parts)
  sr : W.ownsRow F 57 1 sv s.scope.length (iL bl s.scope)
  ar : W.ownsRow F 57 1 av s.asked.length (iL bl s.asked)
  sa : ∀ g, sv.ownBlock = some g → av.ownBlock ≠ some g
  mp : BmMap W m c (fun x => ptV bl (s.named x))
  cp : c ≤ s.puts
  bd : ∀ i (h : i < s.bs.length), Blk W (bl i) (bC bl s.bs[i]) 59 ∧ F ≤ bl i ∧ s.bs[i].name.size ≤ maxLen
  inj : ∀ i j, i < s.bs.length → j < s.bs.length → bl i = bl j → i = j
  rg : RgS s
section
variable {W W' : World} {F P : Nat} {s : WS} {bl : Nat → Nat} {pv sv av : Value} {m c : Nat}
theorem WkS.tyP (h : WkS W F P s bl pv sv av m c) : tyOf W P = some 73 := tyBlk h.blk
theorem WkS.typv (h : WkS W F P s bl pv sv av m c) {g : Nat} (hg : pv.ownBlock = some g) : tyOf W g = some 116 := tyOwn h.pr hg
theorem WkS.tysv (h : WkS W F P s bl pv sv av m c) {g : Nat} (hg : sv.ownBlock = some g) : tyOf W g = some 57 := tyOwn h.sr hg
theorem WkS.tyav (h : WkS W F P s bl pv sv av m c) {g : Nat} (hg : av.ownBlock = some g) : tyOf W g = some 57 := tyOwn h.ar hg
theorem WkS.tym (h : WkS W F P s bl pv sv av m c) : tyOf W m = none := tyMap h.mp
theorem WkS.tyb (h : WkS W F P s bl pv sv av m c) {i : Nat} (hi : i < s.bs.length) : tyOf W (bl i) = some 59 := tyBlk (h.bd i hi).1
theorem WkS.bll (h : WkS W F P s bl pv sv av m c) {i : Nat} (hi : i < s.bs.length) : bl i < W.heap.size := (h.bd i hi).1.lt
/-- All its blocks stay. -/
theorem WkS.on (h : WkS W F P s bl pv sv av m c) (hb : Below W.heap.size W W') : WkS W' F P s bl pv sv av m c :=
  ⟨h.blk.below hb, h.FP, h.Fm, Nat.le_trans h.FW hb.size, owns_same16 h.pr (fun g hg => hb.block g (owns_lt h.pr hg).2), owns_same16 h.sr (fun g hg => hb.block g (owns_lt h.sr hg).2), owns_same16 h.ar (fun g hg => hb.block g (owns_lt h.ar hg).2), h.sa, h.mp.same (hb.block m h.mp.lt), h.cp, fun i hi => ⟨(h.bd i hi).1.below hb, (h.bd i hi).2⟩, h.inj, h.rg⟩
theorem WkS.drew (h : WkS W F P s bl pv sv av m c) : WkS W.drew F P s bl pv sv av m c := ⟨h.blk, h.FP, h.Fm, h.FW, h.pr, h.sr, h.ar, h.sa, h.mp.same rfl, h.cp, h.bd, h.inj, h.rg⟩
theorem blk_same {B : Nat} {vs : Array Value} {T : TypeId} (h : Blk W B vs T) (hb : W'.heap[B]? = W.heap[B]?) : Blk W' B vs T := by unfold Blk; rw [hb]; exact h
/-- Its numbers are set. -/
theorem WkS.setP (h : WkS W F P s bl pv sv av m c) (hsz : W.heap.size ≤ W'.heap.size) (oth : ∀ g, g < W.heap.size → g ≠ P → W'.heap[g]? = W.heap[g]?) (k j : Nat) (hP : Blk W' P #[pv, .int .i64 (k : Int), .int .i64 (j : Int), .map (some m), sv, av] 73) : WkS W' F P { s with lam := k, met := j } bl pv sv av m c :=
  ⟨hP, h.FP, h.Fm, Nat.le_trans h.FW hsz, owns_same16 h.pr (fun g hg => oth g (owns_lt h.pr hg).2 (neT (h.typv hg) h.tyP (by decide))), owns_same16 h.sr (fun g hg => oth g (owns_lt h.sr hg).2 (neT (h.tysv hg) h.tyP (by decide))), owns_same16 h.ar (fun g hg => oth g (owns_lt h.ar hg).2 (neT (h.tyav hg) h.tyP (by decide))), h.sa, h.mp.same (oth m h.mp.lt (neT h.tym h.tyP (by decide))), h.cp, fun i hi => ⟨blk_same (h.bd i hi).1 (oth _ (h.bll hi) (neT (h.tyb hi) h.tyP (by decide))), (h.bd i hi).2⟩, h.inj, ⟨h.rg.rn, h.rg.rs, h.rg.ra, h.rg.rh⟩⟩
/-- Its parts are changed. -/
theorem WkS.setParts (h : WkS W F P s bl pv sv av m c) (hsz : W.heap.size ≤ W'.heap.size) (oth : ∀ g, g < W.heap.size → g ≠ P → pv.ownBlock ≠ some g → W'.heap[g]? = W.heap[g]?) {pv' : Value} {l : List (Nat × Option Nat)} (hP : Blk W' P #[pv', .int .i64 (s.lam : Int), .int .i64 (s.met : Int), .map (some m), sv, av] 73) (hr : W'.ownsRow F 116 2 pv' l.length (pL l)) : WkS W' F P { s with parts := l } bl pv' sv av m c :=
  ⟨hP, h.FP, h.Fm, Nat.le_trans h.FW hsz, hr, owns_same16 h.sr (fun g hg => oth g (owns_lt h.sr hg).2 (neT (h.tysv hg) h.tyP (by decide)) (fun e => neT (h.tysv hg) (h.typv e) (by decide) rfl)), owns_same16 h.ar (fun g hg => oth g (owns_lt h.ar hg).2 (neT (h.tyav hg) h.tyP (by decide)) (fun e => neT (h.tyav hg) (h.typv e) (by decide) rfl)), h.sa, h.mp.same (oth m h.mp.lt (neT h.tym h.tyP (by decide)) (fun e => neT h.tym (h.typv e) (by decide) rfl)), h.cp, fun i hi => ⟨blk_same (h.bd i hi).1 (oth _ (h.bll hi) (neT (h.tyb hi) h.tyP (by decide)) (fun e => neT (h.tyb hi) (h.typv e) (by decide) rfl)), (h.bd i hi).2⟩, h.inj, ⟨h.rg.rn, h.rg.rs, h.rg.ra, h.rg.rh⟩⟩
/-- Its row of binders in scope is changed. -/
theorem WkS.setScope (h : WkS W F P s bl pv sv av m c) (hsz : W.heap.size ≤ W'.heap.size) (oth : ∀ g, g < W.heap.size → g ≠ P → sv.ownBlock ≠ some g → W'.heap[g]? = W.heap[g]?) {sv' : Value} {l : List Nat} (hP : Blk W' P #[pv, .int .i64 (s.lam : Int), .int .i64 (s.met : Int), .map (some m), sv', av] 73) (hr : W'.ownsRow F 57 1 sv' l.length (iL bl l)) (hsa : ∀ g, sv'.ownBlock = some g → av.ownBlock ≠ some g) (hl : ∀ i ∈ l, i < s.bs.length) : WkS W' F P { s with scope := l } bl pv sv' av m c :=
  ⟨hP, h.FP, h.Fm, Nat.le_trans h.FW hsz, owns_same16 h.pr (fun g hg => oth g (owns_lt h.pr hg).2 (neT (h.typv hg) h.tyP (by decide)) (fun e => neT (h.typv hg) (h.tysv e) (by decide) rfl)), hr, owns_same16 h.ar (fun g hg => oth g (owns_lt h.ar hg).2 (neT (h.tyav hg) h.tyP (by decide)) (fun e => h.sa g e hg)), hsa, h.mp.same (oth m h.mp.lt (neT h.tym h.tyP (by decide)) (fun e => neT h.tym (h.tysv e) (by decide) rfl)), h.cp, fun i hi => ⟨blk_same (h.bd i hi).1 (oth _ (h.bll hi) (neT (h.tyb hi) h.tyP (by decide)) (fun e => neT (h.tyb hi) (h.tysv e) (by decide) rfl)), (h.bd i hi).2⟩, h.inj, ⟨h.rg.rn, hl, h.rg.ra, h.rg.rh⟩⟩
/-- Its row of binders of the answer is changed. -/
theorem WkS.setAsked (h : WkS W F P s bl pv sv av m c) (hsz : W.heap.size ≤ W'.heap.size) (oth : ∀ g, g < W.heap.size → g ≠ P → av.ownBlock ≠ some g → W'.heap[g]? = W.heap[g]?) {av' : Value} {l : List Nat} (hP : Blk W' P #[pv, .int .i64 (s.lam : Int), .int .i64 (s.met : Int), .map (some m), sv, av'] 73) (hr : W'.ownsRow F 57 1 av' l.length (iL bl l)) (hsa : ∀ g, sv.ownBlock = some g → av'.ownBlock ≠ some g) (hl : ∀ i ∈ l, i < s.bs.length) : WkS W' F P { s with asked := l } bl pv sv av' m c :=
  ⟨hP, h.FP, h.Fm, Nat.le_trans h.FW hsz, owns_same16 h.pr (fun g hg => oth g (owns_lt h.pr hg).2 (neT (h.typv hg) h.tyP (by decide)) (fun e => neT (h.typv hg) (h.tyav e) (by decide) rfl)), owns_same16 h.sr (fun g hg => oth g (owns_lt h.sr hg).2 (neT (h.tysv hg) h.tyP (by decide)) (fun e => h.sa g hg e)), hr, hsa, h.mp.same (oth m h.mp.lt (neT h.tym h.tyP (by decide)) (fun e => neT h.tym (h.tyav e) (by decide) rfl)), h.cp, fun i hi => ⟨blk_same (h.bd i hi).1 (oth _ (h.bll hi) (neT (h.tyb hi) h.tyP (by decide)) (fun e => neT (h.tyb hi) (h.tyav e) (by decide) rfl)), (h.bd i hi).2⟩, h.inj, ⟨h.rg.rn, h.rg.rs, hl, h.rg.rh⟩⟩
/-- Its map is changed. -/
theorem WkS.setMap (h : WkS W F P s bl pv sv av m c) (hb : But m W W') {c' p' : Nat} {f : List UInt8 → Option Nat} (hm : BmMap W' m c' (fun x => ptV bl (f x))) (hc : c' ≤ p') (hf : ∀ x i, f x = some i → i < s.bs.length) : WkS W' F P { s with named := f, puts := p' } bl pv sv av m c' :=
  have oth : ∀ g, g < W.heap.size → g ≠ m → W'.heap[g]? = W.heap[g]? := hb.block
  ⟨blk_same h.blk (oth P h.blk.lt (neT h.tyP h.tym (by decide))), h.FP, h.Fm, Nat.le_trans h.FW hb.size, owns_same16 h.pr (fun g hg => oth g (owns_lt h.pr hg).2 (neT (h.typv hg) h.tym (by decide))), owns_same16 h.sr (fun g hg => oth g (owns_lt h.sr hg).2 (neT (h.tysv hg) h.tym (by decide))), owns_same16 h.ar (fun g hg => oth g (owns_lt h.ar hg).2 (neT (h.tyav hg) h.tym (by decide))), h.sa, hm, hc, fun i hi => ⟨blk_same (h.bd i hi).1 (oth _ (h.bll hi) (neT (h.tyb hi) h.tym (by decide))), (h.bd i hi).2⟩, h.inj, ⟨hf, h.rg.rs, h.rg.ra, h.rg.rh⟩⟩
/-- A binder is changed. -/
theorem WkS.setBd (h : WkS W F P s bl pv sv av m c) {i : Nat} (hi : i < s.bs.length) (b : BdR) (hsz : W.heap.size ≤ W'.heap.size) (oth : ∀ g, g < W.heap.size → g ≠ bl i → W'.heap[g]? = W.heap[g]?) (hB : Blk W' (bl i) (bC bl b) 59) (hn : b.name = s.bs[i].name) (hh : b.hid = s.bs[i].hid) : WkS W' F P { s with bs := s.bs.set i b } bl pv sv av m c := by
  refine ⟨blk_same h.blk (oth P h.blk.lt (neT h.tyP (h.tyb hi) (by decide))), h.FP, h.Fm, Nat.le_trans h.FW hsz, owns_same16 h.pr (fun g hg => oth g (owns_lt h.pr hg).2 (neT (h.typv hg) (h.tyb hi) (by decide))), owns_same16 h.sr (fun g hg => oth g (owns_lt h.sr hg).2 (neT (h.tysv hg) (h.tyb hi) (by decide))), owns_same16 h.ar (fun g hg => oth g (owns_lt h.ar hg).2 (neT (h.tyav hg) (h.tyb hi) (by decide))), h.sa, h.mp.same (oth m h.mp.lt (neT h.tym (h.tyb hi) (by decide))), h.cp, fun j hj => ?_, fun j k hj hk => ?_, ⟨?_, ?_, ?_, ?_⟩⟩
  · have hj' : j < s.bs.length := by simpa using hj
    by_cases e : j = i
    · subst e
      have e2 : (s.bs.set j b)[j]'hj = b := by simp
      show Blk W' (bl j) (bC bl ((s.bs.set j b)[j]'hj)) 59 ∧ F ≤ bl j ∧ ((s.bs.set j b)[j]'hj).name.size ≤ maxLen
      rw [e2, hn]
      exact ⟨hB, (h.bd j hj').2⟩
    · have e2 : (s.bs.set i b)[j]'hj = s.bs[j] := by simp [Ne.symm e]
      show Blk W' (bl j) (bC bl ((s.bs.set i b)[j]'hj)) 59 ∧ F ≤ bl j ∧ ((s.bs.set i b)[j]'hj).name.size ≤ maxLen
      rw [e2]
      exact ⟨blk_same (h.bd j hj').1 (oth _ (h.bll hj') (fun e9 => e (h.inj j i hj' hi e9))), (h.bd j hj').2⟩
  · exact h.inj j k (by simpa using hj) (by simpa using hk)
  · intro x j hx; simpa using h.rg.rn x j hx
  · intro j hj; simpa using h.rg.rs j hj
  · intro j hj; simpa using h.rg.ra j hj
  · intro k hk j hj
    have hk' : k < s.bs.length := by simpa using hk
    by_cases e : k = i
    · subst e
      have e2 : (s.bs.set k b)[k]'hk = b := by simp
      have hj2 : ((s.bs.set k b)[k]'hk).hid = some j := hj
      rw [e2, hh] at hj2
      simpa using h.rg.rh k hk' j hj2
    · have e2 : (s.bs.set i b)[k]'hk = s.bs[k] := by simp [Ne.symm e]
      have hj2 : ((s.bs.set i b)[k]'hk).hid = some j := hj
      rw [e2] at hj2
      simpa using h.rg.rh k hk' j hj2
/-- The blocks of binders, and one more. -/
def blN (bl : Nat → Nat) (n N : Nat) : Nat → Nat := fun i => if i = n then N else bl i
theorem ptV_old {n N : Nat} {o : Option Nat} (h : ∀ i, o = some i → i < n) : ptV (blN bl n N) o = ptV bl o := by
  cases o with
  | none => rfl
  | some i => have := h i rfl; show Value.pointer (some ⟨if i = n then N else bl i, 0, none⟩) = _; rw [if_neg (by omega)]; rfl
theorem iL_old {n N : Nat} {l : List Nat} (h : ∀ i ∈ l, i < n) : iL (blN bl n N) l = iL bl l := List.map_congr_left (fun i hi => ptV_old (fun j hj => by cases hj; exact h i hi))
/-- A new binder. -/
theorem WkS.newBd (h : WkS W F P s bl pv sv av m c) (b : BdR) (hb : Below W.heap.size W W') {N : Nat} (hN : W.heap.size ≤ N) (hB : Blk W' N (bC bl b) 59) (hn : b.name.size ≤ maxLen) (hh : ∀ i, b.hid = some i → i < s.bs.length) : WkS W' F P { s with bs := s.bs ++ [b] } (blN bl s.bs.length N) pv sv av m c := by
  have h' := h.on hb
  have hlt : ∀ {i}, i < (s.bs ++ [b]).length → i < s.bs.length ∨ i = s.bs.length := fun {i} hi => by simp at hi; omega
  have hbl : ∀ i, i < s.bs.length → blN bl s.bs.length N i = bl i := fun i hi => if_neg (by omega)
  have hblN : blN bl s.bs.length N s.bs.length = N := if_pos rfl
  have hbc : ∀ b' : BdR, (∀ i, b'.hid = some i → i < s.bs.length) → bC (blN bl s.bs.length N) b' = bC bl b' := fun b' hb' => by unfold bC; rw [ptV_old hb']
  refine ⟨h'.blk, h'.FP, h'.Fm, h'.FW, h'.pr, by rw [iL_old h.rg.rs]; exact h'.sr, by rw [iL_old h.rg.ra]; exact h'.ar, h'.sa, ?_, h'.cp, fun i hi => ?_, fun i j hi hj e => ?_, ⟨?_, ?_, ?_, ?_⟩⟩
  · have e : (fun x => ptV (blN bl s.bs.length N) (s.named x)) = fun x => ptV bl (s.named x) := funext fun x => ptV_old (fun i hi => h.rg.rn x i hi)
    show BmMap W' m c (fun x => ptV (blN bl s.bs.length N) (s.named x))
    rw [e]; exact h'.mp
  · show Blk W' (blN bl s.bs.length N i) (bC (blN bl s.bs.length N) ((s.bs ++ [b])[i]'hi)) 59 ∧ F ≤ blN bl s.bs.length N i ∧ ((s.bs ++ [b])[i]'hi).name.size ≤ maxLen
    rcases hlt hi with h1 | h1
    · have e2 : (s.bs ++ [b])[i]'hi = s.bs[i] := List.getElem_append_left h1
      rw [e2, hbl i h1, hbc _ (fun j hj => h.rg.rh i h1 j hj)]
      exact h'.bd i h1
    · subst h1
      have e2 : (s.bs ++ [b])[s.bs.length]'hi = b := by simp
      rw [e2, hblN, hbc _ hh]
      exact ⟨hB, Nat.le_trans h.FW hN, hn⟩
  · rcases hlt hi with h1 | h1 <;> rcases hlt hj with h2 | h2
    · rw [hbl i h1, hbl j h2] at e; exact h.inj i j h1 h2 e
    · rw [hbl i h1, h2, hblN] at e; have := h.bll h1; omega
    · rw [hbl j h2, h1, hblN] at e; have := h.bll h2; omega
    · omega
  · intro x i hx; have := h.rg.rn x i hx; simp; omega
  · intro i hi; have := h.rg.rs i hi; simp; omega
  · intro i hi; have := h.rg.ra i hi; simp; omega
  · intro k hk i hi
    simp only [List.length_append, List.length_singleton]
    rcases hlt hk with h1 | h1
    · have e2 : (s.bs ++ [b])[k]'hk = s.bs[k] := List.getElem_append_left h1
      have hi2 : ((s.bs ++ [b])[k]'hk).hid = some i := hi
      rw [e2] at hi2
      have := h.rg.rh k h1 i hi2; omega
    · subst h1
      have e2 : (s.bs ++ [b])[s.bs.length]'hk = b := by simp
      have hi2 : ((s.bs ++ [b])[s.bs.length]'hk).hid = some i := hi
      rw [e2] at hi2
      have := hh i hi2; omega
end
/-- A walk in memory. -/
def WkAt (W : World) (F P : Nat) (s : WS) : Prop := ∃ bl pv sv av m c, WkS W F P s bl pv sv av m c
theorem WkAt.on {W W' : World} {F P : Nat} {s : WS} (h : WkAt W F P s) (hb : Below W.heap.size W W') : WkAt W' F P s := by
  obtain ⟨bl, pv, sv, av, m, c, h⟩ := h
  exact ⟨bl, pv, sv, av, m, c, h.on hb⟩
theorem Blk.all6 {W : World} {B : Nat} {v0 v1 v2 v3 v4 v5 : Value} {T : TypeId} (h : Blk W B #[v0, v1, v2, v3, v4, v5] T) : W.cell? ⟨B, 0, none⟩ = some v0 ∧ W.cell? ⟨B, 1, none⟩ = some v1 ∧ W.cell? ⟨B, 2, none⟩ = some v2 ∧ W.cell? ⟨B, 3, none⟩ = some v3 ∧ W.cell? ⟨B, 4, none⟩ = some v4 ∧ W.cell? ⟨B, 5, none⟩ = some v5 ∧ W.frozen? ⟨B, 0, none⟩ = false ∧ W.frozen? ⟨B, 1, none⟩ = false ∧ W.frozen? ⟨B, 2, none⟩ = false ∧ W.frozen? ⟨B, 4, none⟩ = false ∧ W.frozen? ⟨B, 5, none⟩ = false := ⟨h.cell 0 _ rfl, h.cell 1 _ rfl, h.cell 2 _ rfl, h.cell 3 _ rfl, h.cell 4 _ rfl, h.cell 5 _ rfl, h.frozen 0, h.frozen 1, h.frozen 2, h.frozen 4, h.frozen 5⟩
theorem Blk.all7 {W : World} {B : Nat} {v0 v1 v2 v3 v4 v5 v6 : Value} {T : TypeId} (h : Blk W B #[v0, v1, v2, v3, v4, v5, v6] T) : W.cell? ⟨B, 0, none⟩ = some v0 ∧ W.cell? ⟨B, 1, none⟩ = some v1 ∧ W.cell? ⟨B, 2, none⟩ = some v2 ∧ W.cell? ⟨B, 3, none⟩ = some v3 ∧ W.cell? ⟨B, 4, none⟩ = some v4 ∧ W.cell? ⟨B, 5, none⟩ = some v5 ∧ W.cell? ⟨B, 6, none⟩ = some v6 ∧ W.frozen? ⟨B, 1, none⟩ = false ∧ W.frozen? ⟨B, 2, none⟩ = false ∧ W.frozen? ⟨B, 3, none⟩ = false := ⟨h.cell 0 _ rfl, h.cell 1 _ rfl, h.cell 2 _ rfl, h.cell 3 _ rfl, h.cell 4 _ rfl, h.cell 5 _ rfl, h.cell 6 _ rfl, h.frozen 1, h.frozen 2, h.frozen 3⟩
end Go.Proofs.YtjmpjfggbhongaaDoor
