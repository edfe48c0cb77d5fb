/-
  Trees, and how they lie in memory.
-/
import Derived.Test.YtndpebkiiemfpaaGreatDoorBlk
namespace Go.Proofs.YtndpebkiiemfpaaGreatDoor
open Go.RowKit Go.Shelf Go.Maps
set_option linter.unusedVariables false

/-- A tree: its kind, name, number, parts and place. -/
inductive Nd where
  | mk (kind : Int) (name : List UInt8) (num : Int) (kids : List Nd) (pos : Int)
def Nd.kind : Nd → Int | .mk k _ _ _ _ => k
def Nd.name : Nd → List UInt8 | .mk _ n _ _ _ => n
def Nd.num : Nd → Int | .mk _ _ n _ _ => n
def Nd.kids : Nd → List Nd | .mk _ _ _ l _ => l
def Nd.pos : Nd → Int | .mk _ _ _ _ p => p

mutual
/-- A tree's five cells lie in block g from off on; all that it leads to lies below B. -/
def NdAt (W : World) (B : Nat) : Nd → Nat → Nat → Prop
  | .mk k nm nu kids ps, g, off => ∃ (o : Option Addr) (cap : Nat), W.cell? ⟨g, off, none⟩ = some (.int .i64 k) ∧ W.cell? ⟨g, off + 1, none⟩ = some (.string (bs nm)) ∧ W.cell? ⟨g, off + 2, none⟩ = some (.int .i64 nu) ∧ W.cell? ⟨g, off + 3, none⟩ = some (.slice o kids.length cap) ∧ W.cell? ⟨g, off + 4, none⟩ = some (.int .i64 ps) ∧ kids.length ≤ cap ∧ cap ≤ 9223372036854775807 ∧ ((-9223372036854775808 ≤ k ∧ k ≤ 9223372036854775807) ∧ nm.length ≤ 9223372036854775807 ∧ (-9223372036854775808 ≤ nu ∧ nu ≤ 9223372036854775807)) ∧ (kids = [] ∨ ∃ g' off', o = some ⟨g', off', none⟩ ∧ g' < B ∧ KidsAt W B kids g' off')
/-- Trees one behind the other. -/
def KidsAt (W : World) (B : Nat) : List Nd → Nat → Nat → Prop
  | [], _, _ => True
  | n :: ns, g, off => NdAt W B n g off ∧ KidsAt W B ns g (off + 5)
end
/-- A slice of trees; it may be nil where there are none. -/
def KIn (W : World) (B : Nat) (o : Option Addr) (kids : List Nd) : Prop := kids = [] ∨ ∃ g off, o = some ⟨g, off, none⟩ ∧ g < B ∧ KidsAt W B kids g off

mutual
theorem NdAt.below {W W' : World} {B : Nat} (hb : Below B W W') : ∀ (n : Nd) (g off : Nat), g < B → NdAt W B n g off → NdAt W' B n g off
  | .mk k nm nu kids ps, g, off, hg, h => by
    simp only [NdAt] at h ⊢
    obtain ⟨o, cap, h0, h1, h2, h3, h4, hc, hc2, hwf, hk⟩ := h
    refine ⟨o, cap, (hb.cell (p := ⟨g, off, none⟩) hg).trans h0, (hb.cell (p := ⟨g, off + 1, none⟩) hg).trans h1, (hb.cell (p := ⟨g, off + 2, none⟩) hg).trans h2, (hb.cell (p := ⟨g, off + 3, none⟩) hg).trans h3, (hb.cell (p := ⟨g, off + 4, none⟩) hg).trans h4, hc, hc2, hwf, ?_⟩
    rcases hk with hk | ⟨g', off', e, hg', hk⟩
    · exact .inl hk
    · exact .inr ⟨g', off', e, hg', KidsAt.below hb kids g' off' hg' hk⟩
theorem KidsAt.below {W W' : World} {B : Nat} (hb : Below B W W') : ∀ (ns : List Nd) (g off : Nat), g < B → KidsAt W B ns g off → KidsAt W' B ns g off
  | [], _, _, _, _ => by simp only [KidsAt]
  | n :: ns, g, off, hg, h => by
    simp only [KidsAt] at h ⊢
    exact ⟨NdAt.below hb n g off hg h.1, KidsAt.below hb ns g (off + 5) hg h.2⟩
end
theorem KIn.below {W W' : World} {B : Nat} {o : Option Addr} {kids : List Nd} (h : KIn W B o kids) (hb : Below B W W') : KIn W' B o kids := by
  rcases h with h | ⟨g, off, e, hg, hk⟩
  · exact .inl h
  · exact .inr ⟨g, off, e, hg, hk.below hb kids g off hg⟩
theorem KidsAt.get {W : World} {B : Nat} : ∀ (ns : List Nd) (g off i : Nat) (hi : i < ns.length), KidsAt W B ns g off → NdAt W B ns[i] g (off + i * 5)
  | n :: ns, g, off, 0, _, h => by simp only [KidsAt] at h; simpa using h.1
  | n :: ns, g, off, i + 1, hi, h => by
    simp only [KidsAt] at h
    have := KidsAt.get ns g (off + 5) i (by simpa using hi) h.2
    rw [show off + 5 + i * 5 = off + (i + 1) * 5 by omega] at this
    simpa using this
theorem KidsAt.drop {W : World} {B : Nat} : ∀ (n : Nat) (ns : List Nd) (g off : Nat), KidsAt W B ns g off → KidsAt W B (ns.drop n) g (off + n * 5)
  | 0, ns, g, off, h => by simpa using h
  | n + 1, [], g, off, h => by simp [KidsAt]
  | n + 1, m :: ns, g, off, h => by
    simp only [KidsAt] at h
    have := KidsAt.drop n ns g (off + 5) h.2
    rw [show off + 5 + n * 5 = off + (n + 1) * 5 by omega] at this
    simpa using this
theorem KidsAt.take {W : World} {B : Nat} : ∀ (n : Nat) (ns : List Nd) (g off : Nat), KidsAt W B ns g off → KidsAt W B (ns.take n) g off
  | 0, ns, g, off, h => by simp [KidsAt]
  | n + 1, [], g, off, h => by simp [KidsAt]
  | n + 1, m :: ns, g, off, h => by
    simp only [KidsAt, List.take_succ_cons] at h ⊢
    exact ⟨h.1, KidsAt.take n ns g (off + 5) h.2⟩
theorem KIn.at {W : World} {B : Nat} {o : Option Addr} {kids : List Nd} (h : KIn W B o kids) (i : Nat) (hi : i < kids.length) : ∃ g off, o = some ⟨g, off, none⟩ ∧ g < B ∧ KidsAt W B kids g off := by
  rcases h with rfl | h
  · cases hi
  · exact h
/-- What a walk asks of a tree in memory. -/
theorem NdAt.cells {W : World} {B : Nat} {n : Nd} {g off : Nat} (h : NdAt W B n g off) : ∃ (o : Option Addr) (cap : Nat), W.cell? ⟨g, off, none⟩ = some (.int .i64 n.kind) ∧ W.cell? ⟨g, off + 1, none⟩ = some (.string (bs n.name)) ∧ W.cell? ⟨g, off + 2, none⟩ = some (.int .i64 n.num) ∧ W.cell? ⟨g, off + 3, none⟩ = some (.slice o n.kids.length cap) ∧ W.cell? ⟨g, off + 4, none⟩ = some (.int .i64 n.pos) ∧ n.kids.length ≤ cap ∧ cap ≤ 9223372036854775807 ∧ KIn W B o n.kids := by
  cases n
  simp only [NdAt] at h
  obtain ⟨o, cap, h0, h1, h2, h3, h4, hc, hc2, hwf, hk⟩ := h
  exact ⟨o, cap, h0, h1, h2, h3, h4, hc, hc2, hk⟩

theorem NdAt.wf {W : World} {B : Nat} {n : Nd} {g off : Nat} (h : NdAt W B n g off) : (-9223372036854775808 ≤ n.kind ∧ n.kind ≤ 9223372036854775807) ∧ n.name.length ≤ 9223372036854775807 ∧ (-9223372036854775808 ≤ n.num ∧ n.num ≤ 9223372036854775807) := by
  cases n
  simp only [NdAt] at h
  obtain ⟨o, cap, h0, h1, h2, h3, h4, hc, hc2, hwf, hk⟩ := h
  exact hwf
/-- All that lay there lies there still, but block b. -/
structure But (b : Nat) (W W' : World) : Prop where
  os : W'.os = W.os
  tape : W'.tape = W.tape
  output : W'.output = W.output
  size : W.heap.size ≤ W'.heap.size
  block : ∀ k, k < W.heap.size → k ≠ b → W'.heap[k]? = W.heap[k]?
theorem But.refl (b : Nat) (W : World) : But b W W := ⟨rfl, rfl, rfl, Nat.le_refl _, fun _ _ _ => rfl⟩
theorem But.trans {b : Nat} {W W1 W2 : World} (h : But b W W1) (k : But b W1 W2) : But b W W2 := ⟨k.os.trans h.os, k.tape.trans h.tape, k.output.trans h.output, Nat.le_trans h.size k.size, fun j hj hne => (k.block j (Nat.lt_of_lt_of_le hj h.size) hne).trans (h.block j hj hne)⟩
theorem but_below {W W' : World} (h : Below W.heap.size W W') (b : Nat) : But b W W' := ⟨h.os, h.tape, h.output, h.size, fun k hk _ => h.block k hk⟩
theorem But.below {b n : Nat} {W W' : World} (h : But b W W') (hn : n ≤ b) (hs : n ≤ W.heap.size) : Below n W W' := ⟨h.os, h.tape, h.output, h.size, fun k hk => h.block k (by omega) (by omega)⟩
theorem But.cell {b : Nat} {W W' : World} (h : But b W W') (k off : Nat) (hk : k < W.heap.size) (hne : k ≠ b) : W'.cell? ⟨k, off, none⟩ = W.cell? ⟨k, off, none⟩ := by
  simp only [World.cell?]; rw [h.block k hk hne]
theorem Blk.but {W W' : World} {B b : Nat} {vs : Array Value} {T : TypeId} (h : Blk W B vs T) (hne : B ≠ b) (ha : But b W W') : Blk W' B vs T := by
  unfold Blk; rw [ha.block B h.lt hne]; exact h
theorem NdAt.but {b : Nat} {W W' : World} {B : Nat} (hb : But b W W') (hB : B ≤ b) (hBs : B ≤ W.heap.size) : ∀ (n : Nd) (g off : Nat), g < W.heap.size → g ≠ b → NdAt W B n g off → NdAt W' B n g off
  | .mk k nm nu kids ps, g, off, hg, hne, h => by
    simp only [NdAt] at h ⊢
    obtain ⟨o, cap, h0, h1, h2, h3, h4, hc, hc2, hwf, hk⟩ := h
    refine ⟨o, cap, (hb.cell g off hg hne).trans h0, (hb.cell g (off + 1) hg hne).trans h1, (hb.cell g (off + 2) hg hne).trans h2, (hb.cell g (off + 3) hg hne).trans h3, (hb.cell g (off + 4) hg hne).trans h4, hc, hc2, hwf, ?_⟩
    rcases hk with hk | ⟨g', off', e, hg', hk⟩
    · exact .inl hk
    · exact .inr ⟨g', off', e, hg', hk.below (hb.below hB hBs) kids g' off' hg'⟩

/-- The kinds of trees. -/
def kinds (l : List Nd) : List Int := l.map Nd.kind
theorem kinds_len (l : List Nd) : (kinds l).length = l.length := List.length_map _
end Go.Proofs.YtndpebkiiemfpaaGreatDoor
