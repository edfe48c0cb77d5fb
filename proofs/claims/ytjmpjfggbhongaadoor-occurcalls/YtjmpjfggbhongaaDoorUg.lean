/-
  A walk in memory (stage 16): unbind, by a contract.
-/
import Derived.Test.YtjmpjfggbhongaaDoorUf
namespace Go.Proofs.YtjmpjfggbhongaaDoor
open Go.RowKit Go.Shelf Go.Maps
set_option linter.unusedVariables false

theorem owns_cellV {W : World} {b e n : Nat} {o : Option Addr} {cap : Nat} {xs : List Value} (h : W.ownsRow b e 1 (.slice o n cap) n xs) {k : Nat} (hk : k < n) : ∃ g, o = some ⟨g, 0, none⟩ ∧ g < W.heap.size ∧ n ≤ cap ∧ W.cell? ⟨g, k, none⟩ = xs[k]? := by
  rcases h with ⟨hl, ⟨h1, h2⟩ | ⟨g, cp, cur, h1, h2, h3, h4, h5, h6, h7⟩⟩
  · omega
  · cases h1
    refine ⟨g, rfl, (Array.getElem?_eq_some_iff.1 h3).1, h4, ?_⟩
    have h8 : (cur.toList.take (n * 1))[k]? = xs[k]? := by rw [h7]
    rw [List.getElem?_take_of_lt (by omega), Array.getElem?_toList] at h8
    rw [← h8]
    simp [World.cell?, h3]
theorem unb_snoc (l : List Nat) (k : Nat) (h : k < l.length) (s : WS) : (l.take (k + 1)).foldl unb1 s = unb1 ((l.take k).foldl unb1 s) l[k] := by
  rw [List.take_succ_eq_append_getElem h, List.foldl_append]; rfl
theorem unb_parts : ∀ (L : List Nat) (s : WS), (L.foldl unb1 s).parts = s.parts ∧ (L.foldl unb1 s).lam = s.lam ∧ (L.foldl unb1 s).met = s.met ∧ (L.foldl unb1 s).bs = s.bs ∧ (L.foldl unb1 s).scope = s.scope ∧ (L.foldl unb1 s).asked = s.asked ∧ (L.foldl unb1 s).puts = s.puts + L.length
  | [], s => ⟨rfl, rfl, rfl, rfl, rfl, rfl, rfl⟩
  | i :: L, s => by
    obtain ⟨i1, i2, i3, i4, i5, i6, i7⟩ := unb_parts L (unb1 s i)
    exact ⟨i1, i2, i3, i4, i5, i6, by rw [List.foldl_cons, i7]; show s.puts + 1 + _ = _; simp; omega⟩
set_option maxHeartbeats 8000000 in
set_option maxRecDepth 100000 in
theorem wkUnbindNo_c (F P : Nat) (s : WS) (outer : Nat) (w : World) (bl : Nat → Nat) (pv av : Value) (m c n cap : Nat)  (h : WkS w F P s bl pv (.slice none s.scope.length cap) av m c) (ht : tot s ≤ 3000000) (hnn : s.scope.length = n) (hn : n ≤ cap) (ho : outer ≤ n) (h0 : n = 0) :
    Calls Tryd.prog 50 #[.pointer (some ⟨P, 0, none⟩), .int .i64 (outer : Int)] w fun e w' => e = .returned (.tuple #[]) ∧ WkAt w' F P (unbindS outer s) ∧ Below F w w' := by
  obtain ⟨c0, c1, c2, c3, c4, c5, f0, f1, f2, f4, f5⟩ := h.blk.all6
  have lP := h.blk.lt
  have HS : Hid (WkS w F P s bl pv (.slice none s.scope.length cap) av m c) := h
  have HN : Hid (s.scope.length = n ∧ outer ≤ n ∧ n ≤ cap ∧ s.puts + n ≤ 3000000 ∧ F ≤ P) := ⟨hnn, ho, hn, by unfold tot at ht; omega, h.FP⟩
  rw [hnn] at c4
  have hoI : (outer : Int) ≤ (n : Int) := by omega
  have hncI : (n : Int) ≤ (cap : Int) := by omega
  have hnI : (n : Int) ≤ 3000000 := by unfold tot at ht; omega
  clear h hnn ht
  go_enter Tryd.func50, Tryd.ntmps50
  go_wp2
  have hdl : (s.scope.drop outer).length = n - outer := by rw [List.length_drop]; have := HN.out; omega
  have HD : Hid ((s.scope.drop outer).length = n - outer) := hdl
  have HI : Hid (WkS w F P (((s.scope.drop outer).take 0).foldl unb1 s) bl pv (.slice none s.scope.length cap) av m (c + 0) ∧ Below F w w) := ⟨HS.out, Below.refl _ _⟩
  clear c0 c1 c2 c3 c4 c5 f0 f1 f2 f4 f5 lP HS hdl
  go_loopw [13] (fun i wr => ∃ k : Nat, k ≤ n - outer ∧ i = .int .i64 k ∧ Hid (WkS wr F P (((s.scope.drop outer).take k).foldl unb1 s) bl pv (.slice none s.scope.length cap) av m (c + k) ∧ Below F w wr)) (fun i _ => (n - outer) - (intOf i).toNat)
  case atStart => exact ⟨0, Nat.zero_le _, rfl, HI⟩
  case round =>
    obtain ⟨k, hk, rfl, hS⟩ := hrel
    clear HI
    have hub := unb_parts ((s.scope.drop outer).take k) s
    obtain ⟨st, hst⟩ : ∃ st, ((s.scope.drop outer).take k).foldl unb1 s = st := ⟨_, rfl⟩
    rw [hst] at hub
    have H1 : Hid (WkS wr F P st bl pv (.slice none s.scope.length cap) av m (c + k) ∧ Below F w wr) := by rw [← hst]; exact hS
    obtain ⟨u1, u2, u3, u4, u5, u6, u7⟩ := hub
    have hlk : ((s.scope.drop outer).take k).length = k := by rw [List.length_take, HD.out]; omega
    obtain ⟨c0, c1, c2, c3, c4, c5, f0, f1, f2, f4, f5⟩ := H1.out.1.blk.all6
    rw [HN.out.1] at c4
    have lP := H1.out.1.blk.lt
    by_cases hkn : k < n - outer
    · exact absurd hkn (by omega)
    · have hf0 : ((s.scope.drop outer).foldl unb1 s) = st := by
        rw [← hst, List.take_of_length_le (by rw [HD.out]; omega)]
      have HF : Hid (((s.scope.drop outer).foldl unb1 s) = st) := hf0
      have HU : Hid (st.scope = s.scope) := u5
      have hkI : ¬ ((k : Int) < (n : Int) - (outer : Int)) := by omega
      clear hS hst hf0 u1 u2 u3 u4 u5 u6 u7 hlk hkn
      go_wp2
      go_end0
      have hx : WkS (wr.setCell ⟨P, 4, none⟩ (.slice none outer cap)) F P { st with scope := s.scope.take outer } bl pv (.slice none outer cap) av m (c + k) := by
        have hbs := But.set P wr 4 (.slice none outer cap)
        have hsr := H1.out.1.sr
        rw [HU.out] at hsr
        have hr := owns_take hsr (by decide : 0 < 1) (show outer ≤ s.scope.length by have := HN.out; omega) (fun e => by have := HN.out; omega)
        have e1 : (s.scope.take outer).length = outer := by rw [List.length_take]; have := HN.out; omega
        have e2 : (iL bl s.scope).take (outer * 1) = iL bl (s.scope.take outer) := by rw [Nat.mul_one]; unfold iL; rw [List.map_take]
        rw [e2] at hr
        refine H1.out.1.setScope (W' := wr.setCell ⟨P, 4, none⟩ (.slice none outer cap)) hbs.size (fun g h1 h2 h3 => hbs.block g h1 h2) (H1.out.1.blk.set 4 _) ?_ (fun g hg => H1.out.1.sa g hg) (fun i hi => ?_)
        · rw [e1]; exact owns_same16 hr (fun g hg => hbs.block g (owns_lt hr hg).2 (neT (tyOwn hr hg) H1.out.1.tyP (by decide)))
        · have := H1.out.1.rg.rs i (by rw [HU.out]; exact List.mem_of_mem_take hi); exact this
      refine ⟨rfl, ⟨bl, pv, .slice none outer cap, av, m, c + k, ?_⟩, H1.out.2.setCell (p := ⟨P, 4, none⟩) HN.out.2.2.2.2 _⟩
      have e : unbindS outer s = { st with scope := s.scope.take outer } := by unfold unbindS; rw [HF.out]; show { st with scope := st.scope.take outer } = _; rw [HU.out]
      rw [e]
      first | exact hx | (subst h1; exact hx)
set_option maxHeartbeats 8000000 in
set_option maxRecDepth 100000 in
theorem wkUnbindEq_c (F P : Nat) (s : WS) (outer : Nat) (w : World) (bl : Nat → Nat) (pv av : Value) (m c n cap : Nat) (q : Addr) (h : WkS w F P s bl pv (.slice (some q) s.scope.length cap) av m c) (ht : tot s ≤ 3000000) (hnn : s.scope.length = n) (hn : n ≤ cap) (ho : outer ≤ n) (h0 : n = outer) (h1 : cap = outer) :
    Calls Tryd.prog 50 #[.pointer (some ⟨P, 0, none⟩), .int .i64 (outer : Int)] w fun e w' => e = .returned (.tuple #[]) ∧ WkAt w' F P (unbindS outer s) ∧ Below F w w' := by
  obtain ⟨c0, c1, c2, c3, c4, c5, f0, f1, f2, f4, f5⟩ := h.blk.all6
  have lP := h.blk.lt
  have HS : Hid (WkS w F P s bl pv (.slice (some q) s.scope.length cap) av m c) := h
  have HN : Hid (s.scope.length = n ∧ outer ≤ n ∧ n ≤ cap ∧ s.puts + n ≤ 3000000 ∧ F ≤ P) := ⟨hnn, ho, hn, by unfold tot at ht; omega, h.FP⟩
  rw [hnn] at c4
  have hoI : (outer : Int) ≤ (n : Int) := by omega
  have hncI : (n : Int) ≤ (cap : Int) := by omega
  have hnI : (n : Int) ≤ 3000000 := by unfold tot at ht; omega
  clear h hnn ht
  go_enter Tryd.func50, Tryd.ntmps50
  go_wp2
  have hdl : (s.scope.drop outer).length = n - outer := by rw [List.length_drop]; have := HN.out; omega
  have HD : Hid ((s.scope.drop outer).length = n - outer) := hdl
  have HI : Hid (WkS w F P (((s.scope.drop outer).take 0).foldl unb1 s) bl pv (.slice (some q) s.scope.length cap) av m (c + 0) ∧ Below F w w) := ⟨HS.out, Below.refl _ _⟩
  clear c0 c1 c2 c3 c4 c5 f0 f1 f2 f4 f5 lP HS hdl
  go_loopw [13] (fun i wr => ∃ k : Nat, k ≤ n - outer ∧ i = .int .i64 k ∧ Hid (WkS wr F P (((s.scope.drop outer).take k).foldl unb1 s) bl pv (.slice (some q) s.scope.length cap) av m (c + k) ∧ Below F w wr)) (fun i _ => (n - outer) - (intOf i).toNat)
  case atStart => exact ⟨0, Nat.zero_le _, rfl, HI⟩
  case round =>
    obtain ⟨k, hk, rfl, hS⟩ := hrel
    clear HI
    have hub := unb_parts ((s.scope.drop outer).take k) s
    obtain ⟨st, hst⟩ : ∃ st, ((s.scope.drop outer).take k).foldl unb1 s = st := ⟨_, rfl⟩
    rw [hst] at hub
    have H1 : Hid (WkS wr F P st bl pv (.slice (some q) s.scope.length cap) av m (c + k) ∧ Below F w wr) := by rw [← hst]; exact hS
    obtain ⟨u1, u2, u3, u4, u5, u6, u7⟩ := hub
    have hlk : ((s.scope.drop outer).take k).length = k := by rw [List.length_take, HD.out]; omega
    obtain ⟨c0, c1, c2, c3, c4, c5, f0, f1, f2, f4, f5⟩ := H1.out.1.blk.all6
    rw [HN.out.1] at c4
    have lP := H1.out.1.blk.lt
    by_cases hkn : k < n - outer
    · exact absurd hkn (by omega)
    · have hf0 : ((s.scope.drop outer).foldl unb1 s) = st := by
        rw [← hst, List.take_of_length_le (by rw [HD.out]; omega)]
      have HF : Hid (((s.scope.drop outer).foldl unb1 s) = st) := hf0
      have HU : Hid (st.scope = s.scope) := u5
      have hkI : ¬ ((k : Int) < (n : Int) - (outer : Int)) := by omega
      clear hS hst hf0 u1 u2 u3 u4 u5 u6 u7 hlk hkn
      go_wp2
      go_end0
      have hx : WkS (wr.setCell ⟨P, 4, none⟩ (.slice (some q) outer cap)) F P { st with scope := s.scope.take outer } bl pv (.slice (some q) outer cap) av m (c + k) := by
        have hbs := But.set P wr 4 (.slice (some q) outer cap)
        have hsr := H1.out.1.sr
        rw [HU.out] at hsr
        have hr := owns_take hsr (by decide : 0 < 1) (show outer ≤ s.scope.length by have := HN.out; omega) (fun e => by cases e)
        have e1 : (s.scope.take outer).length = outer := by rw [List.length_take]; have := HN.out; omega
        have e2 : (iL bl s.scope).take (outer * 1) = iL bl (s.scope.take outer) := by rw [Nat.mul_one]; unfold iL; rw [List.map_take]
        rw [e2] at hr
        refine H1.out.1.setScope (W' := wr.setCell ⟨P, 4, none⟩ (.slice (some q) outer cap)) hbs.size (fun g h1 h2 h3 => hbs.block g h1 h2) (H1.out.1.blk.set 4 _) ?_ (fun g hg => H1.out.1.sa g hg) (fun i hi => ?_)
        · rw [e1]; exact owns_same16 hr (fun g hg => hbs.block g (owns_lt hr hg).2 (neT (tyOwn hr hg) H1.out.1.tyP (by decide)))
        · have := H1.out.1.rg.rs i (by rw [HU.out]; exact List.mem_of_mem_take hi); exact this
      refine ⟨rfl, ⟨bl, pv, .slice (some q) outer cap, av, m, c + k, ?_⟩, H1.out.2.setCell (p := ⟨P, 4, none⟩) HN.out.2.2.2.2 _⟩
      have e : unbindS outer s = { st with scope := s.scope.take outer } := by unfold unbindS; rw [HF.out]; show { st with scope := st.scope.take outer } = _; rw [HU.out]
      rw [e]
      first | exact hx | (subst h1; exact hx)
set_option maxHeartbeats 8000000 in
set_option maxRecDepth 100000 in
theorem wkUnbindOff_c (F P : Nat) (s : WS) (outer : Nat) (w : World) (bl : Nat → Nat) (pv av : Value) (m c n cap : Nat) (q : Addr) (h : WkS w F P s bl pv (.slice (some q) s.scope.length cap) av m c) (ht : tot s ≤ 3000000) (hnn : s.scope.length = n) (hn : n ≤ cap) (ho : outer ≤ n) (h0 : n = outer) (h1 : ¬ cap = outer) :
    Calls Tryd.prog 50 #[.pointer (some ⟨P, 0, none⟩), .int .i64 (outer : Int)] w fun e w' => e = .returned (.tuple #[]) ∧ WkAt w' F P (unbindS outer s) ∧ Below F w w' := by
  obtain ⟨c0, c1, c2, c3, c4, c5, f0, f1, f2, f4, f5⟩ := h.blk.all6
  have lP := h.blk.lt
  have HS : Hid (WkS w F P s bl pv (.slice (some q) s.scope.length cap) av m c) := h
  have HN : Hid (s.scope.length = n ∧ outer ≤ n ∧ n ≤ cap ∧ s.puts + n ≤ 3000000 ∧ F ≤ P) := ⟨hnn, ho, hn, by unfold tot at ht; omega, h.FP⟩
  rw [hnn] at c4
  have hoI : (outer : Int) ≤ (n : Int) := by omega
  have hncI : (n : Int) ≤ (cap : Int) := by omega
  have hnI : (n : Int) ≤ 3000000 := by unfold tot at ht; omega
  clear h hnn ht
  go_enter Tryd.func50, Tryd.ntmps50
  go_wp2
  have hdl : (s.scope.drop outer).length = n - outer := by rw [List.length_drop]; have := HN.out; omega
  have HD : Hid ((s.scope.drop outer).length = n - outer) := hdl
  have HI : Hid (WkS w F P (((s.scope.drop outer).take 0).foldl unb1 s) bl pv (.slice (some q) s.scope.length cap) av m (c + 0) ∧ Below F w w) := ⟨HS.out, Below.refl _ _⟩
  clear c0 c1 c2 c3 c4 c5 f0 f1 f2 f4 f5 lP HS hdl
  go_loopw [13] (fun i wr => ∃ k : Nat, k ≤ n - outer ∧ i = .int .i64 k ∧ Hid (WkS wr F P (((s.scope.drop outer).take k).foldl unb1 s) bl pv (.slice (some q) s.scope.length cap) av m (c + k) ∧ Below F w wr)) (fun i _ => (n - outer) - (intOf i).toNat)
  case atStart => exact ⟨0, Nat.zero_le _, rfl, HI⟩
  case round =>
    obtain ⟨k, hk, rfl, hS⟩ := hrel
    clear HI
    have hub := unb_parts ((s.scope.drop outer).take k) s
    obtain ⟨st, hst⟩ : ∃ st, ((s.scope.drop outer).take k).foldl unb1 s = st := ⟨_, rfl⟩
    rw [hst] at hub
    have H1 : Hid (WkS wr F P st bl pv (.slice (some q) s.scope.length cap) av m (c + k) ∧ Below F w wr) := by rw [← hst]; exact hS
    obtain ⟨u1, u2, u3, u4, u5, u6, u7⟩ := hub
    have hlk : ((s.scope.drop outer).take k).length = k := by rw [List.length_take, HD.out]; omega
    obtain ⟨c0, c1, c2, c3, c4, c5, f0, f1, f2, f4, f5⟩ := H1.out.1.blk.all6
    rw [HN.out.1] at c4
    have lP := H1.out.1.blk.lt
    by_cases hkn : k < n - outer
    · exact absurd hkn (by omega)
    · have hf0 : ((s.scope.drop outer).foldl unb1 s) = st := by
        rw [← hst, List.take_of_length_le (by rw [HD.out]; omega)]
      have HF : Hid (((s.scope.drop outer).foldl unb1 s) = st) := hf0
      have HU : Hid (st.scope = s.scope) := u5
      have hkI : ¬ ((k : Int) < (n : Int) - (outer : Int)) := by omega
      clear hS hst hf0 u1 u2 u3 u4 u5 u6 u7 hlk hkn
      go_wp2
      go_end0
      have hx : WkS (wr.setCell ⟨P, 4, none⟩ (.slice (some q) outer cap)) F P { st with scope := s.scope.take outer } bl pv (.slice (some q) outer cap) av m (c + k) := by
        have hbs := But.set P wr 4 (.slice (some q) outer cap)
        have hsr := H1.out.1.sr
        rw [HU.out] at hsr
        have hr := owns_take hsr (by decide : 0 < 1) (show outer ≤ s.scope.length by have := HN.out; omega) (fun e => by cases e)
        have e1 : (s.scope.take outer).length = outer := by rw [List.length_take]; have := HN.out; omega
        have e2 : (iL bl s.scope).take (outer * 1) = iL bl (s.scope.take outer) := by rw [Nat.mul_one]; unfold iL; rw [List.map_take]
        rw [e2] at hr
        refine H1.out.1.setScope (W' := wr.setCell ⟨P, 4, none⟩ (.slice (some q) outer cap)) hbs.size (fun g h1 h2 h3 => hbs.block g h1 h2) (H1.out.1.blk.set 4 _) ?_ (fun g hg => H1.out.1.sa g hg) (fun i hi => ?_)
        · rw [e1]; exact owns_same16 hr (fun g hg => hbs.block g (owns_lt hr hg).2 (neT (tyOwn hr hg) H1.out.1.tyP (by decide)))
        · have := H1.out.1.rg.rs i (by rw [HU.out]; exact List.mem_of_mem_take hi); exact this
      refine ⟨rfl, ⟨bl, pv, .slice (some q) outer cap, av, m, c + k, ?_⟩, H1.out.2.setCell (p := ⟨P, 4, none⟩) HN.out.2.2.2.2 _⟩
      have e : unbindS outer s = { st with scope := s.scope.take outer } := by unfold unbindS; rw [HF.out]; show { st with scope := st.scope.take outer } = _; rw [HU.out]
      rw [e]
      first | exact hx | (subst h1; exact hx)
set_option maxHeartbeats 8000000 in
set_option maxRecDepth 100000 in
theorem wkUnbindRun_c (F P : Nat) (s : WS) (outer : Nat) (w : World) (bl : Nat → Nat) (pv av : Value) (m c n cap : Nat) (g : Nat) (h : WkS w F P s bl pv (.slice (some ⟨g, 0, none⟩) s.scope.length cap) av m c) (ht : tot s ≤ 3000000) (hnn : s.scope.length = n) (hn : n ≤ cap) (ho : outer ≤ n) (h0 : outer < n) (h1 : ¬ cap = outer) :
    Calls Tryd.prog 50 #[.pointer (some ⟨P, 0, none⟩), .int .i64 (outer : Int)] w fun e w' => e = .returned (.tuple #[]) ∧ WkAt w' F P (unbindS outer s) ∧ Below F w w' := by
  obtain ⟨c0, c1, c2, c3, c4, c5, f0, f1, f2, f4, f5⟩ := h.blk.all6
  have lP := h.blk.lt
  have HS : Hid (WkS w F P s bl pv (.slice (some ⟨g, 0, none⟩) s.scope.length cap) av m c) := h
  have HN : Hid (s.scope.length = n ∧ outer ≤ n ∧ n ≤ cap ∧ s.puts + n ≤ 3000000 ∧ F ≤ P) := ⟨hnn, ho, hn, by unfold tot at ht; omega, h.FP⟩
  rw [hnn] at c4
  have hoI : (outer : Int) ≤ (n : Int) := by omega
  have hncI : (n : Int) ≤ (cap : Int) := by omega
  have hnI : (n : Int) ≤ 3000000 := by unfold tot at ht; omega
  clear h hnn ht
  go_enter Tryd.func50, Tryd.ntmps50
  go_wp2
  have hdl : (s.scope.drop outer).length = n - outer := by rw [List.length_drop]; have := HN.out; omega
  have HD : Hid ((s.scope.drop outer).length = n - outer) := hdl
  have HI : Hid (WkS w F P (((s.scope.drop outer).take 0).foldl unb1 s) bl pv (.slice (some ⟨g, 0, none⟩) s.scope.length cap) av m (c + 0) ∧ Below F w w) := ⟨HS.out, Below.refl _ _⟩
  clear c0 c1 c2 c3 c4 c5 f0 f1 f2 f4 f5 lP HS hdl
  go_loopw [13] (fun i wr => ∃ k : Nat, k ≤ n - outer ∧ i = .int .i64 k ∧ Hid (WkS wr F P (((s.scope.drop outer).take k).foldl unb1 s) bl pv (.slice (some ⟨g, 0, none⟩) s.scope.length cap) av m (c + k) ∧ Below F w wr)) (fun i _ => (n - outer) - (intOf i).toNat)
  case atStart => exact ⟨0, Nat.zero_le _, rfl, HI⟩
  case round =>
    obtain ⟨k, hk, rfl, hS⟩ := hrel
    clear HI
    have hub := unb_parts ((s.scope.drop outer).take k) s
    obtain ⟨st, hst⟩ : ∃ st, ((s.scope.drop outer).take k).foldl unb1 s = st := ⟨_, rfl⟩
    rw [hst] at hub
    have H1 : Hid (WkS wr F P st bl pv (.slice (some ⟨g, 0, none⟩) s.scope.length cap) av m (c + k) ∧ Below F w wr) := by rw [← hst]; exact hS
    obtain ⟨u1, u2, u3, u4, u5, u6, u7⟩ := hub
    have hlk : ((s.scope.drop outer).take k).length = k := by rw [List.length_take, HD.out]; omega
    obtain ⟨c0, c1, c2, c3, c4, c5, f0, f1, f2, f4, f5⟩ := H1.out.1.blk.all6
    rw [HN.out.1] at c4
    have lP := H1.out.1.blk.lt
    by_cases hkn : k < n - outer
    · have hkd : k < (s.scope.drop outer).length := by rw [HD.out]; exact hkn
      have hks : outer + k < s.scope.length := by have := HN.out; omega
      obtain ⟨i, hi⟩ : ∃ i, s.scope[outer + k] = i := ⟨_, rfl⟩
      have hid : (s.scope.drop outer)[k] = i := by rw [List.getElem_drop]; exact hi
      have him : i ∈ s.scope := by rw [← hi]; exact List.getElem_mem hks
      have hib : i < st.bs.length := H1.out.1.rg.rs i (by rw [u5]; exact him)
      obtain ⟨hbk, -, hnl⟩ := H1.out.1.bd i hib
      obtain ⟨nm, hnm⟩ : ∃ nm, st.bs[i].name = nm := ⟨_, rfl⟩
      obtain ⟨hh, hhh⟩ : ∃ hh, ptV bl st.bs[i].hid = .pointer hh := by cases st.bs[i].hid <;> exact ⟨_, rfl⟩
      obtain ⟨K, hK⟩ : ∃ K, bl i = K := ⟨_, rfl⟩
      obtain ⟨b0, -, -, -, -, -, b6, -, -, -⟩ := hbk.all7
      rw [hnm, hK] at b0
      rw [hhh, hK] at b6
      have lB := hbk.lt
      rw [hK] at lB
      have hsr := H1.out.1.sr
      rw [u5] at hsr
      obtain ⟨g', eg, lg, -, cg⟩ := owns_cellV hsr hks
      cases eg
      have cg' : wr.cell? ⟨g, outer + k, none⟩ = some (.pointer (some ⟨K, 0, none⟩)) := by
        rw [cg]; unfold iL; rw [List.getElem?_map, List.getElem?_eq_getElem hks, hi]; show some (Value.pointer (some ⟨bl i, 0, none⟩)) = _; rw [hK]
      rw [hnm] at hnl
      obtain ⟨W3, r3, hm3, hb3⟩ := (H1.out.1.mp.same (W' := wr.drew) rfl).put (by have := H1.out.1.cp; have := HN.out; omega) nm hnl (.pointer hh)
      have hkI : (k : Int) < (n : Int) - (outer : Int) := by omega
      have hkI : (k : Int) < (n : Int) - (outer : Int) := by omega
      have H3 : Hid (WkS W3 F P (((s.scope.drop outer).take (k + 1)).foldl unb1 s) bl pv (.slice (some ⟨g, 0, none⟩) s.scope.length cap) av m (c + (k + 1)) ∧ Below F w W3) := by
        have e : ((s.scope.drop outer).take (k + 1)).foldl unb1 s = unb1 st i := by rw [unb_snoc _ k hkd s, hst, hid]
        rw [e]
        refine ⟨?_, ?_⟩
        · have hxx := H1.out.1.drew.setMap hb3 (c' := c + k + 1) (p' := st.puts + 1) (f := fun x => if x = nm.data.toList then st.bs[i].hid else st.named x) ?_ (by have := H1.out.1.cp; omega) (fun x j hx => ?_)
          · have e2 : unb1 st i = { st with named := fun x => if x = nm.data.toList then st.bs[i].hid else st.named x, puts := st.puts + 1 } := by
              unfold unb1; rw [WS.bd_lt hib, hnm]
            rw [e2]; exact hxx
          · have e3 : (fun x => ptV bl (if x = nm.data.toList then st.bs[i].hid else st.named x)) = fun x => if x = nm.data.toList then Value.pointer hh else ptV bl (st.named x) := by
              funext x; by_cases hx : x = nm.data.toList
              · rw [if_pos hx, if_pos hx, hhh]
              · rw [if_neg hx, if_neg hx]
            rw [e3]; exact hm3
          · by_cases h9 : x = nm.data.toList
            · rw [if_pos h9] at hx; exact H1.out.1.rg.rh i hib j hx
            · rw [if_neg h9] at hx; exact H1.out.1.rg.rn x j hx
        · have hq := H1.out
          exact ⟨hb3.os.trans hq.2.os, hb3.tape.trans hq.2.tape, hb3.output.trans hq.2.output, Nat.le_trans hq.2.size hb3.size, fun j hj => (hb3.block j (by have := hq.1.FW; show _ < wr.heap.size; omega) (by have := hq.1.Fm; omega)).trans (hq.2.block j hj)⟩
      have HKk : Hid (k < n - outer) := hkn
      clear hS hst u1 u2 u3 u4 u5 u6 u7 hlk hkd hks hi hid him hib hbk hnl hnm hhh hK hsr cg hm3 hb3 H1 hk hkn
      go_wp2
      go_region
      all_goals (
        go_wp2
        refine ⟨⟨k + 1, HKk.out, by congr 1, H3⟩, ?_⟩
        show n - outer - ((k : Int) + 1).toNat < n - outer - ((k : Int)).toNat
        have := HKk.out
        omega)
    · have hf0 : ((s.scope.drop outer).foldl unb1 s) = st := by
        rw [← hst, List.take_of_length_le (by rw [HD.out]; omega)]
      have HF : Hid (((s.scope.drop outer).foldl unb1 s) = st) := hf0
      have HU : Hid (st.scope = s.scope) := u5
      have hkI : ¬ ((k : Int) < (n : Int) - (outer : Int)) := by omega
      clear hS hst hf0 u1 u2 u3 u4 u5 u6 u7 hlk hkn
      go_wp2
      go_end0
      have hx : WkS (wr.setCell ⟨P, 4, none⟩ (.slice (some ⟨g, 0, none⟩) outer cap)) F P { st with scope := s.scope.take outer } bl pv (.slice (some ⟨g, 0, none⟩) outer cap) av m (c + k) := by
        have hbs := But.set P wr 4 (.slice (some ⟨g, 0, none⟩) outer cap)
        have hsr := H1.out.1.sr
        rw [HU.out] at hsr
        have hr := owns_take hsr (by decide : 0 < 1) (show outer ≤ s.scope.length by have := HN.out; omega) (fun e => by cases e)
        have e1 : (s.scope.take outer).length = outer := by rw [List.length_take]; have := HN.out; omega
        have e2 : (iL bl s.scope).take (outer * 1) = iL bl (s.scope.take outer) := by rw [Nat.mul_one]; unfold iL; rw [List.map_take]
        rw [e2] at hr
        refine H1.out.1.setScope (W' := wr.setCell ⟨P, 4, none⟩ (.slice (some ⟨g, 0, none⟩) outer cap)) hbs.size (fun g h1 h2 h3 => hbs.block g h1 h2) (H1.out.1.blk.set 4 _) ?_ (fun g hg => H1.out.1.sa g hg) (fun i hi => ?_)
        · rw [e1]; exact owns_same16 hr (fun g hg => hbs.block g (owns_lt hr hg).2 (neT (tyOwn hr hg) H1.out.1.tyP (by decide)))
        · have := H1.out.1.rg.rs i (by rw [HU.out]; exact List.mem_of_mem_take hi); exact this
      refine ⟨rfl, ⟨bl, pv, .slice (some ⟨g, 0, none⟩) outer cap, av, m, c + k, ?_⟩, H1.out.2.setCell (p := ⟨P, 4, none⟩) HN.out.2.2.2.2 _⟩
      have e : unbindS outer s = { st with scope := s.scope.take outer } := by unfold unbindS; rw [HF.out]; show { st with scope := st.scope.take outer } = _; rw [HU.out]
      rw [e]
      first | exact hx | (subst h1; exact hx)
theorem wkUnbind_c (F P : Nat) (s : WS) (outer : Nat) (w : World) (h : WkAt w F P s) (ht : tot s ≤ 3000000) (ho : outer ≤ s.scope.length) :
    Calls Tryd.prog 50 #[.pointer (some ⟨P, 0, none⟩), .int .i64 (outer : Int)] w fun e w' => e = .returned (.tuple #[]) ∧ WkAt w' F P (unbindS outer s) ∧ Below F w w' := by
  obtain ⟨bl, pv, sv, av, m, c, h⟩ := h
  obtain ⟨o, cap, rfl, hn, hcap⟩ := owns_form h.sr
  rcases Nat.lt_or_ge outer s.scope.length with h1 | h1
  · obtain ⟨g, rfl, -⟩ := owns_cellV h.sr h1
    exact wkUnbindRun_c F P s outer w bl pv av m c _ cap g h ht rfl hn ho h1 (by omega)
  · cases o with
    | none =>
      have h0 : s.scope.length = 0 := by
        rcases h.sr with ⟨_, ⟨e1, e2⟩ | ⟨g', cp, cur, e1, _⟩⟩
        · exact e2
        · cases e1
      exact wkUnbindNo_c F P s outer w bl pv av m c _ cap h ht rfl hn ho h0
    | some q =>
      by_cases h2 : cap = outer
      · exact wkUnbindEq_c F P s outer w bl pv av m c _ cap q h ht rfl hn ho (by omega) h2
      · exact wkUnbindOff_c F P s outer w bl pv av m c _ cap q h ht rfl hn ho (by omega) h2
end Go.Proofs.YtjmpjfggbhongaaDoor
