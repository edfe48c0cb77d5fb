/-
  A walk in memory (stage 16): bind, by a contract.
-/
import Derived.Test.YtjmpjfggbhongaaDoorUd
namespace Go.Proofs.YtjmpjfggbhongaaDoor
open Go.RowKit Go.Shelf Go.Maps
set_option linter.unusedVariables false

/-- A row that is behind a name of its length. -/
theorem bnd_scope {V w8 : World} {F P : Nat} {s1 s : WS} {bl : Nat → Nat} {pv av : Value} {o : Option Addr} {cap m c i : Nat} (h : WkS V F P s1 bl pv (.slice o s.scope.length cap) av m c) (hsc : s1.scope = s.scope) (hi : i < s1.bs.length) {v0 : Value} (hv0 : v0 = ptV bl (some i)) {g8 c8 : Nat}
    (hown : w8.ownsRow F 57 1 (.slice (some ⟨g8, 0, none⟩) (s.scope.length + 1) c8) (s.scope.length + 1) (iL bl s.scope ++ [v0])) (hgr : (V.alloc (.cells #[v0] 57)).grownBy w8 (Value.ownBlock (.slice o s.scope.length cap))) (hat : Value.ownBlock (.slice o s.scope.length cap) = some g8 ∨ g8 = V.heap.size + 1) :
    WkS (w8.setCell ⟨P, 4, none⟩ (.slice (some ⟨g8, 0, none⟩) (s.scope.length + 1) c8)) F P { s1 with scope := s.scope ++ [i] } bl pv (.slice (some ⟨g8, 0, none⟩) (s.scope.length + 1) c8) av m c ∧ Below F V w8 ∧ w8.cell? ⟨P, 4, none⟩ = some (.slice o s.scope.length cap) ∧ w8.frozen? ⟨P, 4, none⟩ = false ∧ P < w8.heap.size := by
  rw [← hsc] at h hown hgr hat ⊢
  exact h.pushScope hi hv0 hown hgr hat
set_option maxHeartbeats 8000000 in
set_option maxRecDepth 100000 in
theorem wkBindNone_c (F P : Nat) (s : WS) (outer : Nat) (nm : ByteArray) (hs : nm.size ≤ maxLen) (w : World) (h : WkAt w F P s) (ht : tot s ≤ 3000000) (ho : outer ≤ 3000000) (hnm : s.named nm.data.toList = none) :
    Calls Tryd.prog 40 #[.pointer (some ⟨P, 0, none⟩), .string nm, .int .i64 (outer : Int)] w fun e w' => e = .returned (.tuple #[]) ∧ WkAt w' F P (bindS outer nm s) ∧ Below F w w' := by
  obtain ⟨bl, pv, sv, av, m, c, h⟩ := h
  have HS : Hid (WkS w F P s bl pv sv av m c) := h
  obtain ⟨c0, c1, c2, c3, c4, c5, f0, f1, f2, f4, f5⟩ := h.blk.all6
  have lP := h.blk.lt
  obtain ⟨o, cap, rfl, hn, hcap⟩ := owns_form h.sr
  obtain ⟨oa, capa, rfl, hna, hcapa⟩ := owns_form h.ar
  have hb1 : tot s = s.met + s.puts + s.bs.length + s.asked.length + s.scope.length + s.parts.length + s.lam := rfl
  have hl1 := h.mp.look nm hs
  rw [hnm] at hl1
  simp only [ptV] at hl1
  have hcp := h.cp
  have HX : Hid (s.scope.length ≤ 3000000 ∧ s.asked.length ≤ 3000000 ∧ c < 4000000 ∧ nm.size ≤ maxLen ∧ s.named nm.data.toList = none ∧ F ≤ P ∧ c ≤ s.puts) := ⟨by omega, by omega, by omega, hs, hnm, h.FP, hcp⟩
  obtain ⟨lam, hlam⟩ : ∃ lam, s.lam = lam := ⟨_, rfl⟩
  obtain ⟨n, hnn⟩ : ∃ n, s.scope.length = n := ⟨_, rfl⟩
  have HE : Hid (s.lam = lam ∧ s.scope.length = n) := ⟨hlam, hnn⟩
  rw [hlam] at c1
  rw [hnn] at c4
  clear h hn hcap hna hcapa hnn hb1 hcp hnm hlam ho ht
  go_enter Tryd.func40, Tryd.ntmps40
  go_wp2
  go_region
  obtain ⟨V, hV⟩ : ∃ V, (w.alloc (.cells #[.string nm, .int .i64 1, .int .i64 0, .int .i64 0, .int .i64 (lam : Int), .int .i64 (n : Int), .pointer none] 59)).drew = V := ⟨_, rfl⟩
  rw [hV]
  have hB1 : Below w.heap.size w V := by rw [← hV]; exact (below1 w _).drew
  have kN : Blk V w.heap.size (bC bl ⟨nm, 1, 0, 0, lam, n, none⟩) 59 := by rw [← hV]; exact Blk.new w _ _
  have hV1 : V.heap.size = w.heap.size + 1 := by rw [← hV]; exact Array.size_push _
  have h1 := HS.out.newBd ⟨nm, 1, 0, 0, lam, n, none⟩ hB1 (Nat.le_refl _) kN HX.out.2.2.2.1 (fun i hi => HS.out.rg.rn _ i (HX.out.2.2.2.2.1.trans hi))
  have HB1 : Hid (Below F w V) := hB1.mono HS.out.FW
  obtain ⟨N, hN⟩ : ∃ N, w.heap.size = N := ⟨_, rfl⟩
  obtain ⟨bl1, hbl1⟩ : ∃ bl1, blN bl s.bs.length w.heap.size = bl1 := ⟨_, rfl⟩
  rw [hbl1] at h1
  have hbn : bl1 s.bs.length = N := by rw [← hbl1, ← hN]; exact if_pos rfl
  rw [hN] at hV1 ⊢
  clear hV hB1 kN hbl1 c0 c1 c2 c3 c4 c5 f0 f1 f2 f4 f5 lP hl1 hN 
  obtain ⟨s1, hs1⟩ : ∃ s1 : WS, { s with bs := s.bs ++ [⟨nm, 1, 0, 0, lam, n, none⟩] } = s1 := ⟨_, rfl⟩
  have H1 : Hid (WkS V F P s1 bl1 pv (.slice o s.scope.length cap) (.slice oa s.asked.length capa) m c) := by rw [← hs1]; exact h1
  have HQ : Hid ({ s with bs := s.bs ++ [⟨nm, 1, 0, 0, lam, n, none⟩] } = s1 ∧ bl1 s.bs.length = N) := ⟨hs1, hbn⟩
  clear h1 hs1 hbn HS
  obtain ⟨W2, r1, hm2, hb2⟩ := H1.out.mp.put HX.out.2.2.1 nm hs (.pointer (some ⟨N, 0, none⟩))
  have h2 : WkS W2 F P { s1 with named := fun x => if x = nm.data.toList then some s.bs.length else s1.named x, puts := s.puts + 1 } bl1 pv (.slice o s.scope.length cap) (.slice oa s.asked.length capa) m (c + 1) := by
    refine H1.out.setMap hb2 ?_ (by have := HX.out; omega) (fun x i hx => ?_)
    · have e : (fun x => ptV bl1 (if x = nm.data.toList then some s.bs.length else s1.named x)) = (fun x => if x = nm.data.toList then Value.pointer (some ⟨N, 0, none⟩) else ptV bl1 (s1.named x)) := by
        funext x
        by_cases hx : x = nm.data.toList
        · rw [if_pos hx, if_pos hx]; show Value.pointer (some ⟨bl1 s.bs.length, 0, none⟩) = _; rw [HQ.out.2]
        · rw [if_neg hx, if_neg hx]
      rw [e]; exact hm2
    · by_cases h9 : x = nm.data.toList
      · rw [if_pos h9] at hx
        cases hx
        rw [← HQ.out.1]; simp
      · rw [if_neg h9] at hx
        exact H1.out.rg.rn x i hx
  have HB2 : Hid (Below F w W2) := by
    refine ⟨hb2.os.trans HB1.out.os, hb2.tape.trans HB1.out.tape, hb2.output.trans HB1.out.output, Nat.le_trans HB1.out.size hb2.size, fun k hk => (hb2.block k (by have := H1.out.FW; omega) (by have := H1.out.Fm; omega)).trans (HB1.out.block k hk)⟩
  obtain ⟨c0, c1, c2, c3, c4, c5, f0, f1, f2, f4, f5⟩ := H1.out.blk.all6
  have lP := H1.out.blk.lt
  clear hm2 hb2
  go_upto_region 4 with fail
  clear c0 c1 c2 c3 c4 c5 f0 f1 f2 f4 f5 lP r1 H1 HB1
  have H2 : Hid (WkS W2 F P { s1 with named := fun x => if x = nm.data.toList then some s.bs.length else s1.named x, puts := s.puts + 1 } bl1 pv (.slice o s.scope.length cap) (.slice oa s.asked.length capa) m (c + 1)) := h2
  clear h2
  obtain ⟨c0, c1, c2, c3, c4, c5, f0, f1, f2, f4, f5⟩ := H2.out.blk.all6
  have lP := H2.out.blk.lt
  obtain ⟨i0, hi0, hz0, hz1, hz2⟩ := info_parts16 infoPb
  have hsr := H2.out.sr
  have hes : s1.scope = s.scope ∧ s1.asked = s.asked := by rw [← HQ.out.1]; exact ⟨rfl, rfl⟩
  rw [show ({ s1 with named := fun x => if x = nm.data.toList then some s.bs.length else s1.named x, puts := s.puts + 1 } : WS).scope = s.scope from hes.1] at hsr
  go_upto_region 5 with (at_builtin; refine wpList_append_lies _ rfl _ _ 71 rfl F 57 i0 (.pointer none) 1 8 Tryd.underlying71 hi0 hz0 hz1 hz2 rfl (by decide) _ _ _ rfl (owns_same16 hsr (fun g hg => (below1 W2 _).block g (owns_lt hsr hg).2)) ⟨W2.heap.size, 0, none⟩ 1 1 [.pointer (some ⟨N, 0, none⟩)] rfl rfl (cell_one16 _ _ _) (by simp [Value.oneCell']) (by decide) (by unfold maxLen; have := HX.out; omega) (by have := HX.out; omega) (by have := H2.out.FW; have := (below1 W2 (.cells #[.pointer (some ⟨N, 0, none⟩)] 57)).size; omega) (W2.heap.size + 1) (Array.size_push _) ?_; intro g8 c8 w8 hown8 hgrow8 hat8 hlt8; have HO8 : Hid (w8.ownsRow F 57 1 (.slice (some ⟨g8, 0, none⟩) (s.scope.length + 1) c8) (s.scope.length + 1) (iL bl1 s.scope ++ [.pointer (some ⟨N, 0, none⟩)]) ∧ (W2.alloc (.cells #[.pointer (some ⟨N, 0, none⟩)] 57)).grownBy w8 (Value.ownBlock (.slice o s.scope.length cap)) ∧ (Value.ownBlock (.slice o s.scope.length cap) = some g8 ∨ g8 = W2.heap.size + 1)) := ⟨hown8, hgrow8, hat8⟩; clear hown8 hgrow8 hat8 hlt8; obtain ⟨q1, q2, q3, q4, q5⟩ := bnd_scope H2.out hes.1 (by rw [← HQ.out.1]; simp) (show Value.pointer (some ⟨N, 0, none⟩) = ptV bl1 (some s.bs.length) by show _ = Value.pointer (some ⟨bl1 s.bs.length, 0, none⟩); rw [HQ.out.2]) HO8.out.1 HO8.out.2.1 HO8.out.2.2; have HQ1 : Hid (WkS (w8.setCell ⟨P, 4, none⟩ (.slice (some ⟨g8, 0, none⟩) (s.scope.length + 1) c8)) F P { freshS nm none s with asked := s.asked } bl1 pv (.slice (some ⟨g8, 0, none⟩) (s.scope.length + 1) c8) (.slice oa s.asked.length capa) m (c + 1)) := (by (have e1 := HQ.out.1; have e2 := HE.out; subst e1; obtain ⟨rfl, rfl⟩ := e2; exact q1)); have HB8 : Hid (Below F w w8) := HB2.out.trans q2; clear q1 q2 HO8 hsr c0 c1 c2 c3 c4 c5 f0 f1 f2 f4 f5 lP)
  obtain ⟨W3, hW3⟩ : ∃ W3, w8.setCell ⟨P, 4, none⟩ (.slice (some ⟨g8, 0, none⟩) (s.scope.length + 1) c8) = W3 := ⟨_, rfl⟩
  have HB3 : Hid (Below F w W3) := by rw [← hW3]; exact HB8.out.setCell (p := ⟨P, 4, none⟩) HX.out.2.2.2.2.2.1 _
  rw [hW3] at HQ1 ⊢
  clear hW3 q3 q4 q5 HB8 HB2 H2
  have HN : Hid (bl1 s.bs.length = N) := HQ.out.2
  have H3 : Hid (WkS W3 F P { freshS nm none s with asked := s.asked } bl1 pv (.slice (some ⟨g8, 0, none⟩) (s.scope.length + 1) c8) (.slice oa s.asked.length capa) m (c + 1)) := HQ1
  obtain ⟨c0, c1, c2, c3, c4, c5, f0, f1, f2, f4, f5⟩ := H3.out.blk.all6
  have lP := H3.out.blk.lt
  have har : W3.ownsRow F 57 1 (.slice oa s.asked.length capa) s.asked.length (iL bl1 s.asked) := H3.out.ar
  clear HQ1
  go_wp2_with (at_builtin; refine wpList_append_lies _ rfl _ _ 71 rfl F 57 i0 (.pointer none) 1 8 Tryd.underlying71 hi0 hz0 hz1 hz2 rfl (by decide) _ _ _ rfl (owns_same16 har (fun g hg => (below1 W3 _).block g (owns_lt har hg).2)) ⟨W3.heap.size, 0, none⟩ 1 1 [.pointer (some ⟨N, 0, none⟩)] rfl rfl (cell_one16 _ _ _) (by simp [Value.oneCell']) (by decide) (by unfold maxLen; have := HX.out; omega) (by have := HX.out; omega) (by have := H3.out.FW; have := (below1 W3 (.cells #[.pointer (some ⟨N, 0, none⟩)] 57)).size; omega) (W3.heap.size + 1) (Array.size_push _) ?_; intro g9 c9 w9 hown9 hgrow9 hat9 hlt9; obtain ⟨q1, q2, q3, q4, q5⟩ := H3.out.pushAsked (i := s.bs.length) (by show _ < (s.bs ++ [_]).length; simp) (show Value.pointer (some ⟨N, 0, none⟩) = ptV bl1 (some s.bs.length) by show _ = Value.pointer (some ⟨bl1 s.bs.length, 0, none⟩); rw [HN.out]) hown9 hgrow9 hat9; have HQ9 : Hid (WkS (w9.setCell ⟨P, 5, none⟩ (.slice (some ⟨g9, 0, none⟩) (s.asked.length + 1) c9)) F P (freshS nm none s) bl1 pv (.slice (some ⟨g8, 0, none⟩) (s.scope.length + 1) c8) (.slice (some ⟨g9, 0, none⟩) (s.asked.length + 1) c9) m (c + 1)) := q1; have HB9 : Hid (Below F w w9) := HB3.out.trans q2; clear q1 q2 hown9 hgrow9 hat9 hlt9 har c0 c1 c2 c3 c4 c5 f0 f1 f2 f4 f5 lP)
  go_end0
  refine ⟨rfl, ⟨bl1, pv, (.slice (some ⟨g8, 0, none⟩) (s.scope.length + 1) c8), (.slice (some ⟨g9, 0, none⟩) (s.asked.length + 1) c9), m, (c + 1), ?_⟩, HB9.out.setCell (p := ⟨P, 5, none⟩) HX.out.2.2.2.2.2.1 _⟩
  have e : bindS outer nm s = freshS nm none s := by unfold bindS; rw [HX.out.2.2.2.2.1]
  rw [e]; exact HQ9.out
set_option maxHeartbeats 8000000 in
set_option maxRecDepth 100000 in
theorem wkBindHid_c (F P : Nat) (s : WS) (outer : Nat) (nm : ByteArray) (hs : nm.size ≤ maxLen) (w : World) (h : WkAt w F P s) (ht : tot s ≤ 3000000) (ho : outer ≤ 3000000) (b : Nat) (hnm : s.named nm.data.toList = some b) (hlv : (s.bd b).level < outer) :
    Calls Tryd.prog 40 #[.pointer (some ⟨P, 0, none⟩), .string nm, .int .i64 (outer : Int)] w fun e w' => e = .returned (.tuple #[]) ∧ WkAt w' F P (bindS outer nm s) ∧ Below F w w' := by
  obtain ⟨bl, pv, sv, av, m, c, h⟩ := h
  have HS : Hid (WkS w F P s bl pv sv av m c) := h
  obtain ⟨c0, c1, c2, c3, c4, c5, f0, f1, f2, f4, f5⟩ := h.blk.all6
  have lP := h.blk.lt
  obtain ⟨o, cap, rfl, hn, hcap⟩ := owns_form h.sr
  obtain ⟨oa, capa, rfl, hna, hcapa⟩ := owns_form h.ar
  have hb1 : tot s = s.met + s.puts + s.bs.length + s.asked.length + s.scope.length + s.parts.length + s.lam := rfl
  have hl1 := h.mp.look nm hs
  rw [hnm] at hl1
  simp only [ptV] at hl1
  have hcp := h.cp
  have HX : Hid (s.scope.length ≤ 3000000 ∧ s.asked.length ≤ 3000000 ∧ c < 4000000 ∧ nm.size ≤ maxLen ∧ s.named nm.data.toList = (some b) ∧ F ≤ P ∧ c ≤ s.puts) := ⟨by omega, by omega, by omega, hs, hnm, h.FP, hcp⟩
  have hbr := HS.out.rg.rn _ b hnm
  have hbk := (HS.out.bd b hbr).1
  obtain ⟨-, -, -, -, -, b5, -, -, -, -⟩ := hbk.all7
  have lB := hbk.lt
  rw [WS.bd_lt hbr] at hlv
  obtain ⟨lv, hlvE⟩ : ∃ lv, s.bs[b].level = lv := ⟨_, rfl⟩
  rw [hlvE] at b5 hlv
  have HLv : Hid (s.bs[b].level = lv) := hlvE
  have hlvI : (lv : Int) < (outer : Int) := by omega
  have HLo : Hid (lv < outer) := hlv
  have HBR : Hid (b < s.bs.length) := hbr
  clear hbk hlvE hlv
  obtain ⟨lam, hlam⟩ : ∃ lam, s.lam = lam := ⟨_, rfl⟩
  obtain ⟨n, hnn⟩ : ∃ n, s.scope.length = n := ⟨_, rfl⟩
  have HE : Hid (s.lam = lam ∧ s.scope.length = n) := ⟨hlam, hnn⟩
  rw [hlam] at c1
  rw [hnn] at c4
  clear h hn hcap hna hcapa hnn hb1 hcp hnm hlam ho ht
  go_enter Tryd.func40, Tryd.ntmps40
  go_wp2
  go_region
  obtain ⟨V, hV⟩ : ∃ V, (w.alloc (.cells #[.string nm, .int .i64 1, .int .i64 0, .int .i64 0, .int .i64 (lam : Int), .int .i64 (n : Int), .pointer (some ⟨bl b, 0, none⟩)] 59)).drew = V := ⟨_, rfl⟩
  rw [hV]
  have hB1 : Below w.heap.size w V := by rw [← hV]; exact (below1 w _).drew
  have kN : Blk V w.heap.size (bC bl ⟨nm, 1, 0, 0, lam, n, (some b)⟩) 59 := by rw [← hV]; exact Blk.new w _ _
  have hV1 : V.heap.size = w.heap.size + 1 := by rw [← hV]; exact Array.size_push _
  have h1 := HS.out.newBd ⟨nm, 1, 0, 0, lam, n, (some b)⟩ hB1 (Nat.le_refl _) kN HX.out.2.2.2.1 (fun i hi => HS.out.rg.rn _ i (HX.out.2.2.2.2.1.trans hi))
  have HB1 : Hid (Below F w V) := hB1.mono HS.out.FW
  obtain ⟨N, hN⟩ : ∃ N, w.heap.size = N := ⟨_, rfl⟩
  obtain ⟨bl1, hbl1⟩ : ∃ bl1, blN bl s.bs.length w.heap.size = bl1 := ⟨_, rfl⟩
  rw [hbl1] at h1
  have hbn : bl1 s.bs.length = N := by rw [← hbl1, ← hN]; exact if_pos rfl
  rw [hN] at hV1 ⊢
  clear hV hB1 kN hbl1 c0 c1 c2 c3 c4 c5 f0 f1 f2 f4 f5 lP hl1 hN b5 lB hlvI
  obtain ⟨s1, hs1⟩ : ∃ s1 : WS, { s with bs := s.bs ++ [⟨nm, 1, 0, 0, lam, n, (some b)⟩] } = s1 := ⟨_, rfl⟩
  have H1 : Hid (WkS V F P s1 bl1 pv (.slice o s.scope.length cap) (.slice oa s.asked.length capa) m c) := by rw [← hs1]; exact h1
  have HQ : Hid ({ s with bs := s.bs ++ [⟨nm, 1, 0, 0, lam, n, (some b)⟩] } = s1 ∧ bl1 s.bs.length = N) := ⟨hs1, hbn⟩
  clear h1 hs1 hbn HS
  obtain ⟨W2, r1, hm2, hb2⟩ := H1.out.mp.put HX.out.2.2.1 nm hs (.pointer (some ⟨N, 0, none⟩))
  have h2 : WkS W2 F P { s1 with named := fun x => if x = nm.data.toList then some s.bs.length else s1.named x, puts := s.puts + 1 } bl1 pv (.slice o s.scope.length cap) (.slice oa s.asked.length capa) m (c + 1) := by
    refine H1.out.setMap hb2 ?_ (by have := HX.out; omega) (fun x i hx => ?_)
    · have e : (fun x => ptV bl1 (if x = nm.data.toList then some s.bs.length else s1.named x)) = (fun x => if x = nm.data.toList then Value.pointer (some ⟨N, 0, none⟩) else ptV bl1 (s1.named x)) := by
        funext x
        by_cases hx : x = nm.data.toList
        · rw [if_pos hx, if_pos hx]; show Value.pointer (some ⟨bl1 s.bs.length, 0, none⟩) = _; rw [HQ.out.2]
        · rw [if_neg hx, if_neg hx]
      rw [e]; exact hm2
    · by_cases h9 : x = nm.data.toList
      · rw [if_pos h9] at hx
        cases hx
        rw [← HQ.out.1]; simp
      · rw [if_neg h9] at hx
        exact H1.out.rg.rn x i hx
  have HB2 : Hid (Below F w W2) := by
    refine ⟨hb2.os.trans HB1.out.os, hb2.tape.trans HB1.out.tape, hb2.output.trans HB1.out.output, Nat.le_trans HB1.out.size hb2.size, fun k hk => (hb2.block k (by have := H1.out.FW; omega) (by have := H1.out.Fm; omega)).trans (HB1.out.block k hk)⟩
  obtain ⟨c0, c1, c2, c3, c4, c5, f0, f1, f2, f4, f5⟩ := H1.out.blk.all6
  have lP := H1.out.blk.lt
  clear hm2 hb2
  go_upto_region 4 with fail
  clear c0 c1 c2 c3 c4 c5 f0 f1 f2 f4 f5 lP r1 H1 HB1
  have H2 : Hid (WkS W2 F P { s1 with named := fun x => if x = nm.data.toList then some s.bs.length else s1.named x, puts := s.puts + 1 } bl1 pv (.slice o s.scope.length cap) (.slice oa s.asked.length capa) m (c + 1)) := h2
  clear h2
  obtain ⟨c0, c1, c2, c3, c4, c5, f0, f1, f2, f4, f5⟩ := H2.out.blk.all6
  have lP := H2.out.blk.lt
  obtain ⟨i0, hi0, hz0, hz1, hz2⟩ := info_parts16 infoPb
  have hsr := H2.out.sr
  have hes : s1.scope = s.scope ∧ s1.asked = s.asked := by rw [← HQ.out.1]; exact ⟨rfl, rfl⟩
  rw [show ({ s1 with named := fun x => if x = nm.data.toList then some s.bs.length else s1.named x, puts := s.puts + 1 } : WS).scope = s.scope from hes.1] at hsr
  go_upto_region 5 with (at_builtin; refine wpList_append_lies _ rfl _ _ 71 rfl F 57 i0 (.pointer none) 1 8 Tryd.underlying71 hi0 hz0 hz1 hz2 rfl (by decide) _ _ _ rfl (owns_same16 hsr (fun g hg => (below1 W2 _).block g (owns_lt hsr hg).2)) ⟨W2.heap.size, 0, none⟩ 1 1 [.pointer (some ⟨N, 0, none⟩)] rfl rfl (cell_one16 _ _ _) (by simp [Value.oneCell']) (by decide) (by unfold maxLen; have := HX.out; omega) (by have := HX.out; omega) (by have := H2.out.FW; have := (below1 W2 (.cells #[.pointer (some ⟨N, 0, none⟩)] 57)).size; omega) (W2.heap.size + 1) (Array.size_push _) ?_; intro g8 c8 w8 hown8 hgrow8 hat8 hlt8; have HO8 : Hid (w8.ownsRow F 57 1 (.slice (some ⟨g8, 0, none⟩) (s.scope.length + 1) c8) (s.scope.length + 1) (iL bl1 s.scope ++ [.pointer (some ⟨N, 0, none⟩)]) ∧ (W2.alloc (.cells #[.pointer (some ⟨N, 0, none⟩)] 57)).grownBy w8 (Value.ownBlock (.slice o s.scope.length cap)) ∧ (Value.ownBlock (.slice o s.scope.length cap) = some g8 ∨ g8 = W2.heap.size + 1)) := ⟨hown8, hgrow8, hat8⟩; clear hown8 hgrow8 hat8 hlt8; obtain ⟨q1, q2, q3, q4, q5⟩ := bnd_scope H2.out hes.1 (by rw [← HQ.out.1]; simp) (show Value.pointer (some ⟨N, 0, none⟩) = ptV bl1 (some s.bs.length) by show _ = Value.pointer (some ⟨bl1 s.bs.length, 0, none⟩); rw [HQ.out.2]) HO8.out.1 HO8.out.2.1 HO8.out.2.2; have HQ1 : Hid (WkS (w8.setCell ⟨P, 4, none⟩ (.slice (some ⟨g8, 0, none⟩) (s.scope.length + 1) c8)) F P { freshS nm (some b) s with asked := s.asked } bl1 pv (.slice (some ⟨g8, 0, none⟩) (s.scope.length + 1) c8) (.slice oa s.asked.length capa) m (c + 1)) := (by (have e1 := HQ.out.1; have e2 := HE.out; subst e1; obtain ⟨rfl, rfl⟩ := e2; exact q1)); have HB8 : Hid (Below F w w8) := HB2.out.trans q2; clear q1 q2 HO8 hsr c0 c1 c2 c3 c4 c5 f0 f1 f2 f4 f5 lP)
  obtain ⟨W3, hW3⟩ : ∃ W3, w8.setCell ⟨P, 4, none⟩ (.slice (some ⟨g8, 0, none⟩) (s.scope.length + 1) c8) = W3 := ⟨_, rfl⟩
  have HB3 : Hid (Below F w W3) := by rw [← hW3]; exact HB8.out.setCell (p := ⟨P, 4, none⟩) HX.out.2.2.2.2.2.1 _
  rw [hW3] at HQ1 ⊢
  clear hW3 q3 q4 q5 HB8 HB2 H2
  have HN : Hid (bl1 s.bs.length = N) := HQ.out.2
  have H3 : Hid (WkS W3 F P { freshS nm (some b) s with asked := s.asked } bl1 pv (.slice (some ⟨g8, 0, none⟩) (s.scope.length + 1) c8) (.slice oa s.asked.length capa) m (c + 1)) := HQ1
  obtain ⟨c0, c1, c2, c3, c4, c5, f0, f1, f2, f4, f5⟩ := H3.out.blk.all6
  have lP := H3.out.blk.lt
  have har : W3.ownsRow F 57 1 (.slice oa s.asked.length capa) s.asked.length (iL bl1 s.asked) := H3.out.ar
  clear HQ1
  go_wp2_with (at_builtin; refine wpList_append_lies _ rfl _ _ 71 rfl F 57 i0 (.pointer none) 1 8 Tryd.underlying71 hi0 hz0 hz1 hz2 rfl (by decide) _ _ _ rfl (owns_same16 har (fun g hg => (below1 W3 _).block g (owns_lt har hg).2)) ⟨W3.heap.size, 0, none⟩ 1 1 [.pointer (some ⟨N, 0, none⟩)] rfl rfl (cell_one16 _ _ _) (by simp [Value.oneCell']) (by decide) (by unfold maxLen; have := HX.out; omega) (by have := HX.out; omega) (by have := H3.out.FW; have := (below1 W3 (.cells #[.pointer (some ⟨N, 0, none⟩)] 57)).size; omega) (W3.heap.size + 1) (Array.size_push _) ?_; intro g9 c9 w9 hown9 hgrow9 hat9 hlt9; obtain ⟨q1, q2, q3, q4, q5⟩ := H3.out.pushAsked (i := s.bs.length) (by show _ < (s.bs ++ [_]).length; simp) (show Value.pointer (some ⟨N, 0, none⟩) = ptV bl1 (some s.bs.length) by show _ = Value.pointer (some ⟨bl1 s.bs.length, 0, none⟩); rw [HN.out]) hown9 hgrow9 hat9; have HQ9 : Hid (WkS (w9.setCell ⟨P, 5, none⟩ (.slice (some ⟨g9, 0, none⟩) (s.asked.length + 1) c9)) F P (freshS nm (some b) s) bl1 pv (.slice (some ⟨g8, 0, none⟩) (s.scope.length + 1) c8) (.slice (some ⟨g9, 0, none⟩) (s.asked.length + 1) c9) m (c + 1)) := q1; have HB9 : Hid (Below F w w9) := HB3.out.trans q2; clear q1 q2 hown9 hgrow9 hat9 hlt9 har c0 c1 c2 c3 c4 c5 f0 f1 f2 f4 f5 lP)
  go_end0
  refine ⟨rfl, ⟨bl1, pv, (.slice (some ⟨g8, 0, none⟩) (s.scope.length + 1) c8), (.slice (some ⟨g9, 0, none⟩) (s.asked.length + 1) c9), m, (c + 1), ?_⟩, HB9.out.setCell (p := ⟨P, 5, none⟩) HX.out.2.2.2.2.2.1 _⟩
  have e : bindS outer nm s = freshS nm (some b) s := by
    unfold bindS; rw [HX.out.2.2.2.2.1]; simp only
    rw [WS.bd_lt (HBR.out), HLv.out, if_pos HLo.out]
  rw [e]; exact HQ9.out
set_option maxHeartbeats 8000000 in
set_option maxRecDepth 100000 in
theorem wkBindAgain_c (F P : Nat) (s : WS) (outer : Nat) (nm : ByteArray) (hs : nm.size ≤ maxLen) (w : World) (h : WkAt w F P s) (ht : tot s ≤ 3000000) (ho : outer ≤ 3000000) (b : Nat) (hnm : s.named nm.data.toList = some b) (hlv : ¬ (s.bd b).level < outer) :
    Calls Tryd.prog 40 #[.pointer (some ⟨P, 0, none⟩), .string nm, .int .i64 (outer : Int)] w fun e w' => e = .returned (.tuple #[]) ∧ WkAt w' F P (bindS outer nm s) ∧ Below F w w' := by
  obtain ⟨bl, pv, sv, av, m, c, h⟩ := h
  have HS : Hid (WkS w F P s bl pv sv av m c) := h
  obtain ⟨c0, c1, c2, c3, c4, c5, f0, f1, f2, f4, f5⟩ := h.blk.all6
  have lP := h.blk.lt
  obtain ⟨o, cap, rfl, hn, hcap⟩ := owns_form h.sr
  obtain ⟨oa, capa, rfl, hna, hcapa⟩ := owns_form h.ar
  have hb1 : tot s = s.met + s.puts + s.bs.length + s.asked.length + s.scope.length + s.parts.length + s.lam := rfl
  have hl1 := h.mp.look nm hs
  rw [hnm] at hl1
  simp only [ptV] at hl1
  have hcp := h.cp
  have HX : Hid (s.scope.length ≤ 3000000 ∧ s.asked.length ≤ 3000000 ∧ c < 4000000 ∧ nm.size ≤ maxLen ∧ s.named nm.data.toList = some b ∧ F ≤ P ∧ c ≤ s.puts) := ⟨by omega, by omega, by omega, hs, hnm, h.FP, hcp⟩
  have hbr := HS.out.rg.rn _ b hnm
  have hbk := (HS.out.bd b hbr).1
  obtain ⟨-, -, -, -, -, b5, -, -, -, -⟩ := hbk.all7
  have lB := hbk.lt
  rw [WS.bd_lt hbr] at hlv
  obtain ⟨lv, hlvE⟩ : ∃ lv, s.bs[b].level = lv := ⟨_, rfl⟩
  rw [hlvE] at b5 hlv
  have HLv : Hid (s.bs[b].level = lv) := hlvE
  have hlvI : ¬ ((lv : Int) < (outer : Int)) := by omega
  have HLo : Hid (¬ lv < outer) := hlv
  have HBR : Hid (b < s.bs.length) := hbr
  clear hbk hlvE hlv
  obtain ⟨lam, hlam⟩ : ∃ lam, s.lam = lam := ⟨_, rfl⟩
  obtain ⟨n, hnn⟩ : ∃ n, s.scope.length = n := ⟨_, rfl⟩
  have HE : Hid (s.lam = lam ∧ s.scope.length = n) := ⟨hlam, hnn⟩
  rw [hlam] at c1
  rw [hnn] at c4
  clear h hn hcap hna hcapa hnn hb1 hcp hnm hlam ho ht
  go_enter Tryd.func40, Tryd.ntmps40
  go_upto_region 5 with fail
  clear c0 c1 c2 c3 c4 c5 f0 f1 f2 f4 f5 lP hl1 b5 lB hlvI
  obtain ⟨i0, hi0, hz0, hz1, hz2⟩ := info_parts16 infoPb
  obtain ⟨N, hN⟩ : ∃ N, bl b = N := ⟨_, rfl⟩
  have HN : Hid (bl b = N) := hN
  rw [hN]
  clear hN
  obtain ⟨W3, hW3⟩ : ∃ W3, w = W3 := ⟨_, rfl⟩
  have HQ1 : Hid (WkS W3 F P s bl pv (.slice o s.scope.length cap) (.slice oa s.asked.length capa) m c) := by rw [← hW3]; exact HS
  have HB3 : Hid (Below F w W3) := by rw [← hW3]; exact Below.refl _ _
  rw [hW3]
  clear hW3 HS
  have H3 : Hid (WkS W3 F P s bl pv (.slice o s.scope.length cap) (.slice oa s.asked.length capa) m c) := HQ1
  obtain ⟨c0, c1, c2, c3, c4, c5, f0, f1, f2, f4, f5⟩ := H3.out.blk.all6
  have lP := H3.out.blk.lt
  have har : W3.ownsRow F 57 1 (.slice oa s.asked.length capa) s.asked.length (iL bl s.asked) := H3.out.ar
  clear HQ1
  go_wp2_with (at_builtin; refine wpList_append_lies _ rfl _ _ 71 rfl F 57 i0 (.pointer none) 1 8 Tryd.underlying71 hi0 hz0 hz1 hz2 rfl (by decide) _ _ _ rfl (owns_same16 har (fun g hg => (below1 W3 _).block g (owns_lt har hg).2)) ⟨W3.heap.size, 0, none⟩ 1 1 [.pointer (some ⟨N, 0, none⟩)] rfl rfl (cell_one16 _ _ _) (by simp [Value.oneCell']) (by decide) (by unfold maxLen; have := HX.out; omega) (by have := HX.out; omega) (by have := H3.out.FW; have := (below1 W3 (.cells #[.pointer (some ⟨N, 0, none⟩)] 57)).size; omega) (W3.heap.size + 1) (Array.size_push _) ?_; intro g9 c9 w9 hown9 hgrow9 hat9 hlt9; obtain ⟨q1, q2, q3, q4, q5⟩ := H3.out.pushAsked (i := b) HBR.out (show Value.pointer (some ⟨N, 0, none⟩) = ptV bl (some b) by show _ = Value.pointer (some ⟨bl b, 0, none⟩); rw [HN.out]) hown9 hgrow9 hat9; have HQ9 : Hid (WkS (w9.setCell ⟨P, 5, none⟩ (.slice (some ⟨g9, 0, none⟩) (s.asked.length + 1) c9)) F P { s with asked := s.asked ++ [b] } bl pv (.slice o s.scope.length cap) (.slice (some ⟨g9, 0, none⟩) (s.asked.length + 1) c9) m c) := q1; have HB9 : Hid (Below F w w9) := HB3.out.trans q2; clear q1 q2 hown9 hgrow9 hat9 hlt9 har c0 c1 c2 c3 c4 c5 f0 f1 f2 f4 f5 lP)
  go_end0
  refine ⟨rfl, ⟨bl, pv, (.slice o s.scope.length cap), (.slice (some ⟨g9, 0, none⟩) (s.asked.length + 1) c9), m, c, ?_⟩, HB9.out.setCell (p := ⟨P, 5, none⟩) HX.out.2.2.2.2.2.1 _⟩
  have e : bindS outer nm s = { s with asked := s.asked ++ [b] } := by
    unfold bindS; rw [HX.out.2.2.2.2.1]; simp only
    rw [WS.bd_lt (HBR.out), HLv.out, if_neg HLo.out]
  rw [e]; exact HQ9.out
theorem wkBind_c (F P : Nat) (s : WS) (outer : Nat) (nm : ByteArray) (hs : nm.size ≤ maxLen) (w : World) (h : WkAt w F P s) (ht : tot s ≤ 3000000) (ho : outer ≤ 3000000) :
    Calls Tryd.prog 40 #[.pointer (some ⟨P, 0, none⟩), .string nm, .int .i64 (outer : Int)] w fun e w' => e = .returned (.tuple #[]) ∧ WkAt w' F P (bindS outer nm s) ∧ Below F w w' := by
  cases hnm : s.named nm.data.toList with
  | none => exact wkBindNone_c F P s outer nm hs w h ht ho hnm
  | some b =>
    by_cases hlv : (s.bd b).level < outer
    · exact wkBindHid_c F P s outer nm hs w h ht ho b hnm hlv
    · exact wkBindAgain_c F P s outer nm hs w h ht ho b hnm hlv
end Go.Proofs.YtjmpjfggbhongaaDoor
