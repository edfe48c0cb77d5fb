/-
  Tokens that are read again as they were told: fixed ones, names, numbers, characters, texts.
  Every node that may be is told, by tokens that are read again; how many there are.
  A told text is read again; what the lexer answers, in memory.
-/
import Derived.Test.YtndpebkiiemfpaaGreatDoorHBk
import Derived.Test.YtndpebkiiemfpaaGreatDoorHTc
import Derived.Test.YtndpebkiiemfpaaGreatDoorHWr
import Derived.Test.YtndpebkiiemfpaaGreatDoorHLx
import Derived.Test.YtndpebkiiemfpaaGreatDoorAll
namespace Go.Proofs.YtndpebkiiemfpaaGreatDoor
open Go.RowKit Go.Shelf Go.Maps
set_option linter.unusedVariables false

/-- A token that is read again as it was told. -/
def GdT (t : TkT) : Prop := (∃ t0 : M.T0, t = ⟨(t0.kind : Int), t0.text, (t0.num : Int)⟩ ∧ Good t0 (tx0 t0)) ∧ t.num ≤ 9223372036854775807 ∧ t.text.length ≤ 65536
def GdL (l : List TkT) : Prop := ∀ t ∈ l, GdT t
theorem GdL.nil : GdL [] := fun t h => by cases h
theorem GdL.cons {t : TkT} {l : List TkT} (h : GdT t) (hl : GdL l) : GdL (t :: l) := fun x hx => (List.mem_cons.1 hx).elim (fun e => e ▸ h) (hl x)
theorem GdL.one {t : TkT} (h : GdT t) : GdL [t] := GdL.cons h GdL.nil
theorem GdL.app {a b : List TkT} (ha : GdL a) (hb : GdL b) : GdL (a ++ b) := fun t h => (List.mem_append.1 h).elim (ha t) (hb t)
theorem GdL.flat {f : Nd → List TkT} {l : List Nd} (h : ∀ x ∈ l, GdL (f x)) : GdL (l.flatMap f) := fun t ht => by
  obtain ⟨x, hx, hxt⟩ := List.mem_flatMap.1 ht
  exact h x hx t hxt
theorem gd_of_scan (u : List UInt8) (k : M.Tk) (h : M.scanAll u = .inr [k]) (h2 : (k.t.num : Int) ≤ 9223372036854775807 ∧ k.t.text.length ≤ 65536) : GdT ⟨(k.t.kind : Int), k.t.text, (k.t.num : Int)⟩ :=
  ⟨⟨k.t, rfl, scan_good _ _ _ _ _ _ h k (by simp)⟩, h2⟩
def tl1 (t : TkT) : Nat := 1 + (txT t).length
/-- How long tokens are, told. -/
def jl (l : List TkT) : Nat := (l.map tl1).sum
theorem jl_nil : jl [] = 0 := rfl
theorem jl_cons (t : TkT) (l : List TkT) : jl (t :: l) = tl1 t + jl l := by simp [jl]
theorem jl_app (a b : List TkT) : jl (a ++ b) = jl a + jl b := by simp [jl]
theorem jl_len : ∀ l : List TkT, (l.flatMap jnF).length = jl l
  | [] => rfl
  | t :: l => by
    rw [List.flatMap_cons, List.length_append, jl_len l, jl_cons]
    simp [jnF, tl1]; omega
theorem len_jl : ∀ l : List TkT, l.length ≤ jl l
  | [] => Nat.le_refl _
  | t :: l => by
    have := len_jl l
    rw [jl_cons, List.length_cons]
    unfold tl1; omega
theorem jl_rep (l : List TkT) : ∀ N : Nat, jl (List.replicate N l).flatten = N * jl l
  | 0 => by simp [jl_nil]
  | N + 1 => by
    rw [List.replicate_succ, List.flatten_cons, jl_app, jl_rep l N, Nat.succ_mul]; omega
theorem tl_wd (s : ByteArray) : tl1 (wdT s) = 1 + s.size := by
  show 1 + s.data.toList.length = _
  rw [← Lib.size_eq]
theorem tl_sg (s : ByteArray) : tl1 (sgT s) = 1 + s.size := by
  show 1 + s.data.toList.length = _
  rw [← Lib.size_eq]
theorem tl_mk (s : ByteArray) : tl1 (mkT s) = 1 + s.size := by
  show 1 + s.data.toList.length = _
  rw [← Lib.size_eq]
theorem tl_lp : tl1 lpT = 2 := rfl
theorem tl_rp : tl1 rpT = 2 := rfl
theorem tl_lb : tl1 lbT = 2 := rfl
theorem tl_rb : tl1 rbT = 2 := rfl
theorem tl_sc : tl1 scT = 2 := rfl
theorem tl_co : tl1 coT = 2 := rfl
theorem tl_wh : tl1 whT = 6 := rfl
theorem tl_lk (s : ByteArray) (h : lkM s = 1 ∨ lkM s = 2 ∨ lkM s = 3 ∨ lkM s = 4) : tl1 ⟨lkM s, s.data.toList, 0⟩ = 1 + s.size := by
  have e : txM (lkM s) s.data.toList 0 = s.data.toList := by
    unfold txM
    rw [if_neg (by omega), if_neg (by omega), if_neg (by omega), if_pos (by omega)]
  show 1 + (txM (lkM s) s.data.toList 0).length = _
  rw [e, ← Lib.size_eq]
theorem decE_len : ∀ (k n : Nat), n < 10 ^ (k + 1) → (Lib.decDigits n).length ≤ k + 1
  | 0, n, h => by rw [Lib.decDigits, dif_pos (by omega)]; simp
  | k + 1, n, h => by
    rw [Lib.decDigits]
    split
    · simp
    · have := decE_len k (n / 10) (by rw [Nat.pow_succ] at h; omega)
      simp only [List.length_append, List.length_singleton]
      omega
theorem tl_num (n : Int) (h : 0 ≤ n ∧ n ≤ 9223372036854775807) : tl1 ⟨5, [], n⟩ ≤ 21 := by
  obtain ⟨m, rfl⟩ := Int.eq_ofNat_of_zero_le h.1
  have e : txT ⟨5, [], (m : Int)⟩ = Lib.decDigits m := by
    show Lib.itoa (max (m : Int) 0) = _
    rw [show max (m : Int) 0 = (m : Int) by omega]
    rfl
  unfold tl1
  rw [e]
  have := decE_len 19 m (by omega)
  omega
theorem tl_chr (n : Int) : tl1 ⟨6, [], n⟩ ≤ 7 := by
  show 1 + (quM 39 [] [UInt8.ofNat (min (max n 0) 255).toNat]).length ≤ 7
  have := chB_len 39 [] (UInt8.ofNat (min (max n 0) 255).toNat)
  simp [quM] at this ⊢
  omega
theorem ch_all (q : UInt8) (bh : List UInt8) : ∀ l : List UInt8, (l.flatMap (chB q bh)).length ≤ (4 + bh.length) * l.length
  | [] => by simp
  | c :: l => by
    have h1 := chB_len q bh c
    have h2 := ch_all q bh l
    rw [List.flatMap_cons, List.length_append, List.length_cons, Nat.mul_succ]
    omega
theorem tl_str (t : List UInt8) : tl1 ⟨7, t, 0⟩ ≤ 3 + 6 * t.length := by
  show 1 + (quM 34 [92, 38] t).length ≤ _
  have := ch_all 34 [92, 38] t
  simp [quM] at this ⊢
  omega
theorem gd_let : GdT (wdT ⟨#[108, 101, 116]⟩) := gd_of_scan [108, 101, 116] ⟨⟨9, [108, 101, 116], 0⟩, 0, 1, 1, true⟩ (by decide) (by decide)
theorem gd_in : GdT (wdT ⟨#[105, 110]⟩) := gd_of_scan [105, 110] ⟨⟨9, [105, 110], 0⟩, 0, 1, 1, true⟩ (by decide) (by decide)
theorem gd_case : GdT (wdT ⟨#[99, 97, 115, 101]⟩) := gd_of_scan [99, 97, 115, 101] ⟨⟨9, [99, 97, 115, 101], 0⟩, 0, 1, 1, true⟩ (by decide) (by decide)
theorem gd_of : GdT (wdT ⟨#[111, 102]⟩) := gd_of_scan [111, 102] ⟨⟨9, [111, 102], 0⟩, 0, 1, 1, true⟩ (by decide) (by decide)
theorem gd_do : GdT (wdT ⟨#[100, 111]⟩) := gd_of_scan [100, 111] ⟨⟨9, [100, 111], 0⟩, 0, 1, 1, true⟩ (by decide) (by decide)
theorem gd_data : GdT (wdT ⟨#[100, 97, 116, 97]⟩) := gd_of_scan [100, 97, 116, 97] ⟨⟨9, [100, 97, 116, 97], 0⟩, 0, 1, 1, true⟩ (by decide) (by decide)
theorem gd_if : GdT (wdT ⟨#[105, 102]⟩) := gd_of_scan [105, 102] ⟨⟨9, [105, 102], 0⟩, 0, 1, 1, true⟩ (by decide) (by decide)
theorem gd_then : GdT (wdT ⟨#[116, 104, 101, 110]⟩) := gd_of_scan [116, 104, 101, 110] ⟨⟨9, [116, 104, 101, 110], 0⟩, 0, 1, 1, true⟩ (by decide) (by decide)
theorem gd_else : GdT (wdT ⟨#[101, 108, 115, 101]⟩) := gd_of_scan [101, 108, 115, 101] ⟨⟨9, [101, 108, 115, 101], 0⟩, 0, 1, 1, true⟩ (by decide) (by decide)
theorem gd_where : GdT (wdT ⟨#[119, 104, 101, 114, 101]⟩) := gd_of_scan [119, 104, 101, 114, 101] ⟨⟨9, [119, 104, 101, 114, 101], 0⟩, 0, 1, 1, true⟩ (by decide) (by decide)
theorem gd_any : GdT (wdT ⟨#[95]⟩) := gd_of_scan [95] ⟨⟨9, [95], 0⟩, 0, 1, 1, true⟩ (by decide) (by decide)
theorem gd_infixl : GdT (wdT ⟨#[105, 110, 102, 105, 120, 108]⟩) := gd_of_scan [105, 110, 102, 105, 120, 108] ⟨⟨9, [105, 110, 102, 105, 120, 108], 0⟩, 0, 1, 1, true⟩ (by decide) (by decide)
theorem gd_infixr : GdT (wdT ⟨#[105, 110, 102, 105, 120, 114]⟩) := gd_of_scan [105, 110, 102, 105, 120, 114] ⟨⟨9, [105, 110, 102, 105, 120, 114], 0⟩, 0, 1, 1, true⟩ (by decide) (by decide)
theorem gd_infix : GdT (wdT ⟨#[105, 110, 102, 105, 120]⟩) := gd_of_scan [105, 110, 102, 105, 120] ⟨⟨9, [105, 110, 102, 105, 120], 0⟩, 0, 1, 1, true⟩ (by decide) (by decide)
theorem gd_eq : GdT (sgT ⟨#[61]⟩) := gd_of_scan [61] ⟨⟨10, [61], 0⟩, 0, 1, 1, true⟩ (by decide) (by decide)
theorem gd_bar : GdT (sgT ⟨#[124]⟩) := gd_of_scan [124] ⟨⟨10, [124], 0⟩, 0, 1, 1, true⟩ (by decide) (by decide)
theorem gd_to : GdT (sgT ⟨#[45, 62]⟩) := gd_of_scan [45, 62] ⟨⟨10, [45, 62], 0⟩, 0, 1, 1, true⟩ (by decide) (by decide)
theorem gd_from : GdT (sgT ⟨#[60, 45]⟩) := gd_of_scan [60, 45] ⟨⟨10, [60, 45], 0⟩, 0, 1, 1, true⟩ (by decide) (by decide)
theorem gd_lam : GdT (sgT ⟨#[92]⟩) := gd_of_scan [92] ⟨⟨10, [92], 0⟩, 0, 1, 1, true⟩ (by decide) (by decide)
theorem gd_at : GdT (sgT ⟨#[64]⟩) := gd_of_scan [64] ⟨⟨10, [64], 0⟩, 0, 1, 1, true⟩ (by decide) (by decide)
theorem gd_lazy : GdT (sgT ⟨#[126]⟩) := gd_of_scan [126] ⟨⟨10, [126], 0⟩, 0, 1, 1, true⟩ (by decide) (by decide)
theorem gd_lp : GdT (mkT ⟨#[40]⟩) := gd_of_scan [40] ⟨⟨8, [40], 0⟩, 0, 1, 1, true⟩ (by decide) (by decide)
theorem gd_rp : GdT (mkT ⟨#[41]⟩) := gd_of_scan [41] ⟨⟨8, [41], 0⟩, 0, 1, 1, true⟩ (by decide) (by decide)
theorem gd_lk : GdT (mkT ⟨#[91]⟩) := gd_of_scan [91] ⟨⟨8, [91], 0⟩, 0, 1, 1, true⟩ (by decide) (by decide)
theorem gd_rk : GdT (mkT ⟨#[93]⟩) := gd_of_scan [93] ⟨⟨8, [93], 0⟩, 0, 1, 1, true⟩ (by decide) (by decide)
theorem gd_lb : GdT (mkT ⟨#[123]⟩) := gd_of_scan [123] ⟨⟨8, [123], 0⟩, 0, 1, 1, true⟩ (by decide) (by decide)
theorem gd_rb : GdT (mkT ⟨#[125]⟩) := gd_of_scan [125] ⟨⟨8, [125], 0⟩, 0, 1, 1, true⟩ (by decide) (by decide)
theorem gd_co : GdT (mkT ⟨#[44]⟩) := gd_of_scan [44] ⟨⟨8, [44], 0⟩, 0, 1, 1, true⟩ (by decide) (by decide)
theorem gd_sc : GdT (mkT ⟨#[59]⟩) := gd_of_scan [59] ⟨⟨8, [59], 0⟩, 0, 1, 1, true⟩ (by decide) (by decide)
theorem gd_bq : GdT (mkT ⟨#[96]⟩) := gd_of_scan [96] ⟨⟨8, [96], 0⟩, 0, 1, 1, true⟩ (by decide) (by decide)
theorem num_zero (k : Nat) (u : List UInt8) (h5 : (M.resv (M.mkTok k u)).kind ≠ 5) (h6 : (M.resv (M.mkTok k u)).kind ≠ 6) : (M.resv (M.mkTok k u)).num = 0 := by
  unfold M.mkTok at h5 h6 ⊢
  by_cases q5 : k = 5
  · rw [if_pos q5] at h5
    exact absurd (by simp [M.resv]) h5
  rw [if_neg q5] at h5 h6 ⊢
  by_cases q6 : k = 6
  · rw [if_pos q6] at h6
    exact absurd (by simp [M.resv]) h6
  rw [if_neg q6] at h5 h6 ⊢
  by_cases q7 : k = 7
  · rw [if_pos q7]
    simp [M.resv]
  rw [if_neg q7]
  unfold M.resv
  split
  · rfl
  · split <;> rfl
theorem lk_good (s : ByteArray) (h : lkM s = 1 ∨ lkM s = 2 ∨ lkM s = 3 ∨ lkM s = 4) : GdT ⟨lkM s, s.data.toList, 0⟩ ∧ s.size ≤ 65536 := by
  have h0 : (chk s).1 = 0 := by
    refine Classical.byContradiction fun hn => ?_
    have : lkM s = 0 := by unfold lkM; rw [if_neg hn]
    omega
  have hsz : s.size ≤ 65536 := by
    refine Classical.byContradiction fun hn => ?_
    unfold chk at h0
    rw [if_pos (by omega)] at h0
    cases h0
  refine ⟨?_, hsz⟩
  have he : lkM s = (match M.scanAll s.data.toList with
    | .inr [t] => if t.t.text = s.data.toList then (t.t.kind : Int) else 0
    | _ => 0) := by unfold lkM; rw [if_pos h0]; rfl
  rcases hs : M.scanAll s.data.toList with x | l
  · rw [hs] at he; simp only at he; omega
  · match l, hs with
    | [], hs => rw [hs] at he; simp only at he; omega
    | [t], hs =>
      rw [hs] at he
      simp only at he
      by_cases ht : t.t.text = s.data.toList
      · rw [if_pos ht] at he
        have hg : Good t.t (tx0 t.t) := scan_good _ _ _ _ _ _ hs t (by simp)
        obtain ⟨k, _, hk⟩ := hg.lex
        have hz : t.t.num = 0 := by
          rw [← hk]
          refine num_zero _ _ ?_ ?_
          · rw [hk]; omega
          · rw [hk]; omega
        refine ⟨⟨t.t, ?_, hg⟩, by show (0 : Int) ≤ _; omega, by show s.data.toList.length ≤ _; rw [← Lib.size_eq]; exact hsz⟩
        rw [he, ht, hz]
        rfl
      · rw [if_neg ht] at he; omega
    | t :: t2 :: l, hs => rw [hs] at he; simp only at he; omega
theorem gd_num (n : Int) (h : 0 ≤ n ∧ n ≤ 9223372036854775807) : GdT ⟨5, [], n⟩ := by
  obtain ⟨m, rfl⟩ := Int.eq_ofNat_of_zero_le h.1
  refine ⟨⟨⟨5, [], m⟩, rfl, ?_⟩, h.2, Nat.zero_le _⟩
  have hg := good_int m (by omega)
  have e : tx0 ⟨5, [], m⟩ = Lib.decDigits m := by
    show Lib.itoa (max (m : Int) 0) = _
    rw [show max (m : Int) 0 = (m : Int) by omega]
    rfl
  rw [e]; exact hg
theorem gd_chr (n : Int) (h : 0 ≤ n ∧ n ≤ 255) : GdT ⟨6, [], n⟩ := by
  obtain ⟨m, rfl⟩ := Int.eq_ofNat_of_zero_le h.1
  have hm : m < 256 := by omega
  have hg := good_char (UInt8.ofNat m)
  have e1 : (UInt8.ofNat m).toNat = m := by simp; omega
  rw [e1] at hg
  refine ⟨⟨⟨6, [], m⟩, rfl, ?_⟩, by show (m : Int) ≤ _; omega, Nat.zero_le _⟩
  have e : tx0 ⟨6, [], m⟩ = quM 39 [] [UInt8.ofNat m] := by
    show quM 39 [] [UInt8.ofNat (min (max (m : Int) 0) 255).toNat] = _
    rw [show (min (max (m : Int) 0) 255).toNat = m by omega]
  rw [e]; exact hg
theorem gd_str (t : List UInt8) (h : t.length ≤ 65536) : GdT ⟨7, t, 0⟩ := ⟨⟨⟨7, t, 0⟩, rfl, good_str t⟩, by show (0 : Int) ≤ _; omega, h⟩
theorem lk_a : lkM ⟨#[97]⟩ = 1 := by decide
theorem lk_minus : lkM ⟨#[45]⟩ = 3 := by decide
theorem str_name (s : ByteArray) (h : lkM s = 1 ∨ lkM s = 2 ∨ lkM s = 3 ∨ lkM s = 4) : ∃ out : List TkT, (∀ B bl T, StrOK B bl T 87 s out 1) ∧ GdL out ∧ jl out ≤ 5 + s.size := by
  obtain ⟨hg, hz⟩ := lk_good s h
  cases hs : isSymB (lkM s)
  · exact ⟨nmT s, fun B bl T => nameOK (by omega) hs, GdL.one hg, by unfold nmT; simp only [jl_cons, jl_nil, tl_lk s h]; omega⟩
  · exact ⟨nmP s, fun B bl T => namePOK (by omega) hs, GdL.cons gd_lp (GdL.cons hg (GdL.one gd_rp)), by unfold nmP; simp only [jl_cons, jl_nil, tl_lk s h]; have h1 : tl1 ⟨8, [40], 0⟩ = 2 := rfl; have h2 : tl1 ⟨8, [41], 0⟩ = 2 := rfl; omega⟩
theorem str_oper (s : ByteArray) (h : lkM s = 1 ∨ lkM s = 2 ∨ lkM s = 3 ∨ lkM s = 4) : ∃ out : List TkT, (∀ B bl T, StrOK B bl T 92 s out 1) ∧ GdL out ∧ jl out ≤ 5 + s.size := by
  obtain ⟨hg, hz⟩ := lk_good s h
  cases hs : isSymB (lkM s)
  · exact ⟨opQ s, fun B bl T => operQOK (by omega) hs, GdL.cons gd_bq (GdL.cons hg (GdL.one gd_bq)), by unfold opQ; simp only [jl_cons, jl_nil, tl_lk s h]; have h1 : tl1 ⟨8, [96], 0⟩ = 2 := rfl; omega⟩
  · exact ⟨nmT s, fun B bl T => operatorOK (by omega) hs, GdL.one hg, by unfold nmT; simp only [jl_cons, jl_nil, tl_lk s h]; omega⟩
theorem isVar_lk {k : Int} (h : isVarB k = true) : k = 1 ∨ k = 2 ∨ k = 3 ∨ k = 4 := by
  unfold isVarB at h; simp at h; omega
theorem isCon_lk {k : Int} (h : isConB k = true) : k = 1 ∨ k = 2 ∨ k = 3 ∨ k = 4 := by
  unfold isConB at h; simp at h; omega
end Go.Proofs.YtndpebkiiemfpaaGreatDoor

namespace Go.Proofs.YtndpebkiiemfpaaGreatDoor
open Go.RowKit Go.Shelf Go.Maps
set_option linter.unusedVariables false

def Tl (s c f : Nat) (n : Nd) : Prop := ∃ out k, (∀ B bl T, TellOK B bl T f n out k) ∧ GdL out ∧ jl out + s ≤ 500 * c ∧ k + s ≤ 500 * c
def Sgn (s c f : Nat) (n : Nd) (sg : ByteArray) : Prop := ∃ out k, (∀ B bl T, SignOK B bl T f n sg out k) ∧ GdL out ∧ jl out + s ≤ 500 * c ∧ k + s ≤ 500 * c
def Ls (f : Nat) (l : List Nd) (S : Nat) : Prop := ∃ out k, (∀ B bl T, ListOK B bl T f l out k) ∧ GdL out ∧ jl out ≤ S ∧ k ≤ S
def Pl (l : List Nd) (b : TkT) (S : Nat) : Prop := ∃ out k, (∀ B bl T, PartOK B bl T l b out k) ∧ GdL out ∧ jl out ≤ S ∧ k ≤ S
theorem Tl.atom {c : Nat} {n : Nd} (h : Tl 50 c 23 n) : Tl 44 c 98 n := by
  obtain ⟨o, k, t, g, l, m⟩ := h
  cases ha : atomM n.kind n.kids.length
  · refine ⟨lpT :: (o ++ [rpT]), k, fun B bl T => atomNoG ha (t B bl T), GdL.cons gd_lp (GdL.app g (GdL.one gd_rp)), ?_, by omega⟩
    simp only [jl_cons, jl_app, jl_nil, tl_lp, tl_rp]; omega
  · exact ⟨o, k, fun B bl T => atomYesG ha (t B bl T), g, by omega, by omega⟩
theorem skol {l : List Nd} {Q : Nd → List TkT → Nat → Prop} (h : ∀ x ∈ l, ∃ o k, Q x o k) : ∃ (F : Nd → List TkT) (K : Nd → Nat), ∀ x ∈ l, Q x (F x) (K x) := by
  have h2 : ∀ x, ∃ p : List TkT × Nat, x ∈ l → Q x p.1 p.2 := fun x => by
    by_cases hx : x ∈ l
    · obtain ⟨o, k, hq⟩ := h x hx
      exact ⟨(o, k), fun _ => hq⟩
    · exact ⟨([], 0), fun hy => absurd hy hx⟩
  obtain ⟨f, hf⟩ := Classical.axiomOfChoice h2
  exact ⟨fun x => (f x).1, fun x => (f x).2, fun x hx => hf x hx⟩
theorem flat_len (F : Nd → List TkT) (c : Nd → Nat) (s : Nat) : ∀ l : List Nd, (∀ x ∈ l, jl (F x) + s ≤ 500 * c x) → jl (l.flatMap F) + s * l.length ≤ 500 * (l.map c).sum
  | [], _ => by simp [jl_nil]
  | x :: l, h => by
    have h1 := h x (by simp)
    have h2 := flat_len F c s l (fun y hy => h y (by simp [hy]))
    simp only [List.flatMap_cons, jl_app, List.length_cons, List.map_cons, List.sum_cons, Nat.mul_add, Nat.mul_one] at h2 ⊢
    omega
theorem sum_len (F : Nd → Nat) (c : Nd → Nat) (s : Nat) : ∀ l : List Nd, (∀ x ∈ l, F x + s ≤ 500 * c x) → (l.map F).sum + s * l.length ≤ 500 * (l.map c).sum
  | [], _ => by simp
  | x :: l, h => by
    have h1 := h x (by simp)
    have h2 := sum_len F c s l (fun y hy => h y (by simp [hy]))
    simp only [List.length_cons, List.map_cons, List.sum_cons, Nat.mul_add, Nat.mul_one] at h2 ⊢
    omega
theorem atoms_ls {c : Nd → Nat} {l : List Nd} (h : ∀ x ∈ l, Tl 50 (c x) 23 x) : Ls 93 l (500 * (l.map c).sum) := by
  obtain ⟨F, K, hF⟩ := skol (Q := fun x o k => (∀ B bl T, TellOK B bl T 98 x o k) ∧ GdL o ∧ jl o + 44 ≤ 500 * c x ∧ k + 44 ≤ 500 * c x) (fun x hx => (h x hx).atom)
  refine ⟨_, _, fun B bl T => atoms_ok F K (fun x hx => (hF x hx).1 B bl T), GdL.flat (fun x hx => (hF x hx).2.1), ?_, ?_⟩
  · have := flat_len F c 44 l (fun x hx => (hF x hx).2.2.1); omega
  · have := sum_len K c 44 l (fun x hx => (hF x hx).2.2.2); omega
theorem turns_ls {c : Nd → Nat} {l : List Nd} (h : ∀ x ∈ l, Tl 50 (c x) 23 x) : Ls 97 l (500 * (l.map c).sum) := by
  obtain ⟨F, K, hF⟩ := skol (Q := fun x o k => ((x.kind = 5 → ∀ B bl T, TellOK B bl T 23 x o k) ∧ (x.kind ≠ 5 → ∀ B bl T, TellOK B bl T 98 x o k)) ∧ GdL o ∧ jl o + 44 ≤ 500 * c x ∧ k + 44 ≤ 500 * c x) (fun x hx => by
    by_cases h5 : x.kind = 5
    · obtain ⟨o, k, t, g, l1, l2⟩ := h x hx
      exact ⟨o, k, ⟨fun _ => t, fun hn => absurd h5 hn⟩, g, by omega, by omega⟩
    · obtain ⟨o, k, t, g, l1, l2⟩ := (h x hx).atom
      exact ⟨o, k, ⟨fun hn => absurd hn h5, fun _ => t⟩, g, l1, l2⟩)
  refine ⟨_, _, fun B bl T => turns_ok F K (fun x hx => ⟨fun h5 => (hF x hx).1.1 h5 B bl T, fun h5 => (hF x hx).1.2 h5 B bl T⟩), GdL.flat (fun x hx => (hF x hx).2.1), ?_, ?_⟩
  · have := flat_len F c 44 l (fun x hx => (hF x hx).2.2.1); omega
  · have := sum_len K c 44 l (fun x hx => (hF x hx).2.2.2); omega
theorem block_ls {c : Nd → Nat} {l : List Nd} (h : ∀ x ∈ l, Tl 50 (c x) 23 x) : Ls 84 l (500 * (l.map c).sum + 4) := by
  obtain ⟨F, K, hF⟩ := skol (Q := fun x o k => (∀ B bl T, TellOK B bl T 23 x o k) ∧ GdL o ∧ jl o + 50 ≤ 500 * c x ∧ k + 50 ≤ 500 * c x) (fun x hx => h x hx)
  refine ⟨_, _, fun B bl T => block_ok F K (fun x hx => (hF x hx).1 B bl T), GdL.cons gd_lb (GdL.app (GdL.flat (fun x hx => GdL.app (hF x hx).2.1 (GdL.one gd_sc))) (GdL.one gd_rb)), ?_, ?_⟩
  · have := flat_len (fun x => F x ++ [scT]) c 48 l (fun x hx => by have := (hF x hx).2.2.1; simp only [jl_app, jl_cons, jl_nil, tl_sc]; omega)
    simp only [jl_cons, jl_app, jl_nil, tl_lb, tl_rb]; omega
  · have := sum_len K c 50 l (fun x hx => (hF x hx).2.2.2); omega
theorem parted_ls {c : Nd → Nat} {l : List Nd} (b : TkT) (hb : GdT b) (hb2 : tl1 b ≤ 9) (h : ∀ x ∈ l, Tl 50 (c x) 23 x) : Pl l b (500 * (l.map c).sum) := by
  obtain ⟨F, K, hF⟩ := skol (Q := fun x o k => (∀ B bl T, TellOK B bl T 23 x o k) ∧ GdL o ∧ jl o + 50 ≤ 500 * c x ∧ k + 50 ≤ 500 * c x) (fun x hx => h x hx)
  refine ⟨_, _, fun B bl T => parted_ok F K b (fun x hx => (hF x hx).1 B bl T), ?_, ?_, ?_⟩
  · cases l with
    | nil => exact GdL.nil
    | cons x r => exact GdL.app (hF x (by simp)).2.1 (GdL.flat (fun y hy => GdL.cons hb (hF y (by simp [hy])).2.1))
  · cases l with
    | nil => simp [jpT, jl_nil]
    | cons x r =>
      have h1 := (hF x (by simp)).2.2.1
      have h2 := flat_len (fun y => b :: F y) c 41 r (fun y hy => by have := (hF y (by simp [hy])).2.2.1; simp only [jl_cons]; omega)
      show jl (F x ++ r.flatMap (fun y => b :: F y)) ≤ _
      simp only [jl_app, List.map_cons, List.sum_cons]; omega
  · have := sum_len K c 50 l (fun x hx => (hF x hx).2.2.2); omega
/-- What is known of a node that is told. -/
def PT (c : Nat) (x : Nd) : Prop := Tl 50 c 23 x ∧ (x.kind = 8 → ∀ sg : ByteArray, GdT (sgT sg) → sg.size ≤ 2 → Sgn 50 c 94 x sg) ∧ (x.kind = 9 → ∀ sg : ByteArray, GdT (sgT sg) → sg.size ≤ 2 → Sgn 35 c 95 x sg)
theorem right_sg {c : Nd → Nat} {n : Nd} (sg : ByteArray) (hs : GdT (sgT sg)) (hz : sg.size ≤ 2) (h : ∀ x ∈ n.kids, PT (c x) x) : Sgn 50 (1 + n.name.length + (n.kids.map c).sum) 94 n sg := by
  obtain ⟨F, K, hF⟩ := skol (Q := fun x o k => ((x.kind = 9 → ∀ B bl T, SignOK B bl T 95 x sg o k) ∧ (x.kind = 10 → ∃ o2, o = whT :: o2 ∧ ∀ B bl T, TellOK B bl T 23 x o2 k) ∧ (x.kind ≠ 9 → x.kind ≠ 10 → ∃ o2, o = sgT sg :: o2 ∧ ∀ B bl T, TellOK B bl T 23 x o2 k)) ∧ GdL o ∧ jl o + 35 ≤ 500 * c x ∧ k + 35 ≤ 500 * c x) (fun x hx => by
    by_cases h9 : x.kind = 9
    · obtain ⟨o, k, t, g, l1, l2⟩ := (h x hx).2.2 h9 sg hs hz
      exact ⟨o, k, ⟨fun _ => t, fun e => by omega, fun e => absurd h9 e⟩, g, l1, l2⟩
    · obtain ⟨o, k, t, g, l1, l2⟩ := (h x hx).1
      by_cases h10 : x.kind = 10
      · exact ⟨whT :: o, k, ⟨fun e => absurd e h9, fun _ => ⟨o, rfl, t⟩, fun _ e => absurd h10 e⟩, GdL.cons gd_where g, by rw [jl_cons, tl_wh]; omega, by omega⟩
      · exact ⟨sgT sg :: o, k, ⟨fun e => absurd e h9, fun e => absurd e h10, fun _ _ => ⟨o, rfl, t⟩⟩, GdL.cons hs g, by rw [jl_cons, tl_sg]; omega, by omega⟩)
  refine ⟨_, _, fun B bl T => right_ok sg F K (fun x hx => ⟨fun e => (hF x hx).1.1 e B bl T, fun e => ?_, fun e1 e2 => ?_⟩), GdL.flat (fun x hx => (hF x hx).2.1), ?_, ?_⟩
  · obtain ⟨o2, e1, e2⟩ := (hF x hx).1.2.1 e
    exact ⟨o2, e1, e2 B bl T⟩
  · obtain ⟨o2, e3, e4⟩ := (hF x hx).1.2.2 e1 e2
    exact ⟨o2, e3, e4 B bl T⟩
  · have := flat_len F c 35 n.kids (fun x hx => (hF x hx).2.2.1); omega
  · have := sum_len K c 35 n.kids (fun x hx => (hF x hx).2.2.2); omega
/- What kids there are. -/
theorem fit_one {c : Int → Bool} {ps : List (List Int → Int)} {l : List Nd} (h : fitsB (oneP c :: ps) (kinds l) = true) : ∃ a r, l = a :: r ∧ c a.kind = true ∧ fitsB ps (kinds r) = true := by
  cases l with
  | nil => simp [kinds, fitsB, oneP] at h
  | cons a r =>
    refine ⟨a, r, rfl, ?_⟩
    have e : kinds (a :: r) = a.kind :: kinds r := rfl
    rw [e] at h
    unfold fitsB at h
    cases hc : c a.kind
    · have e1 : oneP c (a.kind :: kinds r) = -1 := by simp [oneP, hc]
      rw [e1] at h; simp at h
    · have e1 : oneP c (a.kind :: kinds r) = 1 := by simp [oneP, hc]
      rw [e1] at h
      exact ⟨rfl, by simpa using h⟩
theorem fit_none {l : List Nd} (h : fitsB [] (kinds l) = true) : l = [] := by
  cases l with
  | nil => rfl
  | cons a r => simp [kinds, fitsB] at h
theorem fit_last {p : List Int → Int} {c : Int → Bool} {l : List Nd} (h : fitsB [p, oneP c] (kinds l) = true) : ∃ ini z, l = ini ++ [z] ∧ c z.kind = true := by
  unfold fitsB at h
  by_cases hp : p (kinds l) < 0
  · rw [if_pos hp] at h; cases h
  · rw [if_neg hp] at h
    have e : (kinds l).drop (p (kinds l)).toNat = kinds (l.drop (p (kinds l)).toNat) := by simp [kinds, List.map_drop]
    rw [e] at h
    obtain ⟨z, r, h1, h2, h3⟩ := fit_one h
    have := fit_none h3
    subst this
    exact ⟨l.take (p (kinds l)).toNat, z, by rw [← h1, List.take_append_drop], h2⟩
theorem own_of {n : Nd} (h : ownM n = true) : ∃ ps, kp n.kind = some ps ∧ nameM n.kind (bs n.name) n.kids.length = true ∧ (0 ≤ n.num ∧ n.num ≤ gnM n.kind) ∧ fitsB ps (kinds n.kids) = true := by
  unfold ownM at h
  cases hk : kp n.kind with
  | none => rw [hk] at h; cases h
  | some ps =>
    rw [hk] at h
    simp only [Bool.and_eq_true] at h
    exact ⟨ps, rfl, h.1.1, by simpa [numM] using h.1.2, h.2⟩
theorem sz0 : ByteArray.size ⟨#[100, 111]⟩ = 2 := rfl
theorem sz1 : ByteArray.size ⟨#[100, 97, 116, 97]⟩ = 4 := rfl
theorem sz2 : ByteArray.size ⟨#[101, 108, 115, 101]⟩ = 4 := rfl
theorem sz3 : ByteArray.size ⟨#[105, 102]⟩ = 2 := rfl
theorem sz4 : ByteArray.size ⟨#[105, 110]⟩ = 2 := rfl
theorem sz5 : ByteArray.size ⟨#[108, 101, 116]⟩ = 3 := rfl
theorem sz6 : ByteArray.size ⟨#[111, 102]⟩ = 2 := rfl
theorem sz7 : ByteArray.size ⟨#[116, 104, 101, 110]⟩ = 4 := rfl
theorem sz8 : ByteArray.size ⟨#[119, 104, 101, 114, 101]⟩ = 5 := rfl
theorem sz9 : ByteArray.size ⟨#[123]⟩ = 1 := rfl
theorem sz10 : ByteArray.size ⟨#[124]⟩ = 1 := rfl
theorem sz11 : ByteArray.size ⟨#[125]⟩ = 1 := rfl
theorem sz12 : ByteArray.size ⟨#[126]⟩ = 1 := rfl
theorem sz13 : ByteArray.size ⟨#[40]⟩ = 1 := rfl
theorem sz14 : ByteArray.size ⟨#[41]⟩ = 1 := rfl
theorem sz15 : ByteArray.size ⟨#[44]⟩ = 1 := rfl
theorem sz16 : ByteArray.size ⟨#[45, 62]⟩ = 2 := rfl
theorem sz17 : ByteArray.size ⟨#[59]⟩ = 1 := rfl
theorem sz18 : ByteArray.size ⟨#[60, 45]⟩ = 2 := rfl
theorem sz19 : ByteArray.size ⟨#[61]⟩ = 1 := rfl
theorem sz20 : ByteArray.size ⟨#[64]⟩ = 1 := rfl
theorem sz21 : ByteArray.size ⟨#[91]⟩ = 1 := rfl
theorem sz22 : ByteArray.size ⟨#[92]⟩ = 1 := rfl
theorem sz23 : ByteArray.size ⟨#[93]⟩ = 1 := rfl
theorem sz24 : ByteArray.size ⟨#[95]⟩ = 1 := rfl
theorem sz25 : ByteArray.size ⟨#[96]⟩ = 1 := rfl
theorem sz26 : ByteArray.size ⟨#[99, 97, 115, 101]⟩ = 4 := rfl
theorem tk1 {c : Nd → Nat} {n : Nd} (hk : n.kind = 1) (h : ownM n = true) (hm : n.name.length ≤ 65536) (ih : ∀ x ∈ n.kids, PT (c x) x) : Tl 50 (1 + n.name.length + (n.kids.map c).sum) 23 n := by
  obtain ⟨ps, hps, hnm, hnu, hf⟩ := own_of h
  rw [hk] at hps hnm hnu
  obtain ⟨o0, u0, t0, g0, l0, m0⟩ := block_ls (c := c) (l := n.kids) (fun x hx => (ih x (hx)).1)
  refine ⟨_, _, fun B bl T => node_decl (by omega) (declProgram hk (t0 B bl T)), g0, ?_, ?_⟩
  all_goals ((first | simp only [hkids, List.map_cons, List.map_nil, List.sum_cons, List.sum_nil, List.map_append, List.sum_append, jl_app, jl_cons, jl_nil, ifP, ifC, fxT, tl_lp, tl_rp, tl_lb, tl_rb, tl_sc, tl_co, tl_wd, tl_sg, tl_mk, bs_size, Nat.add_zero, sz0, sz1, sz2, sz3, sz4, sz5, sz6, sz7, sz8, sz9, sz10, sz11, sz12, sz13, sz14, sz15, sz16, sz17, sz18, sz19, sz20, sz21, sz22, sz23, sz24, sz25, sz26] | simp only [jl_app, jl_cons, jl_nil, fxT, tl_lp, tl_rp, tl_co, tl_wd, tl_sg, tl_mk, bs_size, Nat.add_zero, sz0, sz1, sz2, sz3, sz4, sz5, sz6, sz7, sz8, sz9, sz10, sz11, sz12, sz13, sz14, sz15, sz16, sz17, sz18, sz19, sz20, sz21, sz22, sz23, sz24, sz25, sz26] | skip); omega)
theorem tk2 {c : Nd → Nat} {n : Nd} (hk : n.kind = 2) (h : ownM n = true) (hm : n.name.length ≤ 65536) (ih : ∀ x ∈ n.kids, PT (c x) x) : Tl 50 (1 + n.name.length + (n.kids.map c).sum) 23 n := by
  obtain ⟨ps, hps, hnm, hnu, hf⟩ := own_of h
  rw [hk] at hps hnm hnu
  have hlk : lkM (bs n.name) = 1 ∨ lkM (bs n.name) = 2 ∨ lkM (bs n.name) = 3 ∨ lkM (bs n.name) = 4 := by have : lkM (bs n.name) = 2 := (by simpa [nameM] using hnm); omega
  obtain ⟨o1, t1, g1, l1⟩ := str_name _ hlk
  rw [bs_size] at l1
  obtain ⟨o3, u3, t3, g3, l3, m3⟩ := parted_ls (c := c) (l := n.kids) (sgT ⟨#[124]⟩) gd_bar (by decide) (fun x hx => (ih x hx).1)
  refine ⟨_, _, fun B bl T => node_decl (by omega) (declData hk (t1 B bl T) (t3 B bl T)), GdL.app (GdL.app (GdL.app (GdL.one gd_data) (g1)) (GdL.one gd_eq)) (g3), ?_, ?_⟩
  all_goals ((first | simp only [hkids, List.map_cons, List.map_nil, List.sum_cons, List.sum_nil, List.map_append, List.sum_append, jl_app, jl_cons, jl_nil, ifP, ifC, tl_lb, tl_rb, tl_sc, tl_wd, tl_sg, Nat.add_zero, sz1, sz19] | simp only [jl_app, jl_cons, jl_nil, tl_wd, tl_sg, Nat.add_zero, sz1, sz19] | skip); omega)
theorem tk3 {c : Nd → Nat} {n : Nd} (hk : n.kind = 3) (h : ownM n = true) (hm : n.name.length ≤ 65536) (ih : ∀ x ∈ n.kids, PT (c x) x) : Tl 50 (1 + n.name.length + (n.kids.map c).sum) 23 n := by
  obtain ⟨ps, hps, hnm, hnu, hf⟩ := own_of h
  rw [hk] at hps hnm hnu
  have hlk : lkM (bs n.name) = 1 ∨ lkM (bs n.name) = 2 ∨ lkM (bs n.name) = 3 ∨ lkM (bs n.name) = 4 := by have : lkM (bs n.name) = 2 := (by simpa [nameM] using hnm); omega
  obtain ⟨o0, t0, g0, l0⟩ := str_name _ hlk
  rw [bs_size] at l0
  obtain ⟨N, hN⟩ := Int.eq_ofNat_of_zero_le hnu.1
  have hN2 : N ≤ 32 := by have h2 := hnu.2; have h3 : gnM 3 = 32 := rfl; rw [h3] at h2; omega
  have ha1 : ∀ B bl T, StrOK B bl T 87 ⟨#[97]⟩ (nmT ⟨#[97]⟩) 1 := fun B bl T => nameOK (by decide) (by rw [lk_a]; rfl)
  have hga : GdL (nmT ⟨#[97]⟩) := GdL.one (lk_good ⟨#[97]⟩ (.inl lk_a)).1
  have hfl : jl (List.replicate N (nmT ⟨#[97]⟩)).flatten = N * 2 := by
    have h1 : jl (nmT ⟨#[97]⟩) = 2 := (by unfold nmT; rw [jl_cons, jl_nil, tl_lk _ (.inl lk_a)]; rfl)
    rw [jl_rep, h1]
  refine ⟨_, _, fun B bl T => node_decl (by omega) (declConDef hk (t0 B bl T) (ha1 B bl T) hN (by omega)), GdL.app g0 (fun t ht => ?_), ?_, ?_⟩
  · obtain ⟨x, hx, hxt⟩ := List.mem_flatten.1 ht
    rw [(List.mem_replicate.1 hx).2] at hxt
    exact hga t hxt
  · rw [jl_app, hfl]; omega
  · omega
theorem tk4 {c : Nd → Nat} {n : Nd} (hk : n.kind = 4) (h : ownM n = true) (hm : n.name.length ≤ 65536) (ih : ∀ x ∈ n.kids, PT (c x) x) : Tl 50 (1 + n.name.length + (n.kids.map c).sum) 23 n := by
  obtain ⟨ps, hps, hnm, hnu, hf⟩ := own_of h
  rw [hk] at hps hnm hnu
  have hnf : GdT (wdT (bs n.name)) := by
    have h1 : isSideB (bs n.name) = true := by simpa [nameM] using hnm
    unfold isSideB at h1
    simp only [Bool.or_eq_true, beq_iff_eq] at h1
    rcases h1 with (h1 | h1) | h1
    · have e : wdT (bs n.name) = wdT ⟨#[105, 110, 102, 105, 120, 108]⟩ := by unfold wdT; rw [h1]
      rw [e]; exact gd_infixl
    · have e : wdT (bs n.name) = wdT ⟨#[105, 110, 102, 105, 120, 114]⟩ := by unfold wdT; rw [h1]
      rw [e]; exact gd_infixr
    · have e : wdT (bs n.name) = wdT ⟨#[105, 110, 102, 105, 120]⟩ := by unfold wdT; rw [h1]
      rw [e]; exact gd_infix
  have hgn : n.num ≤ 9 := hnu.2
  have htl := tl_num n.num ⟨hnu.1, by omega⟩
  obtain ⟨o1, u1, t1, g1, l1, m1⟩ := parted_ls (c := c) (l := n.kids) coT gd_co (by decide) (fun x hx => (ih x hx).1)
  refine ⟨_, _, fun B bl T => node_decl (by omega) (declFixity hk (t1 B bl T)), GdL.app (GdL.cons hnf (GdL.one (gd_num n.num ⟨hnu.1, by omega⟩))) g1, ?_, ?_⟩
  all_goals ((first | simp only [hkids, List.map_cons, List.map_nil, List.sum_cons, List.sum_nil, List.map_append, List.sum_append, jl_app, jl_cons, jl_nil, ifP, ifC, fxT, tl_lb, tl_rb, tl_sc, tl_wd, bs_size, Nat.add_zero] | simp only [jl_app, jl_cons, jl_nil, fxT, tl_wd, bs_size, Nat.add_zero] | skip); omega)
theorem tk5 {c : Nd → Nat} {n : Nd} (hk : n.kind = 5) (h : ownM n = true) (hm : n.name.length ≤ 65536) (ih : ∀ x ∈ n.kids, PT (c x) x) : Tl 50 (1 + n.name.length + (n.kids.map c).sum) 23 n := by
  obtain ⟨ps, hps, hnm, hnu, hf⟩ := own_of h
  rw [hk] at hps hnm hnu
  have hlk : lkM (bs n.name) = 1 ∨ lkM (bs n.name) = 2 ∨ lkM (bs n.name) = 3 ∨ lkM (bs n.name) = 4 := by
    have : isVarB (lkM (bs n.name)) = true ∨ isConB (lkM (bs n.name)) = true := (by simpa [nameM] using hnm)
    exact this.elim isVar_lk isCon_lk
  obtain ⟨o0, t0, g0, l0⟩ := str_oper _ hlk
  rw [bs_size] at l0
  refine ⟨_, _, fun B bl T => node_decl (by omega) (declOpN hk (t0 B bl T)), g0, ?_, ?_⟩
  all_goals ((first | simp only [hkids, List.map_cons, List.map_nil, List.sum_cons, List.sum_nil, List.map_append, List.sum_append, jl_app, jl_cons, jl_nil, ifP, ifC, fxT, tl_lp, tl_rp, tl_lb, tl_rb, tl_sc, tl_co, tl_wd, tl_sg, tl_mk, bs_size, Nat.add_zero, sz0, sz1, sz2, sz3, sz4, sz5, sz6, sz7, sz8, sz9, sz10, sz11, sz12, sz13, sz14, sz15, sz16, sz17, sz18, sz19, sz20, sz21, sz22, sz23, sz24, sz25, sz26] | simp only [jl_app, jl_cons, jl_nil, fxT, tl_lp, tl_rp, tl_co, tl_wd, tl_sg, tl_mk, bs_size, Nat.add_zero, sz0, sz1, sz2, sz3, sz4, sz5, sz6, sz7, sz8, sz9, sz10, sz11, sz12, sz13, sz14, sz15, sz16, sz17, sz18, sz19, sz20, sz21, sz22, sz23, sz24, sz25, sz26] | skip); omega)
theorem tk6 {c : Nd → Nat} {n : Nd} (hk : n.kind = 6) (h : ownM n = true) (hm : n.name.length ≤ 65536) (ih : ∀ x ∈ n.kids, PT (c x) x) : Tl 50 (1 + n.name.length + (n.kids.map c).sum) 23 n := by
  obtain ⟨ps, hps, hnm, hnu, hf⟩ := own_of h
  rw [hk] at hps hnm hnu
  obtain rfl := Option.some.inj hps
  obtain ⟨ini, z, hkids, hb⟩ := fit_last hf
  have hlk := isVar_lk (k := lkM (bs n.name)) (by simpa [nameM] using hnm)
  obtain ⟨o0, t0, g0, l0⟩ := str_name _ hlk
  rw [bs_size] at l0
  obtain ⟨o1, u1, t1, g1, l1, m1⟩ := atoms_ls (c := c) (l := ini) (fun x hx => (ih x (by rw [hkids]; simp [hx])).1)
  obtain ⟨o2, u2, t2, g2, l2, m2⟩ := (ih z (by rw [hkids]; simp)).2.1 (by simpa [onlyB] using hb) ⟨#[61]⟩ gd_eq (by decide)
  refine ⟨_, _, fun B bl T => node_decl (by omega) (declEqn hk hkids (t0 B bl T) (t1 B bl T) (t2 B bl T)), GdL.app (GdL.app (g0) (g1)) (g2), ?_, ?_⟩
  all_goals ((first | simp only [hkids, List.map_cons, List.map_nil, List.sum_cons, List.sum_nil, List.map_append, List.sum_append, jl_app, Nat.add_zero] | simp only [jl_app, jl_cons, jl_nil, fxT, tl_lp, tl_rp, tl_co, tl_wd, tl_sg, tl_mk, bs_size, Nat.add_zero, sz0, sz1, sz2, sz3, sz4, sz5, sz6, sz7, sz8, sz9, sz10, sz11, sz12, sz13, sz14, sz15, sz16, sz17, sz18, sz19, sz20, sz21, sz22, sz23, sz24, sz25, sz26] | skip); omega)
theorem tk7 {c : Nd → Nat} {n : Nd} (hk : n.kind = 7) (h : ownM n = true) (hm : n.name.length ≤ 65536) (ih : ∀ x ∈ n.kids, PT (c x) x) : Tl 50 (1 + n.name.length + (n.kids.map c).sum) 23 n := by
  obtain ⟨ps, hps, hnm, hnu, hf⟩ := own_of h
  rw [hk] at hps hnm hnu
  obtain rfl := Option.some.inj hps
  obtain ⟨a, r, hkids, ha, hf2⟩ := fit_one hf
  obtain ⟨b, r, rfl, hb, hf3⟩ := fit_one hf2
  obtain rfl := fit_none hf3
  obtain ⟨o0, u0, t0, g0, l0, m0⟩ := (ih a (by rw [hkids]; simp)).1
  obtain ⟨o1, u1, t1, g1, l1, m1⟩ := (ih b (by rw [hkids]; simp)).2.1 (by simpa [onlyB] using hb) ⟨#[61]⟩ gd_eq (by decide)
  refine ⟨_, _, fun B bl T => node_decl (by omega) (declBind hk hkids (t0 B bl T) (t1 B bl T)), GdL.app (g0) (g1), ?_, ?_⟩
  all_goals ((first | simp only [hkids, List.map_cons, List.map_nil, List.sum_cons, List.sum_nil, jl_app, Nat.add_zero] | simp only [jl_app, jl_cons, jl_nil, fxT, tl_lp, tl_rp, tl_co, tl_wd, tl_sg, tl_mk, bs_size, Nat.add_zero, sz0, sz1, sz2, sz3, sz4, sz5, sz6, sz7, sz8, sz9, sz10, sz11, sz12, sz13, sz14, sz15, sz16, sz17, sz18, sz19, sz20, sz21, sz22, sz23, sz24, sz25, sz26] | skip); omega)
theorem tk8 {c : Nd → Nat} {n : Nd} (hk : n.kind = 8) (h : ownM n = true) (hm : n.name.length ≤ 65536) (ih : ∀ x ∈ n.kids, PT (c x) x) : Tl 50 (1 + n.name.length + (n.kids.map c).sum) 23 n := by
  obtain ⟨ps, hps, hnm, hnu, hf⟩ := own_of h
  rw [hk] at hps hnm hnu
  obtain ⟨o0, u0, t0, g0, l0, m0⟩ := right_sg (c := c) (n := n) ⟨#[61]⟩ gd_eq (by decide) ih
  refine ⟨_, _, fun B bl T => node_decl (by omega) (declRhs hk (t0 B bl T)), g0, ?_, ?_⟩
  all_goals ((first | simp only [hkids, List.map_cons, List.map_nil, List.sum_cons, List.sum_nil, List.map_append, List.sum_append, jl_app, jl_cons, jl_nil, ifP, ifC, fxT, tl_lp, tl_rp, tl_lb, tl_rb, tl_sc, tl_co, tl_wd, tl_sg, tl_mk, bs_size, Nat.add_zero, sz0, sz1, sz2, sz3, sz4, sz5, sz6, sz7, sz8, sz9, sz10, sz11, sz12, sz13, sz14, sz15, sz16, sz17, sz18, sz19, sz20, sz21, sz22, sz23, sz24, sz25, sz26] | simp only [jl_app, jl_cons, jl_nil, fxT, tl_lp, tl_rp, tl_co, tl_wd, tl_sg, tl_mk, bs_size, Nat.add_zero, sz0, sz1, sz2, sz3, sz4, sz5, sz6, sz7, sz8, sz9, sz10, sz11, sz12, sz13, sz14, sz15, sz16, sz17, sz18, sz19, sz20, sz21, sz22, sz23, sz24, sz25, sz26] | skip); omega)
theorem tk9 {c : Nd → Nat} {n : Nd} (hk : n.kind = 9) (h : ownM n = true) (hm : n.name.length ≤ 65536) (ih : ∀ x ∈ n.kids, PT (c x) x) : Tl 50 (1 + n.name.length + (n.kids.map c).sum) 23 n := by
  obtain ⟨ps, hps, hnm, hnu, hf⟩ := own_of h
  rw [hk] at hps hnm hnu
  obtain rfl := Option.some.inj hps
  obtain ⟨a, r, hkids, ha, hf2⟩ := fit_one hf
  obtain ⟨b, r, rfl, hb, hf3⟩ := fit_one hf2
  obtain rfl := fit_none hf3
  obtain ⟨o1, u1, t1, g1, l1, m1⟩ := (ih a (by rw [hkids]; simp)).1
  obtain ⟨o3, u3, t3, g3, l3, m3⟩ := (ih b (by rw [hkids]; simp)).1
  refine ⟨_, _, fun B bl T => node_decl (by omega) (declGuard hk (guardS ⟨#[61]⟩ hkids (t1 B bl T) (t3 B bl T))), GdL.app (GdL.app (GdL.app (GdL.one gd_bar) (g1)) (GdL.one gd_eq)) (g3), ?_, ?_⟩
  all_goals ((first | simp only [hkids, List.map_cons, List.map_nil, List.sum_cons, List.sum_nil, jl_app, jl_cons, jl_nil, tl_sg, Nat.add_zero, sz10, sz19] | simp only [jl_app, jl_cons, jl_nil, fxT, tl_lp, tl_rp, tl_co, tl_wd, tl_sg, tl_mk, bs_size, Nat.add_zero, sz0, sz1, sz2, sz3, sz4, sz5, sz6, sz7, sz8, sz9, sz10, sz11, sz12, sz13, sz14, sz15, sz16, sz17, sz18, sz19, sz20, sz21, sz22, sz23, sz24, sz25, sz26] | skip); omega)
theorem tk10 {c : Nd → Nat} {n : Nd} (hk : n.kind = 10) (h : ownM n = true) (hm : n.name.length ≤ 65536) (ih : ∀ x ∈ n.kids, PT (c x) x) : Tl 50 (1 + n.name.length + (n.kids.map c).sum) 23 n := by
  obtain ⟨ps, hps, hnm, hnu, hf⟩ := own_of h
  rw [hk] at hps hnm hnu
  obtain ⟨o0, u0, t0, g0, l0, m0⟩ := block_ls (c := c) (l := n.kids) (fun x hx => (ih x (hx)).1)
  refine ⟨_, _, fun B bl T => node_decl (by omega) (declWhere hk (t0 B bl T)), g0, ?_, ?_⟩
  all_goals ((first | simp only [hkids, List.map_cons, List.map_nil, List.sum_cons, List.sum_nil, List.map_append, List.sum_append, jl_app, jl_cons, jl_nil, ifP, ifC, fxT, tl_lp, tl_rp, tl_lb, tl_rb, tl_sc, tl_co, tl_wd, tl_sg, tl_mk, bs_size, Nat.add_zero, sz0, sz1, sz2, sz3, sz4, sz5, sz6, sz7, sz8, sz9, sz10, sz11, sz12, sz13, sz14, sz15, sz16, sz17, sz18, sz19, sz20, sz21, sz22, sz23, sz24, sz25, sz26] | simp only [jl_app, jl_cons, jl_nil, fxT, tl_lp, tl_rp, tl_co, tl_wd, tl_sg, tl_mk, bs_size, Nat.add_zero, sz0, sz1, sz2, sz3, sz4, sz5, sz6, sz7, sz8, sz9, sz10, sz11, sz12, sz13, sz14, sz15, sz16, sz17, sz18, sz19, sz20, sz21, sz22, sz23, sz24, sz25, sz26] | skip); omega)
theorem tk11 {c : Nd → Nat} {n : Nd} (hk : n.kind = 11) (h : ownM n = true) (hm : n.name.length ≤ 65536) (ih : ∀ x ∈ n.kids, PT (c x) x) : Tl 50 (1 + n.name.length + (n.kids.map c).sum) 23 n := by
  obtain ⟨ps, hps, hnm, hnu, hf⟩ := own_of h
  rw [hk] at hps hnm hnu
  have hlk := isVar_lk (k := lkM (bs n.name)) (by simpa [nameM] using hnm)
  obtain ⟨o0, t0, g0, l0⟩ := str_name _ hlk
  rw [bs_size] at l0
  refine ⟨_, _, fun B bl T => node_expr (by omega) (by omega) (exprVarN hk (t0 B bl T)), g0, ?_, ?_⟩
  all_goals ((first | simp only [hkids, List.map_cons, List.map_nil, List.sum_cons, List.sum_nil, List.map_append, List.sum_append, jl_app, jl_cons, jl_nil, ifP, ifC, fxT, tl_lp, tl_rp, tl_lb, tl_rb, tl_sc, tl_co, tl_wd, tl_sg, tl_mk, bs_size, Nat.add_zero, sz0, sz1, sz2, sz3, sz4, sz5, sz6, sz7, sz8, sz9, sz10, sz11, sz12, sz13, sz14, sz15, sz16, sz17, sz18, sz19, sz20, sz21, sz22, sz23, sz24, sz25, sz26] | simp only [jl_app, jl_cons, jl_nil, fxT, tl_lp, tl_rp, tl_co, tl_wd, tl_sg, tl_mk, bs_size, Nat.add_zero, sz0, sz1, sz2, sz3, sz4, sz5, sz6, sz7, sz8, sz9, sz10, sz11, sz12, sz13, sz14, sz15, sz16, sz17, sz18, sz19, sz20, sz21, sz22, sz23, sz24, sz25, sz26] | skip); omega)
theorem tk12 {c : Nd → Nat} {n : Nd} (hk : n.kind = 12) (h : ownM n = true) (hm : n.name.length ≤ 65536) (ih : ∀ x ∈ n.kids, PT (c x) x) : Tl 50 (1 + n.name.length + (n.kids.map c).sum) 23 n := by
  obtain ⟨ps, hps, hnm, hnu, hf⟩ := own_of h
  rw [hk] at hps hnm hnu
  have hlk := isCon_lk (k := lkM (bs n.name)) (by simpa [nameM] using hnm)
  obtain ⟨o0, t0, g0, l0⟩ := str_name _ hlk
  rw [bs_size] at l0
  refine ⟨_, _, fun B bl T => node_expr (by omega) (by omega) (exprCon hk (t0 B bl T)), g0, ?_, ?_⟩
  all_goals ((first | simp only [hkids, List.map_cons, List.map_nil, List.sum_cons, List.sum_nil, List.map_append, List.sum_append, jl_app, jl_cons, jl_nil, ifP, ifC, fxT, tl_lp, tl_rp, tl_lb, tl_rb, tl_sc, tl_co, tl_wd, tl_sg, tl_mk, bs_size, Nat.add_zero, sz0, sz1, sz2, sz3, sz4, sz5, sz6, sz7, sz8, sz9, sz10, sz11, sz12, sz13, sz14, sz15, sz16, sz17, sz18, sz19, sz20, sz21, sz22, sz23, sz24, sz25, sz26] | simp only [jl_app, jl_cons, jl_nil, fxT, tl_lp, tl_rp, tl_co, tl_wd, tl_sg, tl_mk, bs_size, Nat.add_zero, sz0, sz1, sz2, sz3, sz4, sz5, sz6, sz7, sz8, sz9, sz10, sz11, sz12, sz13, sz14, sz15, sz16, sz17, sz18, sz19, sz20, sz21, sz22, sz23, sz24, sz25, sz26] | skip); omega)
theorem tk13 {c : Nd → Nat} {n : Nd} (hk : n.kind = 13) (h : ownM n = true) (hm : n.name.length ≤ 65536) (ih : ∀ x ∈ n.kids, PT (c x) x) : Tl 50 (1 + n.name.length + (n.kids.map c).sum) 23 n := by
  obtain ⟨ps, hps, hnm, hnu, hf⟩ := own_of h
  rw [hk] at hps hnm hnu
  have hgn : n.num ≤ 9223372036854775807 := hnu.2
  have htl := tl_num n.num ⟨hnu.1, hgn⟩
  refine ⟨_, _, fun B bl T => node_expr (by omega) (by omega) (exprInt hk), GdL.one (gd_num n.num ⟨hnu.1, hgn⟩), ?_, ?_⟩
  all_goals ((first | simp only [hkids, List.map_cons, List.map_nil, List.sum_cons, List.sum_nil, List.map_append, List.sum_append, jl_cons, jl_nil, ifP, ifC, tl_lb, tl_rb, tl_sc, Nat.add_zero] | simp only [jl_cons, jl_nil, Nat.add_zero] | skip); omega)
theorem tk14 {c : Nd → Nat} {n : Nd} (hk : n.kind = 14) (h : ownM n = true) (hm : n.name.length ≤ 65536) (ih : ∀ x ∈ n.kids, PT (c x) x) : Tl 50 (1 + n.name.length + (n.kids.map c).sum) 23 n := by
  obtain ⟨ps, hps, hnm, hnu, hf⟩ := own_of h
  rw [hk] at hps hnm hnu
  have hgn : n.num ≤ 255 := hnu.2
  have htl := tl_chr n.num
  refine ⟨_, _, fun B bl T => node_expr (by omega) (by omega) (tellChar hk), GdL.one (gd_chr n.num ⟨hnu.1, hgn⟩), ?_, ?_⟩
  all_goals ((first | simp only [hkids, List.map_cons, List.map_nil, List.sum_cons, List.sum_nil, List.map_append, List.sum_append, jl_cons, jl_nil, ifP, ifC, tl_lb, tl_rb, tl_sc, Nat.add_zero] | simp only [jl_cons, jl_nil, Nat.add_zero] | skip); omega)
theorem tk15 {c : Nd → Nat} {n : Nd} (hk : n.kind = 15) (h : ownM n = true) (hm : n.name.length ≤ 65536) (ih : ∀ x ∈ n.kids, PT (c x) x) : Tl 50 (1 + n.name.length + (n.kids.map c).sum) 23 n := by
  obtain ⟨ps, hps, hnm, hnu, hf⟩ := own_of h
  rw [hk] at hps hnm hnu
  have htl := tl_str n.name
  refine ⟨_, _, fun B bl T => node_expr (by omega) (by omega) (tellStr hk), GdL.one (gd_str n.name hm), ?_, ?_⟩
  all_goals ((first | simp only [hkids, List.map_cons, List.map_nil, List.sum_cons, List.sum_nil, List.map_append, List.sum_append, jl_cons, jl_nil, ifP, ifC, tl_lb, tl_rb, tl_sc, Nat.add_zero] | simp only [jl_cons, jl_nil, Nat.add_zero] | skip); omega)
theorem tk16 {c : Nd → Nat} {n : Nd} (hk : n.kind = 16) (h : ownM n = true) (hm : n.name.length ≤ 65536) (ih : ∀ x ∈ n.kids, PT (c x) x) : Tl 50 (1 + n.name.length + (n.kids.map c).sum) 23 n := by
  obtain ⟨ps, hps, hnm, hnu, hf⟩ := own_of h
  rw [hk] at hps hnm hnu
  obtain ⟨o0, u0, t0, g0, l0, m0⟩ := atoms_ls (c := c) (l := n.kids) (fun x hx => (ih x (hx)).1)
  refine ⟨_, _, fun B bl T => node_expr (by omega) (by omega) (exprApp hk (t0 B bl T)), g0, ?_, ?_⟩
  all_goals ((first | simp only [hkids, List.map_cons, List.map_nil, List.sum_cons, List.sum_nil, List.map_append, List.sum_append, jl_app, jl_cons, jl_nil, ifP, ifC, fxT, tl_lp, tl_rp, tl_lb, tl_rb, tl_sc, tl_co, tl_wd, tl_sg, tl_mk, bs_size, Nat.add_zero, sz0, sz1, sz2, sz3, sz4, sz5, sz6, sz7, sz8, sz9, sz10, sz11, sz12, sz13, sz14, sz15, sz16, sz17, sz18, sz19, sz20, sz21, sz22, sz23, sz24, sz25, sz26] | simp only [jl_app, jl_cons, jl_nil, fxT, tl_lp, tl_rp, tl_co, tl_wd, tl_sg, tl_mk, bs_size, Nat.add_zero, sz0, sz1, sz2, sz3, sz4, sz5, sz6, sz7, sz8, sz9, sz10, sz11, sz12, sz13, sz14, sz15, sz16, sz17, sz18, sz19, sz20, sz21, sz22, sz23, sz24, sz25, sz26] | skip); omega)
theorem tk17 {c : Nd → Nat} {n : Nd} (hk : n.kind = 17) (h : ownM n = true) (hm : n.name.length ≤ 65536) (ih : ∀ x ∈ n.kids, PT (c x) x) : Tl 50 (1 + n.name.length + (n.kids.map c).sum) 23 n := by
  obtain ⟨ps, hps, hnm, hnu, hf⟩ := own_of h
  rw [hk] at hps hnm hnu
  obtain ⟨o0, u0, t0, g0, l0, m0⟩ := turns_ls (c := c) (l := n.kids) (fun x hx => (ih x (hx)).1)
  refine ⟨_, _, fun B bl T => node_expr (by omega) (by omega) (exprOps hk (t0 B bl T)), g0, ?_, ?_⟩
  all_goals ((first | simp only [hkids, List.map_cons, List.map_nil, List.sum_cons, List.sum_nil, List.map_append, List.sum_append, jl_app, jl_cons, jl_nil, ifP, ifC, fxT, tl_lp, tl_rp, tl_lb, tl_rb, tl_sc, tl_co, tl_wd, tl_sg, tl_mk, bs_size, Nat.add_zero, sz0, sz1, sz2, sz3, sz4, sz5, sz6, sz7, sz8, sz9, sz10, sz11, sz12, sz13, sz14, sz15, sz16, sz17, sz18, sz19, sz20, sz21, sz22, sz23, sz24, sz25, sz26] | simp only [jl_app, jl_cons, jl_nil, fxT, tl_lp, tl_rp, tl_co, tl_wd, tl_sg, tl_mk, bs_size, Nat.add_zero, sz0, sz1, sz2, sz3, sz4, sz5, sz6, sz7, sz8, sz9, sz10, sz11, sz12, sz13, sz14, sz15, sz16, sz17, sz18, sz19, sz20, sz21, sz22, sz23, sz24, sz25, sz26] | skip); omega)
theorem tk18 {c : Nd → Nat} {n : Nd} (hk : n.kind = 18) (h : ownM n = true) (hm : n.name.length ≤ 65536) (ih : ∀ x ∈ n.kids, PT (c x) x) : Tl 50 (1 + n.name.length + (n.kids.map c).sum) 23 n := by
  obtain ⟨ps, hps, hnm, hnu, hf⟩ := own_of h
  rw [hk] at hps hnm hnu
  obtain rfl := Option.some.inj hps
  obtain ⟨a, r, hkids, ha, hf2⟩ := fit_one hf
  obtain rfl := fit_none hf2
  obtain ⟨o0, t0, g0, l0⟩ := str_oper ⟨#[45]⟩ (by rw [lk_minus]; omega)
  have l0 : jl o0 ≤ 6 := l0
  obtain ⟨o1, u1, t1, g1, l1, m1⟩ := (ih a (by rw [hkids]; simp)).1.atom
  refine ⟨_, _, fun B bl T => node_expr (by omega) (by omega) (exprNeg hk hkids (t0 B bl T) (t1 B bl T)), GdL.app (g0) (g1), ?_, ?_⟩
  all_goals ((first | simp only [hkids, List.map_cons, List.map_nil, List.sum_cons, List.sum_nil, jl_app, Nat.add_zero] | simp only [jl_app, jl_cons, jl_nil, fxT, tl_lp, tl_rp, tl_co, tl_wd, tl_sg, tl_mk, bs_size, Nat.add_zero, sz0, sz1, sz2, sz3, sz4, sz5, sz6, sz7, sz8, sz9, sz10, sz11, sz12, sz13, sz14, sz15, sz16, sz17, sz18, sz19, sz20, sz21, sz22, sz23, sz24, sz25, sz26] | skip); omega)
theorem tk19 {c : Nd → Nat} {n : Nd} (hk : n.kind = 19) (h : ownM n = true) (hm : n.name.length ≤ 65536) (ih : ∀ x ∈ n.kids, PT (c x) x) : Tl 50 (1 + n.name.length + (n.kids.map c).sum) 23 n := by
  obtain ⟨ps, hps, hnm, hnu, hf⟩ := own_of h
  rw [hk] at hps hnm hnu
  obtain rfl := Option.some.inj hps
  obtain ⟨ini, z, hkids, hb⟩ := fit_last hf
  obtain ⟨o1, u1, t1, g1, l1, m1⟩ := atoms_ls (c := c) (l := ini) (fun x hx => (ih x (by rw [hkids]; simp [hx])).1)
  obtain ⟨o3, u3, t3, g3, l3, m3⟩ := (ih z (by rw [hkids]; simp)).1
  refine ⟨_, _, fun B bl T => node_expr (by omega) (by omega) (exprLam hk (conLam hk hkids (t1 B bl T) (t3 B bl T))), GdL.app (GdL.app (GdL.app (GdL.one gd_lam) (g1)) (GdL.one gd_to)) (g3), ?_, ?_⟩
  all_goals ((first | simp only [hkids, List.map_cons, List.map_nil, List.sum_cons, List.sum_nil, List.map_append, List.sum_append, jl_app, jl_cons, jl_nil, tl_sg, Nat.add_zero, sz16, sz22] | simp only [jl_app, jl_cons, jl_nil, fxT, tl_lp, tl_rp, tl_co, tl_wd, tl_sg, tl_mk, bs_size, Nat.add_zero, sz0, sz1, sz2, sz3, sz4, sz5, sz6, sz7, sz8, sz9, sz10, sz11, sz12, sz13, sz14, sz15, sz16, sz17, sz18, sz19, sz20, sz21, sz22, sz23, sz24, sz25, sz26] | skip); omega)
theorem tk20 {c : Nd → Nat} {n : Nd} (hk : n.kind = 20) (h : ownM n = true) (hm : n.name.length ≤ 65536) (ih : ∀ x ∈ n.kids, PT (c x) x) : Tl 50 (1 + n.name.length + (n.kids.map c).sum) 23 n := by
  obtain ⟨ps, hps, hnm, hnu, hf⟩ := own_of h
  rw [hk] at hps hnm hnu
  obtain rfl := Option.some.inj hps
  obtain ⟨a, r, hkids, ha, hf2⟩ := fit_one hf
  obtain ⟨b, r, rfl, hb, hf3⟩ := fit_one hf2
  obtain rfl := fit_none hf3
  obtain ⟨o1, u1, t1, g1, l1, m1⟩ := (ih a (by rw [hkids]; simp)).1
  obtain ⟨o3, u3, t3, g3, l3, m3⟩ := (ih b (by rw [hkids]; simp)).1
  refine ⟨_, _, fun B bl T => node_expr (by omega) (by omega) (exprK20 hk (conLet hk hkids (t1 B bl T) (t3 B bl T))), GdL.app (GdL.app (GdL.app (GdL.one gd_let) (g1)) (GdL.one gd_in)) (g3), ?_, ?_⟩
  all_goals ((first | simp only [hkids, List.map_cons, List.map_nil, List.sum_cons, List.sum_nil, jl_app, jl_cons, jl_nil, tl_wd, Nat.add_zero, sz4, sz5] | simp only [jl_app, jl_cons, jl_nil, fxT, tl_lp, tl_rp, tl_co, tl_wd, tl_sg, tl_mk, bs_size, Nat.add_zero, sz0, sz1, sz2, sz3, sz4, sz5, sz6, sz7, sz8, sz9, sz10, sz11, sz12, sz13, sz14, sz15, sz16, sz17, sz18, sz19, sz20, sz21, sz22, sz23, sz24, sz25, sz26] | skip); omega)
theorem tk21 {c : Nd → Nat} {n : Nd} (hk : n.kind = 21) (h : ownM n = true) (hm : n.name.length ≤ 65536) (ih : ∀ x ∈ n.kids, PT (c x) x) : Tl 50 (1 + n.name.length + (n.kids.map c).sum) 23 n := by
  obtain ⟨ps, hps, hnm, hnu, hf⟩ := own_of h
  rw [hk] at hps hnm hnu
  obtain rfl := Option.some.inj hps
  obtain ⟨a, r, hkids, ha, hf2⟩ := fit_one hf
  obtain ⟨b, r, rfl, hb, hf3⟩ := fit_one hf2
  obtain ⟨d, r, rfl, hd, hf4⟩ := fit_one hf3
  obtain rfl := fit_none hf4
  obtain ⟨o0, u0, t0, g0, l0, m0⟩ := (ih a (by rw [hkids]; simp)).1
  obtain ⟨o1, u1, t1, g1, l1, m1⟩ := (ih b (by rw [hkids]; simp)).1
  obtain ⟨o2, u2, t2, g2, l2, m2⟩ := (ih d (by rw [hkids]; simp)).1
  refine ⟨_, _, fun B bl T => node_expr (by omega) (by omega) (exprK21 hk (conIf hk hkids (t0 B bl T) (t1 B bl T) (t2 B bl T))), GdL.app (GdL.app (GdL.cons gd_if g0) (GdL.cons gd_then g1)) (GdL.cons gd_else g2), ?_, ?_⟩
  all_goals ((first | simp only [hkids, List.map_cons, List.map_nil, List.sum_cons, List.sum_nil, jl_app, jl_cons, ifP, ifC, tl_wd, Nat.add_zero, sz2, sz3, sz7] | simp only [jl_app, jl_cons, jl_nil, fxT, tl_lp, tl_rp, tl_co, tl_wd, tl_sg, tl_mk, bs_size, Nat.add_zero, sz0, sz1, sz2, sz3, sz4, sz5, sz6, sz7, sz8, sz9, sz10, sz11, sz12, sz13, sz14, sz15, sz16, sz17, sz18, sz19, sz20, sz21, sz22, sz23, sz24, sz25, sz26] | skip); omega)
theorem tk22 {c : Nd → Nat} {n : Nd} (hk : n.kind = 22) (h : ownM n = true) (hm : n.name.length ≤ 65536) (ih : ∀ x ∈ n.kids, PT (c x) x) : Tl 50 (1 + n.name.length + (n.kids.map c).sum) 23 n := by
  obtain ⟨ps, hps, hnm, hnu, hf⟩ := own_of h
  rw [hk] at hps hnm hnu
  obtain rfl := Option.some.inj hps
  obtain ⟨a, rest, hkids, ha, hf2⟩ := fit_one hf
  obtain ⟨o1, u1, t1, g1, l1, m1⟩ := (ih a (by rw [hkids]; simp)).1
  obtain ⟨o3, u3, t3, g3, l3, m3⟩ := block_ls (c := c) (l := rest) (fun x hx => (ih x (by rw [hkids]; simp [hx])).1)
  refine ⟨_, _, fun B bl T => node_expr (by omega) (by omega) (exprK22 hk (conCase hk hkids (t1 B bl T) (t3 B bl T))), GdL.app (GdL.app (GdL.app (GdL.one gd_case) (g1)) (GdL.one gd_of)) (g3), ?_, ?_⟩
  all_goals ((first | simp only [hkids, List.map_cons, List.sum_cons, jl_app, jl_cons, jl_nil, tl_wd, Nat.add_zero, sz6, sz26] | simp only [jl_app, jl_cons, jl_nil, fxT, tl_lp, tl_rp, tl_co, tl_wd, tl_sg, tl_mk, bs_size, Nat.add_zero, sz0, sz1, sz2, sz3, sz4, sz5, sz6, sz7, sz8, sz9, sz10, sz11, sz12, sz13, sz14, sz15, sz16, sz17, sz18, sz19, sz20, sz21, sz22, sz23, sz24, sz25, sz26] | skip); omega)
theorem tk23 {c : Nd → Nat} {n : Nd} (hk : n.kind = 23) (h : ownM n = true) (hm : n.name.length ≤ 65536) (ih : ∀ x ∈ n.kids, PT (c x) x) : Tl 50 (1 + n.name.length + (n.kids.map c).sum) 23 n := by
  obtain ⟨ps, hps, hnm, hnu, hf⟩ := own_of h
  rw [hk] at hps hnm hnu
  obtain rfl := Option.some.inj hps
  obtain ⟨a, r, hkids, ha, hf2⟩ := fit_one hf
  obtain ⟨b, r, rfl, hb, hf3⟩ := fit_one hf2
  obtain rfl := fit_none hf3
  obtain ⟨o0, u0, t0, g0, l0, m0⟩ := (ih a (by rw [hkids]; simp)).1
  obtain ⟨o1, u1, t1, g1, l1, m1⟩ := (ih b (by rw [hkids]; simp)).2.1 (by simpa [onlyB] using hb) ⟨#[45, 62]⟩ gd_to (by decide)
  refine ⟨_, _, fun B bl T => node_expr (by omega) (by omega) (exprK23 hk (conAlt hk hkids (t0 B bl T) (t1 B bl T))), GdL.app (g0) (g1), ?_, ?_⟩
  all_goals ((first | simp only [hkids, List.map_cons, List.map_nil, List.sum_cons, List.sum_nil, jl_app, Nat.add_zero] | simp only [jl_app, jl_cons, jl_nil, fxT, tl_lp, tl_rp, tl_co, tl_wd, tl_sg, tl_mk, bs_size, Nat.add_zero, sz0, sz1, sz2, sz3, sz4, sz5, sz6, sz7, sz8, sz9, sz10, sz11, sz12, sz13, sz14, sz15, sz16, sz17, sz18, sz19, sz20, sz21, sz22, sz23, sz24, sz25, sz26] | skip); omega)
theorem tk24 {c : Nd → Nat} {n : Nd} (hk : n.kind = 24) (h : ownM n = true) (hm : n.name.length ≤ 65536) (ih : ∀ x ∈ n.kids, PT (c x) x) : Tl 50 (1 + n.name.length + (n.kids.map c).sum) 23 n := by
  obtain ⟨ps, hps, hnm, hnu, hf⟩ := own_of h
  rw [hk] at hps hnm hnu
  obtain ⟨o1, u1, t1, g1, l1, m1⟩ := block_ls (c := c) (l := n.kids) (fun x hx => (ih x (hx)).1)
  refine ⟨_, _, fun B bl T => node_expr (by omega) (by omega) (exprK24 hk (conDo hk (t1 B bl T))), GdL.app (GdL.one gd_do) (g1), ?_, ?_⟩
  all_goals ((first | simp only [hkids, List.map_cons, List.map_nil, List.sum_cons, List.sum_nil, List.map_append, List.sum_append, jl_app, jl_cons, jl_nil, ifP, ifC, tl_lb, tl_rb, tl_sc, tl_wd, Nat.add_zero, sz0] | simp only [jl_app, jl_cons, jl_nil, tl_wd, Nat.add_zero, sz0] | skip); omega)
theorem tk25 {c : Nd → Nat} {n : Nd} (hk : n.kind = 25) (h : ownM n = true) (hm : n.name.length ≤ 65536) (ih : ∀ x ∈ n.kids, PT (c x) x) : Tl 50 (1 + n.name.length + (n.kids.map c).sum) 23 n := by
  obtain ⟨ps, hps, hnm, hnu, hf⟩ := own_of h
  rw [hk] at hps hnm hnu
  obtain ⟨o0, u0, t0, g0, l0, m0⟩ := parted_ls (c := c) (l := n.kids) coT gd_co (by decide) (fun x hx => (ih x hx).1)
  refine ⟨_, _, fun B bl T => node_expr (by omega) (by omega) (exprTuple hk (enclosed_ok ⟨#[40]⟩ ⟨#[41]⟩ (t0 B bl T))), GdL.cons gd_lp (GdL.app g0 (GdL.one gd_rp)), ?_, ?_⟩
  all_goals ((first | simp only [hkids, List.map_cons, List.map_nil, List.sum_cons, List.sum_nil, List.map_append, List.sum_append, jl_app, jl_cons, jl_nil, ifP, ifC, tl_lb, tl_rb, tl_sc, tl_mk, Nat.add_zero, sz13, sz14] | simp only [jl_app, jl_cons, jl_nil, tl_mk, Nat.add_zero, sz13, sz14] | skip); omega)
theorem tk26 {c : Nd → Nat} {n : Nd} (hk : n.kind = 26) (h : ownM n = true) (hm : n.name.length ≤ 65536) (ih : ∀ x ∈ n.kids, PT (c x) x) : Tl 50 (1 + n.name.length + (n.kids.map c).sum) 23 n := by
  obtain ⟨ps, hps, hnm, hnu, hf⟩ := own_of h
  rw [hk] at hps hnm hnu
  obtain ⟨o0, u0, t0, g0, l0, m0⟩ := parted_ls (c := c) (l := n.kids) coT gd_co (by decide) (fun x hx => (ih x hx).1)
  refine ⟨_, _, fun B bl T => node_expr (by omega) (by omega) (exprList hk (enclosed_ok ⟨#[91]⟩ ⟨#[93]⟩ (t0 B bl T))), GdL.cons gd_lk (GdL.app g0 (GdL.one gd_rk)), ?_, ?_⟩
  all_goals ((first | simp only [hkids, List.map_cons, List.map_nil, List.sum_cons, List.sum_nil, List.map_append, List.sum_append, jl_app, jl_cons, jl_nil, ifP, ifC, tl_lb, tl_rb, tl_sc, tl_mk, Nat.add_zero, sz21, sz23] | simp only [jl_app, jl_cons, jl_nil, tl_mk, Nat.add_zero, sz21, sz23] | skip); omega)
theorem tk27 {c : Nd → Nat} {n : Nd} (hk : n.kind = 27) (h : ownM n = true) (hm : n.name.length ≤ 65536) (ih : ∀ x ∈ n.kids, PT (c x) x) : Tl 50 (1 + n.name.length + (n.kids.map c).sum) 23 n := by
  obtain ⟨ps, hps, hnm, hnu, hf⟩ := own_of h
  rw [hk] at hps hnm hnu
  obtain rfl := Option.some.inj hps
  obtain ⟨a, rest, hkids, ha, hf2⟩ := fit_one hf
  obtain ⟨o1, u1, t1, g1, l1, m1⟩ := (ih a (by rw [hkids]; simp)).1
  obtain ⟨o3, u3, t3, g3, l3, m3⟩ := parted_ls (c := c) (l := rest) coT gd_co (by decide) (fun x hx => (ih x (by rw [hkids]; simp [hx])).1)
  refine ⟨_, _, fun B bl T => node_expr (by omega) (by omega) (exprK27 hk (conComp hk hkids (t1 B bl T) (t3 B bl T))), GdL.app (GdL.app (GdL.app (GdL.app (GdL.one gd_lk) (g1)) (GdL.one gd_bar)) (g3)) (GdL.one gd_rk), ?_, ?_⟩
  all_goals ((first | simp only [hkids, List.map_cons, List.sum_cons, jl_app, jl_cons, jl_nil, tl_sg, tl_mk, Nat.add_zero, sz10, sz21, sz23] | simp only [jl_app, jl_cons, jl_nil, fxT, tl_lp, tl_rp, tl_co, tl_wd, tl_sg, tl_mk, bs_size, Nat.add_zero, sz0, sz1, sz2, sz3, sz4, sz5, sz6, sz7, sz8, sz9, sz10, sz11, sz12, sz13, sz14, sz15, sz16, sz17, sz18, sz19, sz20, sz21, sz22, sz23, sz24, sz25, sz26] | skip); omega)
theorem tk28 {c : Nd → Nat} {n : Nd} (hk : n.kind = 28) (h : ownM n = true) (hm : n.name.length ≤ 65536) (ih : ∀ x ∈ n.kids, PT (c x) x) : Tl 50 (1 + n.name.length + (n.kids.map c).sum) 23 n := by
  obtain ⟨ps, hps, hnm, hnu, hf⟩ := own_of h
  rw [hk] at hps hnm hnu
  obtain rfl := Option.some.inj hps
  obtain ⟨a, r, hkids, ha, hf2⟩ := fit_one hf
  obtain rfl := fit_none hf2
  have hlk : lkM (bs n.name) = 1 ∨ lkM (bs n.name) = 2 ∨ lkM (bs n.name) = 3 ∨ lkM (bs n.name) = 4 := by
    have : isVarB (lkM (bs n.name)) = true ∨ isConB (lkM (bs n.name)) = true := (by simpa [nameM] using hnm)
    exact this.elim isVar_lk isCon_lk
  obtain ⟨o1, u1, t1, g1, l1, m1⟩ := (ih a (by rw [hkids]; simp)).1.atom
  obtain ⟨o2, t2, g2, l2⟩ := str_oper _ hlk
  rw [bs_size] at l2
  refine ⟨_, _, fun B bl T => node_expr (by omega) (by omega) (exprLeft hk hkids (t1 B bl T) (t2 B bl T)), GdL.app (GdL.app (GdL.app (GdL.one gd_lp) (g1)) (g2)) (GdL.one gd_rp), ?_, ?_⟩
  all_goals ((first | simp only [hkids, List.map_cons, List.map_nil, List.sum_cons, List.sum_nil, jl_app, jl_cons, jl_nil, tl_mk, Nat.add_zero, sz13, sz14] | simp only [jl_app, jl_cons, jl_nil, fxT, tl_lp, tl_rp, tl_co, tl_wd, tl_sg, tl_mk, bs_size, Nat.add_zero, sz0, sz1, sz2, sz3, sz4, sz5, sz6, sz7, sz8, sz9, sz10, sz11, sz12, sz13, sz14, sz15, sz16, sz17, sz18, sz19, sz20, sz21, sz22, sz23, sz24, sz25, sz26] | skip); omega)
theorem tk29 {c : Nd → Nat} {n : Nd} (hk : n.kind = 29) (h : ownM n = true) (hm : n.name.length ≤ 65536) (ih : ∀ x ∈ n.kids, PT (c x) x) : Tl 50 (1 + n.name.length + (n.kids.map c).sum) 23 n := by
  obtain ⟨ps, hps, hnm, hnu, hf⟩ := own_of h
  rw [hk] at hps hnm hnu
  obtain rfl := Option.some.inj hps
  obtain ⟨a, r, hkids, ha, hf2⟩ := fit_one hf
  obtain rfl := fit_none hf2
  have hlk : lkM (bs n.name) = 1 ∨ lkM (bs n.name) = 2 ∨ lkM (bs n.name) = 3 ∨ lkM (bs n.name) = 4 := by
    have : isVarB (lkM (bs n.name)) = true ∨ isConB (lkM (bs n.name)) = true := (by simpa [nameM] using hnm)
    exact this.elim isVar_lk isCon_lk
  obtain ⟨o1, t1, g1, l1⟩ := str_oper _ hlk
  rw [bs_size] at l1
  obtain ⟨o2, u2, t2, g2, l2, m2⟩ := (ih a (by rw [hkids]; simp)).1.atom
  refine ⟨_, _, fun B bl T => node_expr (by omega) (by omega) (exprRight hk hkids (t1 B bl T) (t2 B bl T)), GdL.app (GdL.app (GdL.app (GdL.one gd_lp) (g1)) (g2)) (GdL.one gd_rp), ?_, ?_⟩
  all_goals ((first | simp only [hkids, List.map_cons, List.map_nil, List.sum_cons, List.sum_nil, jl_app, jl_cons, jl_nil, tl_mk, Nat.add_zero, sz13, sz14] | simp only [jl_app, jl_cons, jl_nil, fxT, tl_lp, tl_rp, tl_co, tl_wd, tl_sg, tl_mk, bs_size, Nat.add_zero, sz0, sz1, sz2, sz3, sz4, sz5, sz6, sz7, sz8, sz9, sz10, sz11, sz12, sz13, sz14, sz15, sz16, sz17, sz18, sz19, sz20, sz21, sz22, sz23, sz24, sz25, sz26] | skip); omega)
theorem tk30 {c : Nd → Nat} {n : Nd} (hk : n.kind = 30) (h : ownM n = true) (hm : n.name.length ≤ 65536) (ih : ∀ x ∈ n.kids, PT (c x) x) : Tl 50 (1 + n.name.length + (n.kids.map c).sum) 23 n := by
  obtain ⟨ps, hps, hnm, hnu, hf⟩ := own_of h
  rw [hk] at hps hnm hnu
  obtain ⟨o0, u0, t0, g0, l0, m0⟩ := parted_ls (c := c) (l := n.kids) coT gd_co (by decide) (fun x hx => (ih x hx).1)
  refine ⟨_, _, fun B bl T => node_expr (by omega) (by omega) (exprParen hk (enclosed_ok ⟨#[40]⟩ ⟨#[41]⟩ (t0 B bl T))), GdL.cons gd_lp (GdL.app g0 (GdL.one gd_rp)), ?_, ?_⟩
  all_goals ((first | simp only [hkids, List.map_cons, List.map_nil, List.sum_cons, List.sum_nil, List.map_append, List.sum_append, jl_app, jl_cons, jl_nil, ifP, ifC, tl_lb, tl_rb, tl_sc, tl_mk, Nat.add_zero, sz13, sz14] | simp only [jl_app, jl_cons, jl_nil, tl_mk, Nat.add_zero, sz13, sz14] | skip); omega)
theorem tk31 {c : Nd → Nat} {n : Nd} (hk : n.kind = 31) (h : ownM n = true) (hm : n.name.length ≤ 65536) (ih : ∀ x ∈ n.kids, PT (c x) x) : Tl 50 (1 + n.name.length + (n.kids.map c).sum) 23 n := by
  obtain ⟨ps, hps, hnm, hnu, hf⟩ := own_of h
  rw [hk] at hps hnm hnu
  obtain rfl := Option.some.inj hps
  obtain ⟨a, r, hkids, ha, hf2⟩ := fit_one hf
  obtain ⟨b, r, rfl, hb, hf3⟩ := fit_one hf2
  obtain rfl := fit_none hf3
  obtain ⟨o0, u0, t0, g0, l0, m0⟩ := (ih a (by rw [hkids]; simp)).1
  obtain ⟨o2, u2, t2, g2, l2, m2⟩ := (ih b (by rw [hkids]; simp)).1
  refine ⟨_, _, fun B bl T => node_expr (by omega) (by omega) (exprK31 hk (conGen hk hkids (t0 B bl T) (t2 B bl T))), GdL.app (GdL.app (g0) (GdL.one gd_from)) (g2), ?_, ?_⟩
  all_goals ((first | simp only [hkids, List.map_cons, List.map_nil, List.sum_cons, List.sum_nil, jl_app, jl_cons, jl_nil, tl_sg, Nat.add_zero, sz18] | simp only [jl_app, jl_cons, jl_nil, fxT, tl_lp, tl_rp, tl_co, tl_wd, tl_sg, tl_mk, bs_size, Nat.add_zero, sz0, sz1, sz2, sz3, sz4, sz5, sz6, sz7, sz8, sz9, sz10, sz11, sz12, sz13, sz14, sz15, sz16, sz17, sz18, sz19, sz20, sz21, sz22, sz23, sz24, sz25, sz26] | skip); omega)
theorem tk32 {c : Nd → Nat} {n : Nd} (hk : n.kind = 32) (h : ownM n = true) (hm : n.name.length ≤ 65536) (ih : ∀ x ∈ n.kids, PT (c x) x) : Tl 50 (1 + n.name.length + (n.kids.map c).sum) 23 n := by
  obtain ⟨ps, hps, hnm, hnu, hf⟩ := own_of h
  rw [hk] at hps hnm hnu
  obtain rfl := Option.some.inj hps
  obtain ⟨a, r, hkids, ha, hf2⟩ := fit_one hf
  obtain rfl := fit_none hf2
  obtain ⟨o1, u1, t1, g1, l1, m1⟩ := (ih a (by rw [hkids]; simp)).1
  refine ⟨_, _, fun B bl T => node_expr (by omega) (by omega) (exprK32 hk (conLets hk hkids (t1 B bl T))), GdL.app (GdL.one gd_let) (g1), ?_, ?_⟩
  all_goals ((first | simp only [hkids, List.map_cons, List.map_nil, List.sum_cons, List.sum_nil, jl_app, jl_cons, jl_nil, tl_wd, Nat.add_zero, sz5] | simp only [jl_app, jl_cons, jl_nil, fxT, tl_lp, tl_rp, tl_co, tl_wd, tl_sg, tl_mk, bs_size, Nat.add_zero, sz0, sz1, sz2, sz3, sz4, sz5, sz6, sz7, sz8, sz9, sz10, sz11, sz12, sz13, sz14, sz15, sz16, sz17, sz18, sz19, sz20, sz21, sz22, sz23, sz24, sz25, sz26] | skip); omega)
theorem tk33 {c : Nd → Nat} {n : Nd} (hk : n.kind = 33) (h : ownM n = true) (hm : n.name.length ≤ 65536) (ih : ∀ x ∈ n.kids, PT (c x) x) : Tl 50 (1 + n.name.length + (n.kids.map c).sum) 23 n := by
  obtain ⟨ps, hps, hnm, hnu, hf⟩ := own_of h
  rw [hk] at hps hnm hnu
  obtain rfl := Option.some.inj hps
  obtain ⟨a, r, hkids, ha, hf2⟩ := fit_one hf
  obtain rfl := fit_none hf2
  obtain ⟨o0, u0, t0, g0, l0, m0⟩ := (ih a (by rw [hkids]; simp)).1
  refine ⟨_, _, fun B bl T => node_expr (by omega) (by omega) (exprK33 hk (conStmt hk hkids (t0 B bl T))), g0, ?_, ?_⟩
  all_goals ((first | simp only [hkids, List.map_cons, List.map_nil, List.sum_cons, List.sum_nil, Nat.add_zero] | simp only [jl_app, jl_cons, jl_nil, fxT, tl_lp, tl_rp, tl_co, tl_wd, tl_sg, tl_mk, bs_size, Nat.add_zero, sz0, sz1, sz2, sz3, sz4, sz5, sz6, sz7, sz8, sz9, sz10, sz11, sz12, sz13, sz14, sz15, sz16, sz17, sz18, sz19, sz20, sz21, sz22, sz23, sz24, sz25, sz26] | skip); omega)
theorem tk34 {c : Nd → Nat} {n : Nd} (hk : n.kind = 34) (h : ownM n = true) (hm : n.name.length ≤ 65536) (ih : ∀ x ∈ n.kids, PT (c x) x) : Tl 50 (1 + n.name.length + (n.kids.map c).sum) 23 n := by
  obtain ⟨ps, hps, hnm, hnu, hf⟩ := own_of h
  rw [hk] at hps hnm hnu
  have hlk : lkM (bs n.name) = 1 ∨ lkM (bs n.name) = 2 ∨ lkM (bs n.name) = 3 ∨ lkM (bs n.name) = 4 := by have : lkM (bs n.name) = 1 := (by simpa [nameM] using hnm); omega
  obtain ⟨o0, t0, g0, l0⟩ := str_name _ hlk
  rw [bs_size] at l0
  refine ⟨_, _, fun B bl T => node_pat (by omega) (patVarN hk (t0 B bl T)), g0, ?_, ?_⟩
  all_goals ((first | simp only [hkids, List.map_cons, List.map_nil, List.sum_cons, List.sum_nil, List.map_append, List.sum_append, jl_app, jl_cons, jl_nil, ifP, ifC, fxT, tl_lp, tl_rp, tl_lb, tl_rb, tl_sc, tl_co, tl_wd, tl_sg, tl_mk, bs_size, Nat.add_zero, sz0, sz1, sz2, sz3, sz4, sz5, sz6, sz7, sz8, sz9, sz10, sz11, sz12, sz13, sz14, sz15, sz16, sz17, sz18, sz19, sz20, sz21, sz22, sz23, sz24, sz25, sz26] | simp only [jl_app, jl_cons, jl_nil, fxT, tl_lp, tl_rp, tl_co, tl_wd, tl_sg, tl_mk, bs_size, Nat.add_zero, sz0, sz1, sz2, sz3, sz4, sz5, sz6, sz7, sz8, sz9, sz10, sz11, sz12, sz13, sz14, sz15, sz16, sz17, sz18, sz19, sz20, sz21, sz22, sz23, sz24, sz25, sz26] | skip); omega)
theorem tk35 {c : Nd → Nat} {n : Nd} (hk : n.kind = 35) (h : ownM n = true) (hm : n.name.length ≤ 65536) (ih : ∀ x ∈ n.kids, PT (c x) x) : Tl 50 (1 + n.name.length + (n.kids.map c).sum) 23 n := by
  obtain ⟨ps, hps, hnm, hnu, hf⟩ := own_of h
  rw [hk] at hps hnm hnu
  refine ⟨_, _, fun B bl T => node_pat (by omega) (patAny hk), GdL.one gd_any, ?_, ?_⟩
  all_goals ((first | simp only [hkids, List.map_cons, List.map_nil, List.sum_cons, List.sum_nil, List.map_append, List.sum_append, jl_cons, jl_nil, ifP, ifC, tl_lb, tl_rb, tl_sc, tl_wd, Nat.add_zero, sz24] | simp only [jl_cons, jl_nil, tl_wd, Nat.add_zero, sz24] | skip); omega)
theorem tk36 {c : Nd → Nat} {n : Nd} (hk : n.kind = 36) (h : ownM n = true) (hm : n.name.length ≤ 65536) (ih : ∀ x ∈ n.kids, PT (c x) x) : Tl 50 (1 + n.name.length + (n.kids.map c).sum) 23 n := by
  obtain ⟨ps, hps, hnm, hnu, hf⟩ := own_of h
  rw [hk] at hps hnm hnu
  have hgn : n.num ≤ 9223372036854775807 := hnu.2
  have htl := tl_num n.num ⟨hnu.1, hgn⟩
  refine ⟨_, _, fun B bl T => node_pat (by omega) (tellPInt hk), GdL.one (gd_num n.num ⟨hnu.1, hgn⟩), ?_, ?_⟩
  all_goals ((first | simp only [hkids, List.map_cons, List.map_nil, List.sum_cons, List.sum_nil, List.map_append, List.sum_append, jl_cons, jl_nil, ifP, ifC, tl_lb, tl_rb, tl_sc, Nat.add_zero] | simp only [jl_cons, jl_nil, Nat.add_zero] | skip); omega)
theorem tk37 {c : Nd → Nat} {n : Nd} (hk : n.kind = 37) (h : ownM n = true) (hm : n.name.length ≤ 65536) (ih : ∀ x ∈ n.kids, PT (c x) x) : Tl 50 (1 + n.name.length + (n.kids.map c).sum) 23 n := by
  obtain ⟨ps, hps, hnm, hnu, hf⟩ := own_of h
  rw [hk] at hps hnm hnu
  have hgn : n.num ≤ 255 := hnu.2
  have htl := tl_chr n.num
  refine ⟨_, _, fun B bl T => node_pat (by omega) (tellPChar hk), GdL.one (gd_chr n.num ⟨hnu.1, hgn⟩), ?_, ?_⟩
  all_goals ((first | simp only [hkids, List.map_cons, List.map_nil, List.sum_cons, List.sum_nil, List.map_append, List.sum_append, jl_cons, jl_nil, ifP, ifC, tl_lb, tl_rb, tl_sc, Nat.add_zero] | simp only [jl_cons, jl_nil, Nat.add_zero] | skip); omega)
theorem tk38 {c : Nd → Nat} {n : Nd} (hk : n.kind = 38) (h : ownM n = true) (hm : n.name.length ≤ 65536) (ih : ∀ x ∈ n.kids, PT (c x) x) : Tl 50 (1 + n.name.length + (n.kids.map c).sum) 23 n := by
  obtain ⟨ps, hps, hnm, hnu, hf⟩ := own_of h
  rw [hk] at hps hnm hnu
  have htl := tl_str n.name
  refine ⟨_, _, fun B bl T => node_pat (by omega) (tellPStr hk), GdL.one (gd_str n.name hm), ?_, ?_⟩
  all_goals ((first | simp only [hkids, List.map_cons, List.map_nil, List.sum_cons, List.sum_nil, List.map_append, List.sum_append, jl_cons, jl_nil, ifP, ifC, tl_lb, tl_rb, tl_sc, Nat.add_zero] | simp only [jl_cons, jl_nil, Nat.add_zero] | skip); omega)
theorem tk39 {c : Nd → Nat} {n : Nd} (hk : n.kind = 39) (h : ownM n = true) (hm : n.name.length ≤ 65536) (ih : ∀ x ∈ n.kids, PT (c x) x) : Tl 50 (1 + n.name.length + (n.kids.map c).sum) 23 n := by
  obtain ⟨ps, hps, hnm, hnu, hf⟩ := own_of h
  rw [hk] at hps hnm hnu
  have hlk := isCon_lk (k := lkM (bs n.name)) (by have := hnm; simp [nameM] at this; exact this.1)
  obtain ⟨o0, t0, g0, l0⟩ := str_name _ hlk
  rw [bs_size] at l0
  obtain ⟨o1, u1, t1, g1, l1, m1⟩ := atoms_ls (c := c) (l := n.kids) (fun x hx => (ih x (hx)).1)
  refine ⟨_, _, fun B bl T => node_pat (by omega) (patCon hk (t0 B bl T) (t1 B bl T)), GdL.app (g0) (g1), ?_, ?_⟩
  all_goals ((first | simp only [hkids, List.map_cons, List.map_nil, List.sum_cons, List.sum_nil, List.map_append, List.sum_append, jl_app, ifP, ifC, tl_lb, tl_rb, tl_sc] | simp only [jl_app] | skip); omega)
theorem tk40 {c : Nd → Nat} {n : Nd} (hk : n.kind = 40) (h : ownM n = true) (hm : n.name.length ≤ 65536) (ih : ∀ x ∈ n.kids, PT (c x) x) : Tl 50 (1 + n.name.length + (n.kids.map c).sum) 23 n := by
  obtain ⟨ps, hps, hnm, hnu, hf⟩ := own_of h
  rw [hk] at hps hnm hnu
  obtain ⟨o0, u0, t0, g0, l0, m0⟩ := parted_ls (c := c) (l := n.kids) coT gd_co (by decide) (fun x hx => (ih x hx).1)
  refine ⟨_, _, fun B bl T => node_pat (by omega) (patTuple hk (enclosed_ok ⟨#[40]⟩ ⟨#[41]⟩ (t0 B bl T))), GdL.cons gd_lp (GdL.app g0 (GdL.one gd_rp)), ?_, ?_⟩
  all_goals ((first | simp only [hkids, List.map_cons, List.map_nil, List.sum_cons, List.sum_nil, List.map_append, List.sum_append, jl_app, jl_cons, jl_nil, ifP, ifC, tl_lb, tl_rb, tl_sc, tl_mk, Nat.add_zero, sz13, sz14] | simp only [jl_app, jl_cons, jl_nil, tl_mk, Nat.add_zero, sz13, sz14] | skip); omega)
theorem tk41 {c : Nd → Nat} {n : Nd} (hk : n.kind = 41) (h : ownM n = true) (hm : n.name.length ≤ 65536) (ih : ∀ x ∈ n.kids, PT (c x) x) : Tl 50 (1 + n.name.length + (n.kids.map c).sum) 23 n := by
  obtain ⟨ps, hps, hnm, hnu, hf⟩ := own_of h
  rw [hk] at hps hnm hnu
  obtain ⟨o0, u0, t0, g0, l0, m0⟩ := parted_ls (c := c) (l := n.kids) coT gd_co (by decide) (fun x hx => (ih x hx).1)
  refine ⟨_, _, fun B bl T => node_pat (by omega) (patList hk (enclosed_ok ⟨#[91]⟩ ⟨#[93]⟩ (t0 B bl T))), GdL.cons gd_lk (GdL.app g0 (GdL.one gd_rk)), ?_, ?_⟩
  all_goals ((first | simp only [hkids, List.map_cons, List.map_nil, List.sum_cons, List.sum_nil, List.map_append, List.sum_append, jl_app, jl_cons, jl_nil, ifP, ifC, tl_lb, tl_rb, tl_sc, tl_mk, Nat.add_zero, sz21, sz23] | simp only [jl_app, jl_cons, jl_nil, tl_mk, Nat.add_zero, sz21, sz23] | skip); omega)
theorem tk42 {c : Nd → Nat} {n : Nd} (hk : n.kind = 42) (h : ownM n = true) (hm : n.name.length ≤ 65536) (ih : ∀ x ∈ n.kids, PT (c x) x) : Tl 50 (1 + n.name.length + (n.kids.map c).sum) 23 n := by
  obtain ⟨ps, hps, hnm, hnu, hf⟩ := own_of h
  rw [hk] at hps hnm hnu
  obtain rfl := Option.some.inj hps
  obtain ⟨a, r, hkids, ha, hf2⟩ := fit_one hf
  obtain rfl := fit_none hf2
  have hlk : lkM (bs n.name) = 1 ∨ lkM (bs n.name) = 2 ∨ lkM (bs n.name) = 3 ∨ lkM (bs n.name) = 4 := by have : lkM (bs n.name) = 1 := (by simpa [nameM] using hnm); omega
  obtain ⟨o0, t0, g0, l0⟩ := str_name _ hlk
  rw [bs_size] at l0
  obtain ⟨o2, u2, t2, g2, l2, m2⟩ := (ih a (by rw [hkids]; simp)).1.atom
  refine ⟨_, _, fun B bl T => node_pat (by omega) (patAs hk hkids (t0 B bl T) (t2 B bl T)), GdL.app (GdL.app (g0) (GdL.one gd_at)) (g2), ?_, ?_⟩
  all_goals ((first | simp only [hkids, List.map_cons, List.map_nil, List.sum_cons, List.sum_nil, jl_app, jl_cons, jl_nil, tl_sg, Nat.add_zero, sz20] | simp only [jl_app, jl_cons, jl_nil, fxT, tl_lp, tl_rp, tl_co, tl_wd, tl_sg, tl_mk, bs_size, Nat.add_zero, sz0, sz1, sz2, sz3, sz4, sz5, sz6, sz7, sz8, sz9, sz10, sz11, sz12, sz13, sz14, sz15, sz16, sz17, sz18, sz19, sz20, sz21, sz22, sz23, sz24, sz25, sz26] | skip); omega)
theorem tk43 {c : Nd → Nat} {n : Nd} (hk : n.kind = 43) (h : ownM n = true) (hm : n.name.length ≤ 65536) (ih : ∀ x ∈ n.kids, PT (c x) x) : Tl 50 (1 + n.name.length + (n.kids.map c).sum) 23 n := by
  obtain ⟨ps, hps, hnm, hnu, hf⟩ := own_of h
  rw [hk] at hps hnm hnu
  obtain rfl := Option.some.inj hps
  obtain ⟨a, r, hkids, ha, hf2⟩ := fit_one hf
  obtain rfl := fit_none hf2
  obtain ⟨o1, u1, t1, g1, l1, m1⟩ := (ih a (by rw [hkids]; simp)).1.atom
  refine ⟨_, _, fun B bl T => node_pat (by omega) (patLazy hk hkids (t1 B bl T)), GdL.app (GdL.one gd_lazy) (g1), ?_, ?_⟩
  all_goals ((first | simp only [hkids, List.map_cons, List.map_nil, List.sum_cons, List.sum_nil, jl_app, jl_cons, jl_nil, tl_sg, Nat.add_zero, sz12] | simp only [jl_app, jl_cons, jl_nil, fxT, tl_lp, tl_rp, tl_co, tl_wd, tl_sg, tl_mk, bs_size, Nat.add_zero, sz0, sz1, sz2, sz3, sz4, sz5, sz6, sz7, sz8, sz9, sz10, sz11, sz12, sz13, sz14, sz15, sz16, sz17, sz18, sz19, sz20, sz21, sz22, sz23, sz24, sz25, sz26] | skip); omega)
theorem tk44 {c : Nd → Nat} {n : Nd} (hk : n.kind = 44) (h : ownM n = true) (hm : n.name.length ≤ 65536) (ih : ∀ x ∈ n.kids, PT (c x) x) : Tl 50 (1 + n.name.length + (n.kids.map c).sum) 23 n := by
  obtain ⟨ps, hps, hnm, hnu, hf⟩ := own_of h
  rw [hk] at hps hnm hnu
  obtain ⟨o0, u0, t0, g0, l0, m0⟩ := turns_ls (c := c) (l := n.kids) (fun x hx => (ih x (hx)).1)
  refine ⟨_, _, fun B bl T => node_pat (by omega) (patOps hk (t0 B bl T)), g0, ?_, ?_⟩
  all_goals ((first | simp only [hkids, List.map_cons, List.map_nil, List.sum_cons, List.sum_nil, List.map_append, List.sum_append, jl_app, jl_cons, jl_nil, ifP, ifC, fxT, tl_lp, tl_rp, tl_lb, tl_rb, tl_sc, tl_co, tl_wd, tl_sg, tl_mk, bs_size, Nat.add_zero, sz0, sz1, sz2, sz3, sz4, sz5, sz6, sz7, sz8, sz9, sz10, sz11, sz12, sz13, sz14, sz15, sz16, sz17, sz18, sz19, sz20, sz21, sz22, sz23, sz24, sz25, sz26] | simp only [jl_app, jl_cons, jl_nil, fxT, tl_lp, tl_rp, tl_co, tl_wd, tl_sg, tl_mk, bs_size, Nat.add_zero, sz0, sz1, sz2, sz3, sz4, sz5, sz6, sz7, sz8, sz9, sz10, sz11, sz12, sz13, sz14, sz15, sz16, sz17, sz18, sz19, sz20, sz21, sz22, sz23, sz24, sz25, sz26] | skip); omega)
theorem kind_of {k : Int} {ps : List (List Int → Int)} (h : kp k = some ps) : 1 ≤ k ∧ k ≤ 44 := by
  refine Classical.byContradiction fun hn => ?_
  unfold kp at h
  repeat (first | (rw [if_neg (by omega)] at h) | cases h)
theorem tell_own {c : Nd → Nat} {n : Nd} (h : ownM n = true) (hm : n.name.length ≤ 65536) (ih : ∀ x ∈ n.kids, PT (c x) x) : PT (1 + n.name.length + (n.kids.map c).sum) n := by
  refine ⟨?_, fun h8 sg hs hz => right_sg sg hs hz ih, fun h9 sg hs hz => ?_⟩
  · obtain ⟨ps, hps, _, _, _⟩ := own_of h
    obtain ⟨k1, k2⟩ := kind_of hps
    by_cases q1 : n.kind = 1
    · exact tk1 q1 h hm ih
    by_cases q2 : n.kind = 2
    · exact tk2 q2 h hm ih
    by_cases q3 : n.kind = 3
    · exact tk3 q3 h hm ih
    by_cases q4 : n.kind = 4
    · exact tk4 q4 h hm ih
    by_cases q5 : n.kind = 5
    · exact tk5 q5 h hm ih
    by_cases q6 : n.kind = 6
    · exact tk6 q6 h hm ih
    by_cases q7 : n.kind = 7
    · exact tk7 q7 h hm ih
    by_cases q8 : n.kind = 8
    · exact tk8 q8 h hm ih
    by_cases q9 : n.kind = 9
    · exact tk9 q9 h hm ih
    by_cases q10 : n.kind = 10
    · exact tk10 q10 h hm ih
    by_cases q11 : n.kind = 11
    · exact tk11 q11 h hm ih
    by_cases q12 : n.kind = 12
    · exact tk12 q12 h hm ih
    by_cases q13 : n.kind = 13
    · exact tk13 q13 h hm ih
    by_cases q14 : n.kind = 14
    · exact tk14 q14 h hm ih
    by_cases q15 : n.kind = 15
    · exact tk15 q15 h hm ih
    by_cases q16 : n.kind = 16
    · exact tk16 q16 h hm ih
    by_cases q17 : n.kind = 17
    · exact tk17 q17 h hm ih
    by_cases q18 : n.kind = 18
    · exact tk18 q18 h hm ih
    by_cases q19 : n.kind = 19
    · exact tk19 q19 h hm ih
    by_cases q20 : n.kind = 20
    · exact tk20 q20 h hm ih
    by_cases q21 : n.kind = 21
    · exact tk21 q21 h hm ih
    by_cases q22 : n.kind = 22
    · exact tk22 q22 h hm ih
    by_cases q23 : n.kind = 23
    · exact tk23 q23 h hm ih
    by_cases q24 : n.kind = 24
    · exact tk24 q24 h hm ih
    by_cases q25 : n.kind = 25
    · exact tk25 q25 h hm ih
    by_cases q26 : n.kind = 26
    · exact tk26 q26 h hm ih
    by_cases q27 : n.kind = 27
    · exact tk27 q27 h hm ih
    by_cases q28 : n.kind = 28
    · exact tk28 q28 h hm ih
    by_cases q29 : n.kind = 29
    · exact tk29 q29 h hm ih
    by_cases q30 : n.kind = 30
    · exact tk30 q30 h hm ih
    by_cases q31 : n.kind = 31
    · exact tk31 q31 h hm ih
    by_cases q32 : n.kind = 32
    · exact tk32 q32 h hm ih
    by_cases q33 : n.kind = 33
    · exact tk33 q33 h hm ih
    by_cases q34 : n.kind = 34
    · exact tk34 q34 h hm ih
    by_cases q35 : n.kind = 35
    · exact tk35 q35 h hm ih
    by_cases q36 : n.kind = 36
    · exact tk36 q36 h hm ih
    by_cases q37 : n.kind = 37
    · exact tk37 q37 h hm ih
    by_cases q38 : n.kind = 38
    · exact tk38 q38 h hm ih
    by_cases q39 : n.kind = 39
    · exact tk39 q39 h hm ih
    by_cases q40 : n.kind = 40
    · exact tk40 q40 h hm ih
    by_cases q41 : n.kind = 41
    · exact tk41 q41 h hm ih
    by_cases q42 : n.kind = 42
    · exact tk42 q42 h hm ih
    by_cases q43 : n.kind = 43
    · exact tk43 q43 h hm ih
    by_cases q44 : n.kind = 44
    · exact tk44 q44 h hm ih
    omega
  · obtain ⟨ps, hps, hnm, hnu, hf⟩ := own_of h
    rw [h9] at hps
    obtain rfl := Option.some.inj hps
    obtain ⟨a, r, hkids, ha, hf2⟩ := fit_one hf
    obtain ⟨b, r, rfl, hb, hf3⟩ := fit_one hf2
    obtain rfl := fit_none hf3
    obtain ⟨o1, u1, t1, g1, l1, m1⟩ := (ih a (by rw [hkids]; simp)).1
    obtain ⟨o3, u3, t3, g3, l3, m3⟩ := (ih b (by rw [hkids]; simp)).1
    refine ⟨_, _, fun B bl T => guardS sg hkids (t1 B bl T) (t3 B bl T), GdL.app (GdL.app (GdL.app (GdL.one gd_bar) g1) (GdL.one hs)) g3, ?_, ?_⟩
    have z1 : ByteArray.size ⟨#[124]⟩ = 1 := rfl
    all_goals (simp only [hkids, List.map_cons, List.map_nil, List.sum_cons, List.sum_nil, jl_app, jl_cons, jl_nil, tl_sg, Nat.add_zero]; omega)
def wtT : Nat → Nd → Nat
  | 0, _ => 0
  | d + 1, n => 1 + n.name.length + (n.kids.map (wtT d)).sum
theorem nm_mem : ∀ (l : List Nd) (x : Nd), x ∈ l → nmA x ≤ nmL l
  | y :: l, x, h => by
    simp only [nmL]
    rcases List.mem_cons.1 h with rfl | h
    · omega
    · have := nm_mem l x h; omega
theorem tell_all : ∀ (d : Nat) (n : Nd), mbM d n = true → nmA n ≤ 65536 → PT (wtT d n) n
  | 0, n, h, _ => by cases h
  | d + 1, n, h, hm => by
    unfold mbM at h
    simp only [Bool.and_eq_true, List.all_eq_true] at h
    have e := nmA_eq n
    exact tell_own h.1 (by omega) (fun x hx => tell_all d x (h.2 x hx) (by have := nm_mem _ x hx; omega))
theorem wt_sum (d : Nat) (ih : ∀ n, wtT d n ≤ cntT d n + nmA n) : ∀ l : List Nd, (l.map (wtT d)).sum ≤ (l.map (cntT d)).sum + nmL l
  | [] => by simp
  | x :: l => by
    have h1 := ih x
    have h2 := wt_sum d ih l
    simp only [List.map_cons, List.sum_cons, nmL]; omega
theorem wt_le : ∀ (d : Nat) (n : Nd), wtT d n ≤ cntT d n + nmA n
  | 0, n => Nat.zero_le _
  | d + 1, n => by
    have h := wt_sum d (wt_le d) n.kids
    have e := nmA_eq n
    unfold wtT cntT
    omega
end Go.Proofs.YtndpebkiiemfpaaGreatDoor

namespace Go.Proofs.YtndpebkiiemfpaaGreatDoor
open Go.RowKit Go.Shelf Go.Maps
set_option linter.unusedVariables false

theorem all_inr (s : ByteArray) (ts : List M.Tk) (hs : s.size ≤ 70000) (hc : chk s = (0, 0)) (hts : M.scanAll s.data.toList = .inr ts) (w : World) (hG : GOK w) :
    Calls Tryz.prog 10 #[.string s] w fun r W' => ∃ v, r = .returned (.tuple #[v, .agg #[.int .i64 0, .int .i64 0]]) ∧ Hid (W'.ownsRow w.heap.size 39 7 v ts.length (tksC ts)) ∧ Below w.heap.size w W' := by
  refine (all_ok s hs hc w hG).mono ?_
  rintro r W' ⟨v, f, rfl, hb, hp⟩
  have hp' := hp.out
  unfold AllPost at hp'
  rw [hts] at hp'
  obtain ⟨rfl, _, ho⟩ := hp'
  exact ⟨v, rfl, ho, hb⟩
theorem tks_cell {W : World} {b g m cap : Nat} {ts : List M.Tk} (hm : ts.length = m) (h : W.ownsRow b 39 7 (.slice (some ⟨g, 0, none⟩) m cap) ts.length (tksC ts)) (k : Nat) (hk : k < ts.length) (q : Nat) (hq : q < 7) (u : Value) (hu : (tkC ts[k])[q]? = some u) : W.cell? ⟨g, k * 7 + q, none⟩ = some u := by
  subst hm
  have h1 := h.cellAt (k * 7 + q) (by omega)
  rw [h1]
  have key : ∀ (ts : List M.Tk) (k : Nat) (hk : k < ts.length), (tksC ts)[k * 7 + q]? = (tkC ts[k])[q]? := by
    intro ts
    induction ts with
    | nil => intro k hk; simp at hk
    | cons t ts ih =>
      intro k hk
      have hl : (tkC t).length = 7 := rfl
      have he : tksC (t :: ts) = tkC t ++ tksC ts := by simp [tksC]
      rw [he]
      cases k with
      | zero => rw [List.getElem?_append_left (by rw [hl]; omega)]; simp
      | succ k =>
        rw [List.getElem?_append_right (by rw [hl]; omega), hl]
        have : (k + 1) * 7 + q - 7 = k * 7 + q := by omega
        rw [this, ih k (by simpa using hk)]
        rfl
  rw [key ts k hk, hu]
def tkO (t : M.T0) : TkT := ⟨(t.kind : Int), t.text, (t.num : Int)⟩
theorem gd_list : ∀ out : List TkT, GdL out → ∃ l : List M.T0, out = l.map tkO ∧ ∀ t ∈ l, Good t (tx0 t)
  | [], _ => ⟨[], rfl, fun t h => by cases h⟩
  | t :: out, h => by
    obtain ⟨l, h1, h2⟩ := gd_list out (fun x hx => h x (by simp [hx]))
    obtain ⟨⟨t0, e, hg⟩, _⟩ := h t (by simp)
    refine ⟨t0 :: l, by rw [List.map_cons, ← h1, e]; rfl, fun x hx => ?_⟩
    rcases List.mem_cons.1 hx with rfl | hx
    · exact hg
    · exact h2 x hx
theorem jn_tl : ∀ l : List M.T0, (l.map tkO).flatMap jnF = tl (l.map tx0)
  | [] => rfl
  | t :: l => by
    rw [List.map_cons, List.flatMap_cons, jn_tl l]
    rfl
theorem jn_join (l : List M.T0) : jnT (l.map tkO) = joinM (l.map tx0) := by
  unfold jnT
  rw [jn_tl]
  cases l with
  | nil => rfl
  | cons t l => rfl
/-- Tokens that are told and read again. -/
theorem back4 (out : List TkT) (h : GdL out) (hl : (jnT out).length ≤ 65536) : chk (bs (jnT out)) = (0, 0) ∧ ∃ ms : List M.Tk, M.scanAll (jnT out) = .inr ms ∧ ms.length = out.length ∧ ∀ k (h1 : k < out.length) (h2 : k < ms.length), out[k] = tkO ms[k].t := by
  obtain ⟨l, rfl, hg⟩ := gd_list out h
  rw [jn_join] at hl ⊢
  refine ⟨?_, ?_⟩
  · unfold chk
    rw [if_neg (by rw [bs_size]; omega)]
    rw [bs_list, fb_all]
    intro b hb
    cases l with
    | nil => cases hb
    | cons t ts =>
      rcases List.mem_append.1 hb with hb | hb
      · exact (hg t (by simp)).ok b hb
      · refine tl_ok _ ?_ b hb
        intro u hu
        obtain ⟨t', ht', rfl⟩ := List.mem_map.1 hu
        exact (hg t' (by simp [ht'])).ok
  · obtain ⟨ms, h1, h2⟩ := scan_join (l.map fun t => (t, tx0 t)) (by intro x hx; obtain ⟨t, ht, rfl⟩ := List.mem_map.1 hx; exact hg t ht)
    rw [List.map_map] at h1
    rw [List.map_map] at h2
    have e2 : ms.map (·.t) = l := by rw [h2]; simp [Function.comp_def]
    refine ⟨ms, h1, ?_, fun k h3 h4 => ?_⟩
    · have := congrArg List.length e2
      simpa using this
    · have h5 : k < l.length := by simpa using h3
      have h6 : (ms.map (·.t))[k]? = l[k]? := by rw [e2]
      rw [List.getElem?_map, List.getElem?_eq_getElem h4, List.getElem?_eq_getElem h5] at h6
      have h7 : ms[k].t = l[k] := by simpa using h6
      rw [List.getElem_map, h7]
/-- All that the law asks of a node that may be. -/
theorem told_all (n : Nd) (hc : chkM n = 0) (hm : nmA n ≤ 25600) : ∃ (out : List TkT) (k : Nat), (∀ B bl T, TellOK B bl T 23 n out k) ∧ GdL out ∧ k ≤ 4611686018426000000 ∧ out.length ≤ 1000000000 ∧ (out.flatMap jnF).length ≤ 1000000000 := by
  unfold chkM at hc
  by_cases h1 : (hN 256 1048576 n).1 = true
  · rw [if_pos h1] at hc
    by_cases h2 : mbM 256 n = true
    · obtain ⟨⟨out, k, ht, hg, l1, l2⟩, _⟩ := tell_all 256 n h2 (by omega)
      have h3 := wt_le 256 n
      have h4 := (hNall 256 1048576 n h1).2
      have h5 := len_jl out
      refine ⟨out, k, ht, hg, by omega, by omega, by rw [jl_len]; omega⟩
    · rw [if_neg h2] at hc; cases hc
  · rw [if_neg h1] at hc; cases hc
end Go.Proofs.YtndpebkiiemfpaaGreatDoor
