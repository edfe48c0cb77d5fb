/-
  A copy of tokens with spare room, by a contract.
-/
import Derived.Test.YtpidccdgkkcljaaGreatDoorCall0
import Derived.Lib.JoinLaws
namespace Go.Proofs.YtpidccdgkkcljaaGreatDoor
open Go.RowKit Go.Shelf Go.Maps
set_option linter.unusedVariables false

theorem infoTok : (Tryz.prog.info? 30).map (fun i => (i.zero, i.size, i.bytes)) = some (some (.agg #[.int .i64 0, .string ⟨#[]⟩, .int .i64 0, .int .i64 0, .int .i64 0, .int .i64 0, .bool false]), 7, 64) := by kernel_rfl
theorem tgC_len (t : Tg) : (tgC t).length = 7 := rfl
theorem flat7 (f : Tg → List Value) (hf : ∀ t, (f t).length = 7) : ∀ ts : List Tg, (ts.flatMap f).length = ts.length * 7
  | [] => rfl
  | t :: ts => by rw [List.flatMap_cons, List.length_append, hf, flat7 f hf ts, List.length_cons]; omega
theorem flat7_get (f : Tg → List Value) (hf : ∀ t, (f t).length = 7) : ∀ (ts : List Tg) (k : Nat) (h : k < ts.length) (q : Nat), q < 7 → (ts.flatMap f)[k * 7 + q]? = (f ts[k])[q]?
  | t :: ts, 0, h, q, hq => by
    rw [List.flatMap_cons, Nat.zero_mul, Nat.zero_add, List.getElem?_append_left (by rw [hf]; exact hq)]; rfl
  | t :: ts, k + 1, h, q, hq => by
    rw [List.flatMap_cons, List.getElem?_append_right (by rw [hf]; omega), hf, show (k + 1) * 7 + q - 7 = k * 7 + q by omega]
    exact flat7_get f hf ts k (by simpa using h) q hq
theorem tgC_one (ts : List Tg) : ∀ u ∈ ts.flatMap tgC, u.oneCell' = true := by
  intro u hu
  obtain ⟨t, ht, hu⟩ := List.mem_flatMap.1 hu
  unfold tgC at hu
  simp only [List.mem_cons, List.not_mem_nil, or_false] at hu
  rcases hu with rfl | rfl | rfl | rfl | rfl | rfl | rfl <;> rfl
theorem tgAt_news {W : World} {g off : Nat} {ts : List Tg} (h : TgAt W g off ts) : ∀ j u, (ts.flatMap tgC)[j]? = some u → W.cell? ((⟨g, off, none⟩ : Addr).add j) = some u := by
  intro j u hu
  have hj : j < ts.length * 7 := by
    have := (List.getElem?_eq_some_iff.1 hu).1
    rwa [flat7 tgC tgC_len] at this
  have hk : j / 7 < ts.length := by omega
  have e : j / 7 * 7 + j % 7 = j := by omega
  have h1 := flat7_get tgC tgC_len ts (j / 7) hk (j % 7) (by omega)
  rw [e, hu] at h1
  have h2 := h (j / 7) hk (j % 7) u h1.symm
  rw [Nat.add_assoc, e] at h2
  rw [Addr.add_lit]
  exact h2

set_option maxHeartbeats 4000000 in
set_option maxRecDepth 100000 in
theorem tokens_c (ts : List Tg) (o : Option Addr) (cap : Nat) (hn : ts.length ≤ 5000) (w : World) (h : TgIn w o ts) :
    Calls Tryz.prog 18 #[.slice o ts.length cap] w fun r W' => r = .returned (.slice (some ⟨w.heap.size, 0, none⟩) ts.length (ts.length + 2)) ∧ TgAt W' w.heap.size 0 ts ∧ w.heap.size < W'.heap.size ∧ Below w.heap.size w W' := by
  obtain ⟨i, hi, hzz⟩ := Option.map_eq_some_iff.1 infoTok
  simp only [Prod.mk.injEq] at hzz
  obtain ⟨hz, hs7, hb56⟩ := hzz
  obtain ⟨m, hm⟩ : ∃ m, ts.length = m := ⟨_, rfl⟩
  have hmi : (m : Int) ≤ 5000 := by omega
  have hmk : ∀ W : World, (Instr.makeSlice 23 (.int .i64 0) (.int .i64 ((m : Int) + 2))).run Tryz.prog W = .ok (.slice (some ⟨W.heap.size, 0, none⟩) 0 (m + 2)) (W.alloc (.cells (madeCells #[.int .i64 0, .string ⟨#[]⟩, .int .i64 0, .int .i64 0, .int .i64 0, .int .i64 0, .bool false] ((m + 2) * 7)) 30)) := by
    intro W
    have hr := run_make (P := Tryz.prog) W 23 30 i _ Tryz.underlying23 hi hz .i64 .i64 0 ((m : Int) + 2) (by omega) (by omega) (by rw [hb56]; omega) (by omega)
    rw [hs7, show ((m : Int) + 2).toNat = m + 2 by omega] at hr
    exact hr
  have HS : Hid (∀ W : World, Below w.heap.size w W → Src Tryz.prog i.size 23 (.slice o m cap) m (ts.flatMap tgC) W) := by
    intro W hW
    rcases h with rfl | ⟨g, off, rfl, hg, hT⟩
    · obtain rfl : m = 0 := by rw [← hm]; rfl
      cases o with
      | none => exact Src.ofNil W Tryz.underlying23 cap
      | some a => exact Src.ofSlice W Tryz.underlying23 a 0 cap [] (by simp) (fun j u hu => by simp at hu) (fun u hu => by cases hu)
    · exact Src.ofSlice W Tryz.underlying23 ⟨g, off, none⟩ m cap _ (by rw [flat7 tgC tgC_len, hs7, hm]) (tgAt_news (hT.belowB hg hW)) (tgC_one ts)
  have hfl : (ts.flatMap tgC).length = m * 7 := by rw [flat7 tgC tgC_len, hm]
  have HF : Hid ((ts.flatMap tgC).length = m * 7) := hfl
  obtain ⟨z7, hz7⟩ : ∃ z, (#[.int .i64 0, .string ⟨#[]⟩, .int .i64 0, .int .i64 0, .int .i64 0, .int .i64 0, .bool false] : Array Value) = z := ⟨_, rfl⟩
  rw [hz7] at hmk
  have HC : Hid (∀ j, j < (ts.flatMap tgC).length → ((w.alloc (.cells (madeCells z7 ((m + 2) * 7)) 30)).cell? ⟨w.heap.size, 0 + 0 * i.size + j, none⟩).isSome = true) := by
    intro j hj
    have hj' : j < (madeCells z7 ((m + 2) * 7)).size := by rw [size_madeCells]; omega
    have := (Blk.new w (madeCells z7 ((m + 2) * 7)) 30).cell j _ (Array.getElem?_eq_getElem hj')
    simp only [Nat.zero_mul, Nat.zero_add, this]; rfl
  have HZ : Hid (∀ j, j < (ts.flatMap tgC).length → (w.alloc (.cells (madeCells z7 ((m + 2) * 7)) 30)).frozen? ⟨w.heap.size, 0 + 0 * i.size + j, none⟩ = false) := fun j hj => (Blk.new w (madeCells z7 ((m + 2) * 7)) 30).frozen _
  have HB : Hid (Below w.heap.size w (w.alloc (.cells (madeCells z7 ((m + 2) * 7)) 30))) := (Below.refl _ w).alloc (Nat.le_refl _) _
  have HL : Hid (ts.length = m) := hm
  have HSz : Hid (i.size = 7) := hs7
  rw [hm]
  clear h hn hm hfl hz hs7 hb56 hz7
  have hui : Hid (Tryz.prog.info? 30 = some i) := hi
  clear hi
  go_enter Tryz.func18, Tryz.ntmps18
  go_wp2_with (at_builtin; refine wpList_append_room_src _ rfl (.tmp 6) (.tmp 7) 23 23 rfl 30 i Tryz.underlying23 hui.out w.heap.size 0 0 (m + 2) rfl _ rfl m (ts.flatMap tgC) (HS.out _ HB.out) (by omega) HC.out HZ.out ?_)
  go_ret
  refine ⟨rfl, ?_, ?_, ?_⟩
  · intro k hk q u hu
    have hq : q < 7 := (List.getElem?_eq_some_iff.1 hu).1
    have hj : k * 7 + q < (ts.flatMap tgC).length := by rw [HF.out]; have := HL.out; omega
    have := World.cell?_setCells_in w.heap.size (ts.flatMap tgC) (0 + 0 * i.size) _ HC.out (k * 7 + q) hj
    have h1 := flat7_get tgC tgC_len ts k hk q hq
    rw [hu, List.getElem?_eq_getElem hj] at h1
    rw [Option.some.inj h1] at this
    simp only [Nat.zero_mul, Nat.zero_add] at this ⊢
    exact this
  · have h1 := (below_setCells (b := w.heap.size) (Nat.le_refl _) (ts.flatMap tgC) (0 + 0 * i.size) _ (Below.refl w.heap.size (w.alloc (.cells (madeCells z7 ((m + 2) * 7)) 30)))).size
    simp at h1 ⊢
    omega
  · exact below_setCells (b := w.heap.size) (Nat.le_refl _) (ts.flatMap tgC) _ _ HB.out

end Go.Proofs.YtpidccdgkkcljaaGreatDoor
