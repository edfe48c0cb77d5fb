/-
  The last line of CoreNames, from its beginning: whatever the order.
-/
import Derived.Test.YtegdloenakachaaGreatDoorCN33
import Derived.Deep.RegionHeld3
namespace Go.Proofs.YtegdloenakachaaGreatDoor
open Go.RowKit Go.Shelf Go.Maps
set_option linter.unusedVariables false
set_option maxRecDepth 100000 in
set_option maxHeartbeats 8000000 in
theorem regA (V : World) (gl gs gt gb ga tg ta : Nat) (sk : Int) (ss : ByteArray) (sm : Int) (so3 : Option Addr) (sn3 sc3 : Nat) (so4 : Option Addr) (sn4 sc4 : Nat) (so5 : Option Addr) (sn5 sc5 : Nat) (so6 : Option Addr) (sn6 sc6 : Nat) (a4 a5 a6 a7 a8 a9 a10 a11 a12 a13 a14 a15 a16 a17 a18 a19 a20 a21 a22 a23 a24 a25 a26 a27 a28 a29 a30 a31 a32 a33 a34 a35 a36 a37 a38 a39 a40 a41 a42 a43 a44 a45 a46 a47 a48 a49 a50 a51 a52 a53 : Value) (Q : Exit → Act → World → Prop) (hp : ∀ (c : _) (a : Act) (d : Tmp) (v : Value) (w : World), Q (.panic c) (a.put (some d) v) w → Q (.panic c) a w) (hq : ∀ (b4 b5 b6 b7 b8 b9 b10 b11 b12 b13 b14 b15 b16 b17 b18 b19 b20 b21 b22 b23 b24 b25 b26 b27 b28 b29 b30 b31 b32 b33 b34 b35 b36 b37 b38 b39 b40 b41 b42 b43 b44 b45 b46 b47 b48 b49 b50 b51 b52 b53 b54 b55 b56 b57 b58 b59 b60 b61 b62 b63 b64 b65 b66 b67 b68 b69 b70 b71 b72 b73 b74 b75 b76 b77 b78 b79 b80 b81 b82 b83 b84 b85 b86 b87 b88 b89 b90 b91 b92 b93 b94 b95 b96 b97 b98 b99 b100 b101 b102 b103 b104 b105 b106 b107 b108 : Value) (X : World), Hid (Below V.heap.size V X) → Q .normal ⟨#[.bool true, .pointer (some ⟨gl, 0, none⟩), .pointer (some ⟨gs, 0, none⟩), .pointer (some ⟨gt, 0, none⟩), b4, b5, b6, b7, b8, b9, b10, b11, b12, b13, b14, b15, b16, b17, b18, b19, b20, b21, b22, b23, b24, b25, b26, b27, b28, b29, b30, b31, b32, b33, b34, b35, b36, b37, b38, b39, b40, b41, b42, b43, b44, b45, b46, b47, b48, b49, b50, b51, b52, b53, b54, b55, b56, b57, b58, b59, b60, b61, b62, b63, b64, b65, b66, b67, b68, b69, b70, b71, b72, b73, b74, b75, b76, b77, b78, b79, b80, b81, b82, b83, b84, b85, b86, b87, b88, b89, b90, b91, b92, b93, b94, b95, b96, b97, b98, b99, b100, b101, b102, b103, b104, b105, b106, b107, b108], []⟩ X) (ops : Array Oper) (ho : Tryz.f3.body.bind (regOf 6) = some ops) (HV : Nm V gl gs gt gb ga tg ta sk ss sm so3 sn3 sc3 so4 sn4 sc4 so5 sn5 sc5 so6 sn6 sc6) :
    Code.wp Tryz.prog (Code.region 6 ops true) Q ⟨#[.bool false, .pointer (some ⟨gl, 0, none⟩), .pointer (some ⟨gs, 0, none⟩), .pointer (some ⟨gt, 0, none⟩), a4, a5, a6, a7, a8, a9, a10, a11, a12, a13, a14, a15, a16, a17, a18, a19, a20, a21, a22, a23, a24, a25, a26, a27, a28, a29, a30, a31, a32, a33, a34, a35, a36, a37, a38, a39, a40, a41, a42, a43, a44, a45, a46, a47, a48, a49, a50, a51, a52, a53, undef, undef, undef, undef, undef, undef, undef, undef, undef, undef, undef, undef, undef, undef, undef, undef, undef, undef, undef, undef, undef, undef, undef, undef, undef, undef, undef, undef, undef, undef, undef, undef, undef, undef, undef, undef, undef, undef, undef, undef, undef, undef, undef, undef, undef, undef, undef, undef, undef, undef, undef, undef, undef, undef, undef], []⟩ V := by
  conv at ho => lhs; whnf
  cases ho
  have hS : Hid (Below V.heap.size V V.drew) := (Below.refl _ _).drew
  refine wp_region_held_drew (S := S6 V gl gs gt gb ga tg ta sk ss sm so3 sn3 sc3 so4 sn4 sc4 so5 sn5 sc5 so6 sn6 sc6) (by kernel_rfl) (HV.s6 hS) (fun hHeld => ?_)
  generalize V.drew = x0 at hS hHeld ⊢
  refine wpAnyH_take (i := 0) (v := .agg #[.int .i64 7, .string ⟨#[]⟩, .int .i64 0, .slice none 0 0, .slice (some ⟨gb, 0, none⟩) 2 2, .slice (some ⟨ga, 0, none⟩) 1 1, .slice none 0 0]) rfl (by kernel_rfl) (by kernel_rfl) (by kernel_rfl) (fun c a w h => hp c a _ _ w h) (Or.inl ⟨by kernel_rfl, fun X hX => ?_⟩) (by assumption) ?_
  · obtain ⟨-, q0, q1, q2, q3, q4, q5, q6, -, -, -, -, -, -, -, -, -, -, -, -, -, -⟩ := hX; go_simp
  try simp only [Act.put, List.setIfInBounds_toArray]
  refine wpAnyH_ready (rs := [1]) (by kernel_rfl) (by simp) ?_
  refine AllReadyH.cons (o := _) rfl (fun K hK => ?_) AllReadyH.nil
  go_simp
  go_at_call 14
  refine (freeLet_c _ _ (HV.lv.grow hS.out)).mono ?_
  rintro e x1 ⟨fo, fc, rfl, hb⟩
  have hS' : Hid (Below V.heap.size V x1) := up2n hS hb
  refine hK.out _ _ (HV.s6 hS') (fun hHeld' => ?_)
  clear hK K hb hS hHeld
  have hS := hS'; clear hS'; have hHeld := hHeld'; clear hHeld'
  try simp only [Act.put, List.setIfInBounds_toArray, List.set_cons_zero, List.set_cons_succ]
  refine wpAnyH_take (i := 2) (v := .int .i64 0) rfl (by kernel_rfl) (by kernel_rfl) (by kernel_rfl) (fun c a w h => hp c a _ _ w h) (Or.inl ⟨by kernel_rfl, fun X hX => ?_⟩) (by assumption) ?_
  · clear hX; go_simp
  try simp only [Act.put, List.setIfInBounds_toArray]
  refine wpAnyH_take (i := 3) (v := .bool true) rfl (by kernel_rfl) (by kernel_rfl) (by kernel_rfl) (fun c a w h => hp c a _ _ w h) (Or.inl ⟨by kernel_rfl, fun X hX => ?_⟩) (by assumption) ?_
  · clear hX; go_simp
  try simp only [Act.put]
  refine wpAnyH_take (i := 4) (v := .bool true) rfl (by kernel_rfl) (by kernel_rfl) (by kernel_rfl) (fun c a w h => hp c a _ _ w h) (Or.inl ⟨by kernel_rfl, fun X hX => ?_⟩) (by assumption) ?_
  · clear hX; go_simp
  try simp only [Act.put]
  refine wpAnyH_take (i := 5) (v := .agg #[.int .i64 7, .string ⟨#[]⟩, .int .i64 0, .slice none 0 0, .slice (some ⟨gb, 0, none⟩) 2 2, .slice (some ⟨ga, 0, none⟩) 1 1, .slice none 0 0]) rfl (by kernel_rfl) (by kernel_rfl) (by kernel_rfl) (fun c a w h => hp c a _ _ w h) (Or.inl ⟨by kernel_rfl, fun X hX => ?_⟩) (by assumption) ?_
  · obtain ⟨-, q0, q1, q2, q3, q4, q5, q6, -, -, -, -, -, -, -, -, -, -, -, -, -, -⟩ := hX; go_simp
  try simp only [Act.put]
  refine wpAnyH_ready (rs := [6]) (by kernel_rfl) (by simp) ?_
  refine AllReadyH.cons (o := _) rfl (fun K hK => ?_) AllReadyH.nil
  go_simp
  go_at_call 15
  refine (sizeLet_c _ _ (HV.lv.grow hS.out)).mono ?_
  rintro e x2 ⟨rfl, hb⟩
  have hS' : Hid (Below V.heap.size V x2) := up2n hS hb
  refine hK.out _ _ (HV.s6 hS') (fun hHeld' => ?_)
  clear hK K hb hS hHeld
  have hS := hS'; clear hS'; have hHeld := hHeld'; clear hHeld'
  try simp only [Act.put, List.setIfInBounds_toArray, List.set_cons_zero, List.set_cons_succ]
  refine wpAnyH_take (i := 7) (v := .bool true) rfl (by kernel_rfl) (by kernel_rfl) (by kernel_rfl) (fun c a w h => hp c a _ _ w h) (Or.inl ⟨by kernel_rfl, fun X hX => ?_⟩) (by assumption) ?_
  · clear hX; go_simp
  try simp only [Act.put, List.setIfInBounds_toArray]
  refine wpAnyH_take (i := 8) (v := .bool true) rfl (by kernel_rfl) (by kernel_rfl) (by kernel_rfl) (fun c a w h => hp c a _ _ w h) (Or.inl ⟨by kernel_rfl, fun X hX => ?_⟩) (by assumption) ?_
  · clear hX; go_simp
  try simp only [Act.put]
  refine wpAnyH_take (i := 9) (v := .bool true) rfl (by kernel_rfl) (by kernel_rfl) (by kernel_rfl) (fun c a w h => hp c a _ _ w h) (Or.inl ⟨by kernel_rfl, fun X hX => ?_⟩) (by assumption) ?_
  · clear hX; go_simp
  try simp only [Act.put]
  refine wpAnyH_take (i := 10) (v := .agg #[.int .i64 sk, .string ss, .int .i64 sm, .slice so3 sn3 sc3, .slice so4 sn4 sc4, .slice so5 sn5 sc5, .slice so6 sn6 sc6]) rfl (by kernel_rfl) (by kernel_rfl) (by kernel_rfl) (fun c a w h => hp c a _ _ w h) (Or.inl ⟨by kernel_rfl, fun X hX => ?_⟩) (by assumption) ?_
  · obtain ⟨-, -, -, -, -, -, -, -, q7, q8, q9, q10, q11, q12, q13, -, -, -, -, -, -, -⟩ := hX; go_simp
  try simp only [Act.put]
  refine wpAnyH_ready (rs := [11, 15]) (by kernel_rfl) (by simp) ?_
  refine AllReadyH.cons (o := _) rfl (fun K hK => ?_) (AllReadyH.cons (o := _) rfl (fun K hK => ?_) AllReadyH.nil)
  · go_simp
    go_at_call 10
    refine (lv_c _ _).mono ?_
    rintro e x3 ⟨rfl, hb⟩
    have hS' : Hid (Below V.heap.size V x3) := up2n hS hb
    refine hK.out _ _ (HV.s6 hS') (fun hHeld' => ?_)
    clear hK K hb hS hHeld
    have hS := hS'; clear hS'; have hHeld := hHeld'; clear hHeld'
    try simp only [Act.put, List.setIfInBounds_toArray, List.set_cons_zero, List.set_cons_succ]
    refine wpAnyH_ready (rs := [12, 15]) (by kernel_rfl) (by simp) ?_
    refine AllReadyH.cons (o := _) rfl (fun K hK => ?_) (AllReadyH.cons (o := _) rfl (fun K hK => ?_) AllReadyH.nil)
    · go_simp
      go_at_call 10
      refine (lv_c _ _).mono ?_
      rintro e x4 ⟨rfl, hb⟩
      have hS' : Hid (Below V.heap.size V x4) := up2n hS hb
      refine hK.out _ _ (HV.s6 hS') (fun hHeld' => ?_)
      clear hK K hb hS hHeld
      have hS := hS'; clear hS'; have hHeld := hHeld'; clear hHeld'
      try simp only [Act.put, List.setIfInBounds_toArray, List.set_cons_zero, List.set_cons_succ]
      refine wpAnyH_ready (rs := [13, 15]) (by kernel_rfl) (by simp) ?_
      refine AllReadyH.cons (o := _) rfl (fun K hK => ?_) (AllReadyH.cons (o := _) rfl (fun K hK => ?_) AllReadyH.nil)
      · go_simp
        have km : Blk (x4.alloc (.cells #[.int .i64 1, .string ⟨#[121]⟩, .int .i64 0, .slice none 0 0, .slice none 0 0, .slice none 0 0, .slice none 0 0, .int .i64 1, .string ⟨#[122]⟩, .int .i64 0, .slice none 0 0, .slice none 0 0, .slice none 0 0, .slice none 0 0] 31)) x4.heap.size #[.int .i64 1, .string ⟨#[121]⟩, .int .i64 0, .slice none 0 0, .slice none 0 0, .slice none 0 0, .slice none 0 0, .int .i64 1, .string ⟨#[122]⟩, .int .i64 0, .slice none 0 0, .slice none 0 0, .slice none 0 0, .slice none 0 0] 31 := Blk.new _ _ _
        have hS' : Hid (Below V.heap.size V (x4.alloc (.cells #[.int .i64 1, .string ⟨#[121]⟩, .int .i64 0, .slice none 0 0, .slice none 0 0, .slice none 0 0, .slice none 0 0, .int .i64 1, .string ⟨#[122]⟩, .int .i64 0, .slice none 0 0, .slice none 0 0, .slice none 0 0, .slice none 0 0] 31))) := up2n hS (below1 _ _)
        refine hK.out _ _ (HV.s6 hS') (fun hHeld' => ?_)
        clear hK K hS hHeld
        generalize x4.alloc (.cells #[.int .i64 1, .string ⟨#[121]⟩, .int .i64 0, .slice none 0 0, .slice none 0 0, .slice none 0 0, .slice none 0 0, .int .i64 1, .string ⟨#[122]⟩, .int .i64 0, .slice none 0 0, .slice none 0 0, .slice none 0 0, .slice none 0 0] 31) = x5 at km hS' hHeld' ⊢
        generalize x4.heap.size = gm at km ⊢
        have hS := hS'; clear hS'; have hHeld := hHeld'; clear hHeld'
        try simp only [Act.put, List.setIfInBounds_toArray, List.set_cons_zero, List.set_cons_succ]
        refine wpAnyH_ready (rs := [14, 15]) (by kernel_rfl) (by simp) ?_
        refine AllReadyH.cons (o := _) rfl (fun K hK => ?_) (AllReadyH.cons (o := _) rfl (fun K hK => ?_) AllReadyH.nil)
        · go_simp
          go_at_call 9
          refine (lapp_c _ _ _ _).mono ?_
          rintro e x6 ⟨rfl, hb⟩
          have hS' : Hid (Below V.heap.size V x6) := up2n hS hb
          replace km := km.below hb
          refine hK.out _ _ (HV.s6 hS') (fun hHeld' => ?_)
          clear hK K hb hS hHeld
          have hS := hS'; clear hS'; have hHeld := hHeld'; clear hHeld'
          try simp only [Act.put, List.setIfInBounds_toArray, List.set_cons_zero, List.set_cons_succ]
          refine wpAnyH_ready (rs := [15]) (by kernel_rfl) (by simp) ?_
          refine AllReadyH.cons (o := _) rfl (fun K hK => ?_) AllReadyH.nil
          go_simp
          have kz : Blk (x6.alloc (.cells #[.string ⟨#[122]⟩] 9)) x6.heap.size #[.string ⟨#[122]⟩] 9 := Blk.new _ _ _
          have hS' : Hid (Below V.heap.size V (x6.alloc (.cells #[.string ⟨#[122]⟩] 9))) := up2n hS (below1 _ _)
          replace km := km.below (below1 x6 (.cells #[.string ⟨#[122]⟩] 9))
          refine hK.out _ _ (HV.s6 hS') (fun hHeld' => ?_)
          clear hK K hS hHeld
          generalize x6.alloc (.cells #[.string ⟨#[122]⟩] 9) = x7 at km kz hS' hHeld' ⊢
          generalize x6.heap.size = gz at kz ⊢
          have hS := hS'; clear hS'; have hHeld := hHeld'; clear hHeld'
          try simp only [Act.put, List.setIfInBounds_toArray, List.set_cons_zero, List.set_cons_succ]
          exact pB1 V gl gs gt gb ga tg ta sk ss sm so3 sn3 sc3 so4 sn4 sc4 so5 sn5 sc5 so6 sn6 sc6 _ _ _ _ _ _ _ _ _ _ _ _ _ _ _ _ _ _ _ _ _ _ _ _ _ _ _ _ _ _ _ _ _ _ _ _ _ _ _ _ _ _ _ _ _ _ _ _ _ _ _ _ _ _ _ _ _ _ _ _ _ Q hp hq _ (by kernel_rfl) HV x7 hS kz km
        · go_simp
          have kz : Blk (x5.alloc (.cells #[.string ⟨#[122]⟩] 9)) x5.heap.size #[.string ⟨#[122]⟩] 9 := Blk.new _ _ _
          have hS' : Hid (Below V.heap.size V (x5.alloc (.cells #[.string ⟨#[122]⟩] 9))) := up2n hS (below1 _ _)
          replace km := km.below (below1 x5 (.cells #[.string ⟨#[122]⟩] 9))
          refine hK.out _ _ (HV.s6 hS') (fun hHeld' => ?_)
          clear hK K hS hHeld
          generalize x5.alloc (.cells #[.string ⟨#[122]⟩] 9) = x8 at km kz hS' hHeld' ⊢
          generalize x5.heap.size = gz at kz ⊢
          have hS := hS'; clear hS'; have hHeld := hHeld'; clear hHeld'
          try simp only [Act.put, List.setIfInBounds_toArray, List.set_cons_zero, List.set_cons_succ]
          refine wpAnyH_ready (rs := [14]) (by kernel_rfl) (by simp) ?_
          refine AllReadyH.cons (o := _) rfl (fun K hK => ?_) AllReadyH.nil
          go_simp
          go_at_call 9
          refine (lapp_c _ _ _ _).mono ?_
          rintro e x9 ⟨rfl, hb⟩
          have hS' : Hid (Below V.heap.size V x9) := up2n hS hb
          replace km := km.below hb
          replace kz := kz.below hb
          refine hK.out _ _ (HV.s6 hS') (fun hHeld' => ?_)
          clear hK K hb hS hHeld
          have hS := hS'; clear hS'; have hHeld := hHeld'; clear hHeld'
          try simp only [Act.put, List.setIfInBounds_toArray, List.set_cons_zero, List.set_cons_succ]
          exact pB1 V gl gs gt gb ga tg ta sk ss sm so3 sn3 sc3 so4 sn4 sc4 so5 sn5 sc5 so6 sn6 sc6 _ _ _ _ _ _ _ _ _ _ _ _ _ _ _ _ _ _ _ _ _ _ _ _ _ _ _ _ _ _ _ _ _ _ _ _ _ _ _ _ _ _ _ _ _ _ _ _ _ _ _ _ _ _ _ _ _ _ _ _ _ Q hp hq _ (by kernel_rfl) HV x9 hS kz km
      · go_simp
        have kz : Blk (x4.alloc (.cells #[.string ⟨#[122]⟩] 9)) x4.heap.size #[.string ⟨#[122]⟩] 9 := Blk.new _ _ _
        have hS' : Hid (Below V.heap.size V (x4.alloc (.cells #[.string ⟨#[122]⟩] 9))) := up2n hS (below1 _ _)
        refine hK.out _ _ (HV.s6 hS') (fun hHeld' => ?_)
        clear hK K hS hHeld
        generalize x4.alloc (.cells #[.string ⟨#[122]⟩] 9) = x10 at kz hS' hHeld' ⊢
        generalize x4.heap.size = gz at kz ⊢
        have hS := hS'; clear hS'; have hHeld := hHeld'; clear hHeld'
        try simp only [Act.put, List.setIfInBounds_toArray, List.set_cons_zero, List.set_cons_succ]
        refine wpAnyH_ready (rs := [13]) (by kernel_rfl) (by simp) ?_
        refine AllReadyH.cons (o := _) rfl (fun K hK => ?_) AllReadyH.nil
        go_simp
        have km : Blk (x10.alloc (.cells #[.int .i64 1, .string ⟨#[121]⟩, .int .i64 0, .slice none 0 0, .slice none 0 0, .slice none 0 0, .slice none 0 0, .int .i64 1, .string ⟨#[122]⟩, .int .i64 0, .slice none 0 0, .slice none 0 0, .slice none 0 0, .slice none 0 0] 31)) x10.heap.size #[.int .i64 1, .string ⟨#[121]⟩, .int .i64 0, .slice none 0 0, .slice none 0 0, .slice none 0 0, .slice none 0 0, .int .i64 1, .string ⟨#[122]⟩, .int .i64 0, .slice none 0 0, .slice none 0 0, .slice none 0 0, .slice none 0 0] 31 := Blk.new _ _ _
        have hS' : Hid (Below V.heap.size V (x10.alloc (.cells #[.int .i64 1, .string ⟨#[121]⟩, .int .i64 0, .slice none 0 0, .slice none 0 0, .slice none 0 0, .slice none 0 0, .int .i64 1, .string ⟨#[122]⟩, .int .i64 0, .slice none 0 0, .slice none 0 0, .slice none 0 0, .slice none 0 0] 31))) := up2n hS (below1 _ _)
        replace kz := kz.below (below1 x10 (.cells #[.int .i64 1, .string ⟨#[121]⟩, .int .i64 0, .slice none 0 0, .slice none 0 0, .slice none 0 0, .slice none 0 0, .int .i64 1, .string ⟨#[122]⟩, .int .i64 0, .slice none 0 0, .slice none 0 0, .slice none 0 0, .slice none 0 0] 31))
        refine hK.out _ _ (HV.s6 hS') (fun hHeld' => ?_)
        clear hK K hS hHeld
        generalize x10.alloc (.cells #[.int .i64 1, .string ⟨#[121]⟩, .int .i64 0, .slice none 0 0, .slice none 0 0, .slice none 0 0, .slice none 0 0, .int .i64 1, .string ⟨#[122]⟩, .int .i64 0, .slice none 0 0, .slice none 0 0, .slice none 0 0, .slice none 0 0] 31) = x11 at kz km hS' hHeld' ⊢
        generalize x10.heap.size = gm at km ⊢
        have hS := hS'; clear hS'; have hHeld := hHeld'; clear hHeld'
        try simp only [Act.put, List.setIfInBounds_toArray, List.set_cons_zero, List.set_cons_succ]
        refine wpAnyH_ready (rs := [14]) (by kernel_rfl) (by simp) ?_
        refine AllReadyH.cons (o := _) rfl (fun K hK => ?_) AllReadyH.nil
        go_simp
        go_at_call 9
        refine (lapp_c _ _ _ _).mono ?_
        rintro e x12 ⟨rfl, hb⟩
        have hS' : Hid (Below V.heap.size V x12) := up2n hS hb
        replace kz := kz.below hb
        replace km := km.below hb
        refine hK.out _ _ (HV.s6 hS') (fun hHeld' => ?_)
        clear hK K hb hS hHeld
        have hS := hS'; clear hS'; have hHeld := hHeld'; clear hHeld'
        try simp only [Act.put, List.setIfInBounds_toArray, List.set_cons_zero, List.set_cons_succ]
        exact pB1 V gl gs gt gb ga tg ta sk ss sm so3 sn3 sc3 so4 sn4 sc4 so5 sn5 sc5 so6 sn6 sc6 _ _ _ _ _ _ _ _ _ _ _ _ _ _ _ _ _ _ _ _ _ _ _ _ _ _ _ _ _ _ _ _ _ _ _ _ _ _ _ _ _ _ _ _ _ _ _ _ _ _ _ _ _ _ _ _ _ _ _ _ _ Q hp hq _ (by kernel_rfl) HV x12 hS kz km
    · go_simp
      have kz : Blk (x3.alloc (.cells #[.string ⟨#[122]⟩] 9)) x3.heap.size #[.string ⟨#[122]⟩] 9 := Blk.new _ _ _
      have hS' : Hid (Below V.heap.size V (x3.alloc (.cells #[.string ⟨#[122]⟩] 9))) := up2n hS (below1 _ _)
      refine hK.out _ _ (HV.s6 hS') (fun hHeld' => ?_)
      clear hK K hS hHeld
      generalize x3.alloc (.cells #[.string ⟨#[122]⟩] 9) = x13 at kz hS' hHeld' ⊢
      generalize x3.heap.size = gz at kz ⊢
      have hS := hS'; clear hS'; have hHeld := hHeld'; clear hHeld'
      try simp only [Act.put, List.setIfInBounds_toArray, List.set_cons_zero, List.set_cons_succ]
      refine wpAnyH_ready (rs := [12]) (by kernel_rfl) (by simp) ?_
      refine AllReadyH.cons (o := _) rfl (fun K hK => ?_) AllReadyH.nil
      go_simp
      go_at_call 10
      refine (lv_c _ _).mono ?_
      rintro e x14 ⟨rfl, hb⟩
      have hS' : Hid (Below V.heap.size V x14) := up2n hS hb
      replace kz := kz.below hb
      refine hK.out _ _ (HV.s6 hS') (fun hHeld' => ?_)
      clear hK K hb hS hHeld
      have hS := hS'; clear hS'; have hHeld := hHeld'; clear hHeld'
      try simp only [Act.put, List.setIfInBounds_toArray, List.set_cons_zero, List.set_cons_succ]
      refine wpAnyH_ready (rs := [13]) (by kernel_rfl) (by simp) ?_
      refine AllReadyH.cons (o := _) rfl (fun K hK => ?_) AllReadyH.nil
      go_simp
      have km : Blk (x14.alloc (.cells #[.int .i64 1, .string ⟨#[121]⟩, .int .i64 0, .slice none 0 0, .slice none 0 0, .slice none 0 0, .slice none 0 0, .int .i64 1, .string ⟨#[122]⟩, .int .i64 0, .slice none 0 0, .slice none 0 0, .slice none 0 0, .slice none 0 0] 31)) x14.heap.size #[.int .i64 1, .string ⟨#[121]⟩, .int .i64 0, .slice none 0 0, .slice none 0 0, .slice none 0 0, .slice none 0 0, .int .i64 1, .string ⟨#[122]⟩, .int .i64 0, .slice none 0 0, .slice none 0 0, .slice none 0 0, .slice none 0 0] 31 := Blk.new _ _ _
      have hS' : Hid (Below V.heap.size V (x14.alloc (.cells #[.int .i64 1, .string ⟨#[121]⟩, .int .i64 0, .slice none 0 0, .slice none 0 0, .slice none 0 0, .slice none 0 0, .int .i64 1, .string ⟨#[122]⟩, .int .i64 0, .slice none 0 0, .slice none 0 0, .slice none 0 0, .slice none 0 0] 31))) := up2n hS (below1 _ _)
      replace kz := kz.below (below1 x14 (.cells #[.int .i64 1, .string ⟨#[121]⟩, .int .i64 0, .slice none 0 0, .slice none 0 0, .slice none 0 0, .slice none 0 0, .int .i64 1, .string ⟨#[122]⟩, .int .i64 0, .slice none 0 0, .slice none 0 0, .slice none 0 0, .slice none 0 0] 31))
      refine hK.out _ _ (HV.s6 hS') (fun hHeld' => ?_)
      clear hK K hS hHeld
      generalize x14.alloc (.cells #[.int .i64 1, .string ⟨#[121]⟩, .int .i64 0, .slice none 0 0, .slice none 0 0, .slice none 0 0, .slice none 0 0, .int .i64 1, .string ⟨#[122]⟩, .int .i64 0, .slice none 0 0, .slice none 0 0, .slice none 0 0, .slice none 0 0] 31) = x15 at kz km hS' hHeld' ⊢
      generalize x14.heap.size = gm at km ⊢
      have hS := hS'; clear hS'; have hHeld := hHeld'; clear hHeld'
      try simp only [Act.put, List.setIfInBounds_toArray, List.set_cons_zero, List.set_cons_succ]
      refine wpAnyH_ready (rs := [14]) (by kernel_rfl) (by simp) ?_
      refine AllReadyH.cons (o := _) rfl (fun K hK => ?_) AllReadyH.nil
      go_simp
      go_at_call 9
      refine (lapp_c _ _ _ _).mono ?_
      rintro e x16 ⟨rfl, hb⟩
      have hS' : Hid (Below V.heap.size V x16) := up2n hS hb
      replace kz := kz.below hb
      replace km := km.below hb
      refine hK.out _ _ (HV.s6 hS') (fun hHeld' => ?_)
      clear hK K hb hS hHeld
      have hS := hS'; clear hS'; have hHeld := hHeld'; clear hHeld'
      try simp only [Act.put, List.setIfInBounds_toArray, List.set_cons_zero, List.set_cons_succ]
      exact pB1 V gl gs gt gb ga tg ta sk ss sm so3 sn3 sc3 so4 sn4 sc4 so5 sn5 sc5 so6 sn6 sc6 _ _ _ _ _ _ _ _ _ _ _ _ _ _ _ _ _ _ _ _ _ _ _ _ _ _ _ _ _ _ _ _ _ _ _ _ _ _ _ _ _ _ _ _ _ _ _ _ _ _ _ _ _ _ _ _ _ _ _ _ _ Q hp hq _ (by kernel_rfl) HV x16 hS kz km
  · go_simp
    have kz : Blk (x2.alloc (.cells #[.string ⟨#[122]⟩] 9)) x2.heap.size #[.string ⟨#[122]⟩] 9 := Blk.new _ _ _
    have hS' : Hid (Below V.heap.size V (x2.alloc (.cells #[.string ⟨#[122]⟩] 9))) := up2n hS (below1 _ _)
    refine hK.out _ _ (HV.s6 hS') (fun hHeld' => ?_)
    clear hK K hS hHeld
    generalize x2.alloc (.cells #[.string ⟨#[122]⟩] 9) = x17 at kz hS' hHeld' ⊢
    generalize x2.heap.size = gz at kz ⊢
    have hS := hS'; clear hS'; have hHeld := hHeld'; clear hHeld'
    try simp only [Act.put, List.setIfInBounds_toArray, List.set_cons_zero, List.set_cons_succ]
    refine wpAnyH_ready (rs := [11]) (by kernel_rfl) (by simp) ?_
    refine AllReadyH.cons (o := _) rfl (fun K hK => ?_) AllReadyH.nil
    go_simp
    go_at_call 10
    refine (lv_c _ _).mono ?_
    rintro e x18 ⟨rfl, hb⟩
    have hS' : Hid (Below V.heap.size V x18) := up2n hS hb
    replace kz := kz.below hb
    refine hK.out _ _ (HV.s6 hS') (fun hHeld' => ?_)
    clear hK K hb hS hHeld
    have hS := hS'; clear hS'; have hHeld := hHeld'; clear hHeld'
    try simp only [Act.put, List.setIfInBounds_toArray, List.set_cons_zero, List.set_cons_succ]
    refine wpAnyH_ready (rs := [12]) (by kernel_rfl) (by simp) ?_
    refine AllReadyH.cons (o := _) rfl (fun K hK => ?_) AllReadyH.nil
    go_simp
    go_at_call 10
    refine (lv_c _ _).mono ?_
    rintro e x19 ⟨rfl, hb⟩
    have hS' : Hid (Below V.heap.size V x19) := up2n hS hb
    replace kz := kz.below hb
    refine hK.out _ _ (HV.s6 hS') (fun hHeld' => ?_)
    clear hK K hb hS hHeld
    have hS := hS'; clear hS'; have hHeld := hHeld'; clear hHeld'
    try simp only [Act.put, List.setIfInBounds_toArray, List.set_cons_zero, List.set_cons_succ]
    refine wpAnyH_ready (rs := [13]) (by kernel_rfl) (by simp) ?_
    refine AllReadyH.cons (o := _) rfl (fun K hK => ?_) AllReadyH.nil
    go_simp
    have km : Blk (x19.alloc (.cells #[.int .i64 1, .string ⟨#[121]⟩, .int .i64 0, .slice none 0 0, .slice none 0 0, .slice none 0 0, .slice none 0 0, .int .i64 1, .string ⟨#[122]⟩, .int .i64 0, .slice none 0 0, .slice none 0 0, .slice none 0 0, .slice none 0 0] 31)) x19.heap.size #[.int .i64 1, .string ⟨#[121]⟩, .int .i64 0, .slice none 0 0, .slice none 0 0, .slice none 0 0, .slice none 0 0, .int .i64 1, .string ⟨#[122]⟩, .int .i64 0, .slice none 0 0, .slice none 0 0, .slice none 0 0, .slice none 0 0] 31 := Blk.new _ _ _
    have hS' : Hid (Below V.heap.size V (x19.alloc (.cells #[.int .i64 1, .string ⟨#[121]⟩, .int .i64 0, .slice none 0 0, .slice none 0 0, .slice none 0 0, .slice none 0 0, .int .i64 1, .string ⟨#[122]⟩, .int .i64 0, .slice none 0 0, .slice none 0 0, .slice none 0 0, .slice none 0 0] 31))) := up2n hS (below1 _ _)
    replace kz := kz.below (below1 x19 (.cells #[.int .i64 1, .string ⟨#[121]⟩, .int .i64 0, .slice none 0 0, .slice none 0 0, .slice none 0 0, .slice none 0 0, .int .i64 1, .string ⟨#[122]⟩, .int .i64 0, .slice none 0 0, .slice none 0 0, .slice none 0 0, .slice none 0 0] 31))
    refine hK.out _ _ (HV.s6 hS') (fun hHeld' => ?_)
    clear hK K hS hHeld
    generalize x19.alloc (.cells #[.int .i64 1, .string ⟨#[121]⟩, .int .i64 0, .slice none 0 0, .slice none 0 0, .slice none 0 0, .slice none 0 0, .int .i64 1, .string ⟨#[122]⟩, .int .i64 0, .slice none 0 0, .slice none 0 0, .slice none 0 0, .slice none 0 0] 31) = x20 at kz km hS' hHeld' ⊢
    generalize x19.heap.size = gm at km ⊢
    have hS := hS'; clear hS'; have hHeld := hHeld'; clear hHeld'
    try simp only [Act.put, List.setIfInBounds_toArray, List.set_cons_zero, List.set_cons_succ]
    refine wpAnyH_ready (rs := [14]) (by kernel_rfl) (by simp) ?_
    refine AllReadyH.cons (o := _) rfl (fun K hK => ?_) AllReadyH.nil
    go_simp
    go_at_call 9
    refine (lapp_c _ _ _ _).mono ?_
    rintro e x21 ⟨rfl, hb⟩
    have hS' : Hid (Below V.heap.size V x21) := up2n hS hb
    replace kz := kz.below hb
    replace km := km.below hb
    refine hK.out _ _ (HV.s6 hS') (fun hHeld' => ?_)
    clear hK K hb hS hHeld
    have hS := hS'; clear hS'; have hHeld := hHeld'; clear hHeld'
    try simp only [Act.put, List.setIfInBounds_toArray, List.set_cons_zero, List.set_cons_succ]
    exact pB1 V gl gs gt gb ga tg ta sk ss sm so3 sn3 sc3 so4 sn4 sc4 so5 sn5 sc5 so6 sn6 sc6 _ _ _ _ _ _ _ _ _ _ _ _ _ _ _ _ _ _ _ _ _ _ _ _ _ _ _ _ _ _ _ _ _ _ _ _ _ _ _ _ _ _ _ _ _ _ _ _ _ _ _ _ _ _ _ _ _ _ _ _ _ Q hp hq _ (by kernel_rfl) HV x21 hS kz km
end Go.Proofs.YtegdloenakachaaGreatDoor
