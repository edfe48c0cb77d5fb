/-
  The last line of CoreNames, by parts: one operation a step.
-/
import Derived.Test.YtegdloenakachaaGreatDoorCN32
import Derived.Deep.RegionHeld3
namespace Go.Proofs.YtegdloenakachaaGreatDoor
open Go.RowKit Go.Shelf Go.Maps
set_option linter.unusedVariables false
set_option maxRecDepth 100000 in
set_option maxHeartbeats 8000000 in
theorem pB3 (V : World) (gl gs gt gb ga tg ta : Nat) (sk : Int) (ss : ByteArray) (sm : Int) (so3 : Option Addr) (sn3 sc3 : Nat) (so4 : Option Addr) (sn4 sc4 : Nat) (so5 : Option Addr) (sn5 sc5 : Nat) (so6 : Option Addr) (sn6 sc6 : Nat) (a4 a5 a6 a7 a8 a9 a10 a11 a12 a13 a14 a15 a16 a17 a18 a19 a20 a21 a22 a23 a24 a25 a26 a27 a28 a29 a30 a31 a32 a33 a34 a35 a36 a37 a38 a39 a40 a41 a42 a43 a44 a45 a46 a47 a48 a49 a50 a51 a52 a53 a54 a55 a56 a57 a58 a59 a60 a61 a62 a63 a64 a65 a66 a67 a68 a69 a70 a71 a72 a73 a74 a75 a76 a77 a78 a79 a80 a81 a82 a83 a84 a85 a86 a87 a88 a89 a90 a91 a92 a93 a94 a95 a96 : Value) (Q : Exit → Act → World → Prop) (hp : ∀ (c : _) (a : Act) (d : Tmp) (v : Value) (w : World), Q (.panic c) (a.put (some d) v) w → Q (.panic c) a w) (hq : ∀ (b4 b5 b6 b7 b8 b9 b10 b11 b12 b13 b14 b15 b16 b17 b18 b19 b20 b21 b22 b23 b24 b25 b26 b27 b28 b29 b30 b31 b32 b33 b34 b35 b36 b37 b38 b39 b40 b41 b42 b43 b44 b45 b46 b47 b48 b49 b50 b51 b52 b53 b54 b55 b56 b57 b58 b59 b60 b61 b62 b63 b64 b65 b66 b67 b68 b69 b70 b71 b72 b73 b74 b75 b76 b77 b78 b79 b80 b81 b82 b83 b84 b85 b86 b87 b88 b89 b90 b91 b92 b93 b94 b95 b96 b97 b98 b99 b100 b101 b102 b103 b104 b105 b106 b107 b108 : Value) (X : World), Hid (Below V.heap.size V X) → Q .normal ⟨#[.bool true, .pointer (some ⟨gl, 0, none⟩), .pointer (some ⟨gs, 0, none⟩), .pointer (some ⟨gt, 0, none⟩), b4, b5, b6, b7, b8, b9, b10, b11, b12, b13, b14, b15, b16, b17, b18, b19, b20, b21, b22, b23, b24, b25, b26, b27, b28, b29, b30, b31, b32, b33, b34, b35, b36, b37, b38, b39, b40, b41, b42, b43, b44, b45, b46, b47, b48, b49, b50, b51, b52, b53, b54, b55, b56, b57, b58, b59, b60, b61, b62, b63, b64, b65, b66, b67, b68, b69, b70, b71, b72, b73, b74, b75, b76, b77, b78, b79, b80, b81, b82, b83, b84, b85, b86, b87, b88, b89, b90, b91, b92, b93, b94, b95, b96, b97, b98, b99, b100, b101, b102, b103, b104, b105, b106, b107, b108], []⟩ X) (ops : Array Oper) (ho : Tryz.f3.body.bind (regOf 6) = some ops) (HV : Nm V gl gs gt gb ga tg ta sk ss sm so3 sn3 sc3 so4 sn4 sc4 so5 sn5 sc5 so6 sn6 sc6) (x0 : World) (hS : Hid (Below V.heap.size V x0)) :
    wpAnyH Tryz.prog .any ops Q (S6 V gl gs gt gb ga tg ta sk ss sm so3 sn3 sc3 so4 sn4 sc4 so5 sn5 sc5 so6 sn6 sc6) 12 #[true, true, true, true, true, true, true, true, true, true, true, true, true, true, true, true, true, true, true, true, true, true, true, true, true, true, true, true, true, true, true, true, true, true, true, true, true, true, true, true, true, true, true, true, false, false, false, false, false, false, false, false, false, false, false, false] ⟨#[.bool false, .pointer (some ⟨gl, 0, none⟩), .pointer (some ⟨gs, 0, none⟩), .pointer (some ⟨gt, 0, none⟩), a4, a5, a6, a7, a8, a9, a10, a11, a12, a13, a14, a15, a16, a17, a18, a19, a20, a21, a22, a23, a24, a25, a26, a27, a28, a29, a30, a31, a32, a33, a34, a35, a36, a37, a38, a39, a40, a41, a42, a43, a44, a45, a46, a47, a48, a49, a50, a51, a52, a53, a54, a55, a56, a57, a58, a59, a60, a61, a62, a63, a64, a65, a66, a67, a68, a69, a70, a71, a72, a73, a74, a75, a76, a77, a78, a79, a80, a81, a82, a83, a84, a85, a86, a87, a88, a89, a90, a91, a92, a93, a94, a95, a96, .bool true, undef, undef, undef, undef, undef, undef, undef, undef, undef, undef, undef], []⟩ x0 := by
  have hHeld : S6 V gl gs gt gb ga tg ta sk ss sm so3 sn3 sc3 so4 sn4 sc4 so5 sn5 sc5 so6 sn6 sc6 x0 := HV.s6 hS
  conv at ho => lhs; whnf
  cases ho
  refine wpAnyH_ready (rs := [44]) (by kernel_rfl) (by simp) ?_
  refine AllReadyH.cons (o := _) rfl (fun K hK => ?_) AllReadyH.nil
  go_simp
  go_at_call 7
  refine (builtin7_c _).mono ?_
  rintro e x1 ⟨rfl, hBn, hb⟩
  have hS' : Hid (Below V.heap.size V x1) := up2n hS hb
  refine hK.out _ _ (HV.s6 hS') (fun hHeld' => ?_)
  clear hK K hb hS hHeld
  generalize x0.heap.size = g98 at hBn ⊢
  have hS := hS'; clear hS'; have hHeld := hHeld'; clear hHeld'
  try simp only [List.setIfInBounds_toArray, List.set_cons_zero, List.set_cons_succ]
  refine wpAnyH_take (i := 45) (v := .agg #[.slice (some ⟨g98, 0, none⟩) 5 5, .slice none 0 0]) rfl (by kernel_rfl) (by kernel_rfl) (by kernel_rfl) (fun c a w h => hp c a _ _ w h) (Or.inl ⟨by kernel_rfl, fun X hX => ?_⟩) (by assumption) ?_
  · clear hX; go_simp
  try simp only [Act.put, List.setIfInBounds_toArray, List.set_cons_zero, List.set_cons_succ]
  refine wpAnyH_ready (rs := [46]) (by kernel_rfl) (by simp) ?_
  refine AllReadyH.cons (o := _) rfl (fun K hK => ?_) AllReadyH.nil
  go_simp
  go_at_call 17
  refine (none_ck _ _ hBn).mono ?_
  rintro e x2 ⟨rfl, hb⟩
  have hS' : Hid (Below V.heap.size V x2) := up2n hS hb
  refine hK.out _ _ (HV.s6 hS') (fun hHeld' => ?_)
  clear hK K hb hS hHeld hBn
  have hS := hS'; clear hS'; have hHeld := hHeld'; clear hHeld'
  try simp only [List.setIfInBounds_toArray, List.set_cons_zero, List.set_cons_succ]
  refine wpAnyH_take (i := 47) (v := .bool true) rfl (by kernel_rfl) (by kernel_rfl) (by kernel_rfl) (fun c a w h => hp c a _ _ w h) (Or.inl ⟨by kernel_rfl, fun X hX => ?_⟩) (by assumption) ?_
  · clear hX; go_simp
  try simp only [Act.put, List.setIfInBounds_toArray, List.set_cons_zero, List.set_cons_succ]
  refine wpAnyH_take (i := 48) (v := .bool true) rfl (by kernel_rfl) (by kernel_rfl) (by kernel_rfl) (fun c a w h => hp c a _ _ w h) (Or.inl ⟨by kernel_rfl, fun X hX => ?_⟩) (by assumption) ?_
  · clear hX; go_simp
  try simp only [Act.put, List.setIfInBounds_toArray, List.set_cons_zero, List.set_cons_succ]
  refine wpAnyH_take (i := 49) (v := .bool true) rfl (by kernel_rfl) (by kernel_rfl) (by kernel_rfl) (fun c a w h => hp c a _ _ w h) (Or.inl ⟨by kernel_rfl, fun X hX => ?_⟩) (by assumption) ?_
  · clear hX; go_simp
  try simp only [Act.put, List.setIfInBounds_toArray, List.set_cons_zero, List.set_cons_succ]
  refine wpAnyH_ready (rs := [50]) (by kernel_rfl) (by simp) ?_
  refine AllReadyH.cons (o := _) rfl (fun K hK => ?_) AllReadyH.nil
  go_simp
  go_at_call 10
  refine (lv_c _ _).mono ?_
  rintro e x3 ⟨rfl, hb⟩
  have hS' : Hid (Below V.heap.size V x3) := up2n hS hb
  refine hK.out _ _ (HV.s6 hS') (fun hHeld' => ?_)
  clear hK K hb hS hHeld
  have hS := hS'; clear hS'; have hHeld := hHeld'; clear hHeld'
  try simp only [List.setIfInBounds_toArray, List.set_cons_zero, List.set_cons_succ]
  refine wpAnyH_ready (rs := [51]) (by kernel_rfl) (by simp) ?_
  refine AllReadyH.cons (o := _) rfl (fun K hK => ?_) AllReadyH.nil
  go_simp
  go_at_call 18
  refine (ckVar_c _).mono ?_
  rintro e x4 ⟨u105, rfl, hb, hCk⟩
  have hS' : Hid (Below V.heap.size V x4) := up2n hS hb
  refine hK.out _ _ (HV.s6 hS') (fun hHeld' => ?_)
  clear hK K hb hS hHeld
  have hS := hS'; clear hS'; have hHeld := hHeld'; clear hHeld'
  try simp only [List.setIfInBounds_toArray, List.set_cons_zero, List.set_cons_succ]
  refine wpAnyH_ready (rs := [52]) (by kernel_rfl) (by simp) ?_
  refine AllReadyH.cons (o := _) rfl (fun K hK => ?_) AllReadyH.nil
  go_simp
  go_at_call 17
  refine (hCk).mono ?_
  rintro e x5 ⟨rfl, hb⟩
  have hS' : Hid (Below V.heap.size V x5) := up2n hS hb
  refine hK.out _ _ (HV.s6 hS') (fun hHeld' => ?_)
  clear hK K hb hS hHeld hCk
  have hS := hS'; clear hS'; have hHeld := hHeld'; clear hHeld'
  try simp only [List.setIfInBounds_toArray, List.set_cons_zero, List.set_cons_succ]
  refine wpAnyH_take (i := 53) (v := .bool true) rfl (by kernel_rfl) (by kernel_rfl) (by kernel_rfl) (fun c a w h => hp c a _ _ w h) (Or.inl ⟨by kernel_rfl, fun X hX => ?_⟩) (by assumption) ?_
  · clear hX; go_simp
  try simp only [Act.put, List.setIfInBounds_toArray, List.set_cons_zero, List.set_cons_succ]
  refine wpAnyH_take (i := 54) (v := .bool true) rfl (by kernel_rfl) (by kernel_rfl) (by kernel_rfl) (fun c a w h => hp c a _ _ w h) (Or.inl ⟨by kernel_rfl, fun X hX => ?_⟩) (by assumption) ?_
  · clear hX; go_simp
  try simp only [Act.put, List.setIfInBounds_toArray, List.set_cons_zero, List.set_cons_succ]
  refine wpAnyH_take (i := 55) (v := .bool true) rfl (by kernel_rfl) (by kernel_rfl) (by kernel_rfl) (fun c a w h => hp c a _ _ w h) (Or.inl ⟨by kernel_rfl, fun X hX => ?_⟩) (by assumption) ?_
  · clear hX; go_simp
  try simp only [Act.put, List.setIfInBounds_toArray, List.set_cons_zero, List.set_cons_succ]
  refine wpAnyH_done (by kernel_rfl) ?_ _
  exact hq _ _ _ _ _ _ _ _ _ _ _ _ _ _ _ _ _ _ _ _ _ _ _ _ _ _ _ _ _ _ _ _ _ _ _ _ _ _ _ _ _ _ _ _ _ _ _ _ _ _ _ _ _ _ _ _ _ _ _ _ _ _ _ _ _ _ _ _ _ _ _ _ _ _ _ _ _ _ _ _ _ _ _ _ _ _ _ _ _ _ _ _ _ _ _ _ _ _ _ _ _ _ _ _ _ _ hS
set_option maxRecDepth 100000 in
set_option maxHeartbeats 8000000 in
theorem pB2 (V : World) (gl gs gt gb ga tg ta : Nat) (sk : Int) (ss : ByteArray) (sm : Int) (so3 : Option Addr) (sn3 sc3 : Nat) (so4 : Option Addr) (sn4 sc4 : Nat) (so5 : Option Addr) (sn5 sc5 : Nat) (so6 : Option Addr) (sn6 sc6 : Nat) (a4 a5 a6 a7 a8 a9 a10 a11 a12 a13 a14 a15 a16 a17 a18 a19 a20 a21 a22 a23 a24 a25 a26 a27 a28 a29 a30 a31 a32 a33 a34 a35 a36 a37 a38 a39 a40 a41 a42 a43 a44 a45 a46 a47 a48 a49 a50 a51 a52 a53 a54 a55 a56 a57 a58 a59 a60 a61 a62 a63 a64 a65 a66 a67 a68 a69 a70 a71 a72 a73 a74 a75 a76 a77 a78 a79 a80 : Value) (Q : Exit → Act → World → Prop) (hp : ∀ (c : _) (a : Act) (d : Tmp) (v : Value) (w : World), Q (.panic c) (a.put (some d) v) w → Q (.panic c) a w) (hq : ∀ (b4 b5 b6 b7 b8 b9 b10 b11 b12 b13 b14 b15 b16 b17 b18 b19 b20 b21 b22 b23 b24 b25 b26 b27 b28 b29 b30 b31 b32 b33 b34 b35 b36 b37 b38 b39 b40 b41 b42 b43 b44 b45 b46 b47 b48 b49 b50 b51 b52 b53 b54 b55 b56 b57 b58 b59 b60 b61 b62 b63 b64 b65 b66 b67 b68 b69 b70 b71 b72 b73 b74 b75 b76 b77 b78 b79 b80 b81 b82 b83 b84 b85 b86 b87 b88 b89 b90 b91 b92 b93 b94 b95 b96 b97 b98 b99 b100 b101 b102 b103 b104 b105 b106 b107 b108 : Value) (X : World), Hid (Below V.heap.size V X) → Q .normal ⟨#[.bool true, .pointer (some ⟨gl, 0, none⟩), .pointer (some ⟨gs, 0, none⟩), .pointer (some ⟨gt, 0, none⟩), b4, b5, b6, b7, b8, b9, b10, b11, b12, b13, b14, b15, b16, b17, b18, b19, b20, b21, b22, b23, b24, b25, b26, b27, b28, b29, b30, b31, b32, b33, b34, b35, b36, b37, b38, b39, b40, b41, b42, b43, b44, b45, b46, b47, b48, b49, b50, b51, b52, b53, b54, b55, b56, b57, b58, b59, b60, b61, b62, b63, b64, b65, b66, b67, b68, b69, b70, b71, b72, b73, b74, b75, b76, b77, b78, b79, b80, b81, b82, b83, b84, b85, b86, b87, b88, b89, b90, b91, b92, b93, b94, b95, b96, b97, b98, b99, b100, b101, b102, b103, b104, b105, b106, b107, b108], []⟩ X) (ops : Array Oper) (ho : Tryz.f3.body.bind (regOf 6) = some ops) (HV : Nm V gl gs gt gb ga tg ta sk ss sm so3 sn3 sc3 so4 sn4 sc4 so5 sn5 sc5 so6 sn6 sc6) (x0 : World) (hS : Hid (Below V.heap.size V x0)) :
    wpAnyH Tryz.prog .any ops Q (S6 V gl gs gt gb ga tg ta sk ss sm so3 sn3 sc3 so4 sn4 sc4 so5 sn5 sc5 so6 sn6 sc6) 28 #[true, true, true, true, true, true, true, true, true, true, true, true, true, true, true, true, true, true, true, true, true, true, true, true, true, true, true, true, false, false, false, false, false, false, false, false, false, false, false, false, false, false, false, false, false, false, false, false, false, false, false, false, false, false, false, false] ⟨#[.bool false, .pointer (some ⟨gl, 0, none⟩), .pointer (some ⟨gs, 0, none⟩), .pointer (some ⟨gt, 0, none⟩), a4, a5, a6, a7, a8, a9, a10, a11, a12, a13, a14, a15, a16, a17, a18, a19, a20, a21, a22, a23, a24, a25, a26, a27, a28, a29, a30, a31, a32, a33, a34, a35, a36, a37, a38, a39, a40, a41, a42, a43, a44, a45, a46, a47, a48, a49, a50, a51, a52, a53, a54, a55, a56, a57, a58, a59, a60, a61, a62, a63, a64, a65, a66, a67, a68, a69, a70, a71, a72, a73, a74, a75, a76, a77, a78, a79, a80, .bool true, undef, undef, undef, undef, undef, undef, undef, undef, undef, undef, undef, undef, undef, undef, undef, undef, undef, undef, undef, undef, undef, undef, undef, undef, undef, undef, undef], []⟩ x0 := by
  have hHeld : S6 V gl gs gt gb ga tg ta sk ss sm so3 sn3 sc3 so4 sn4 sc4 so5 sn5 sc5 so6 sn6 sc6 x0 := HV.s6 hS
  conv at ho => lhs; whnf
  cases ho
  refine wpAnyH_ready (rs := [28]) (by kernel_rfl) (by simp) ?_
  refine AllReadyH.cons (o := _) rfl (fun K hK => ?_) AllReadyH.nil
  go_simp
  go_at_call 11
  refine (lnum_c _ _).mono ?_
  rintro e x1 ⟨rfl, hb⟩
  have hS' : Hid (Below V.heap.size V x1) := up2n hS hb
  refine hK.out _ _ (HV.s6 hS') (fun hHeld' => ?_)
  clear hK K hb hS hHeld
  have hS := hS'; clear hS'; have hHeld := hHeld'; clear hHeld'
  try simp only [List.setIfInBounds_toArray, List.set_cons_zero, List.set_cons_succ]
  refine wpAnyH_ready (rs := [29]) (by kernel_rfl) (by simp) ?_
  refine AllReadyH.cons (o := _) rfl (fun K hK => ?_) AllReadyH.nil
  go_simp
  go_at_call 11
  refine (lnum_c _ _).mono ?_
  rintro e x2 ⟨rfl, hb⟩
  have hS' : Hid (Below V.heap.size V x2) := up2n hS hb
  refine hK.out _ _ (HV.s6 hS') (fun hHeld' => ?_)
  clear hK K hb hS hHeld
  have hS := hS'; clear hS'; have hHeld := hHeld'; clear hHeld'
  try simp only [List.setIfInBounds_toArray, List.set_cons_zero, List.set_cons_succ]
  refine wpAnyH_ready (rs := [30]) (by kernel_rfl) (by simp) ?_
  refine AllReadyH.cons (o := _) rfl (fun K hK => ?_) AllReadyH.nil
  go_simp
  go_at_call 11
  refine (lnum_c _ _).mono ?_
  rintro e x3 ⟨rfl, hb⟩
  have hS' : Hid (Below V.heap.size V x3) := up2n hS hb
  refine hK.out _ _ (HV.s6 hS') (fun hHeld' => ?_)
  clear hK K hb hS hHeld
  have hS := hS'; clear hS'; have hHeld := hHeld'; clear hHeld'
  try simp only [List.setIfInBounds_toArray, List.set_cons_zero, List.set_cons_succ]
  refine wpAnyH_ready (rs := [31]) (by kernel_rfl) (by simp) ?_
  refine AllReadyH.cons (o := _) rfl (fun K hK => ?_) AllReadyH.nil
  go_simp
  have kB : Blk (x3.alloc (.cells #[.int .i64 2, .string ⟨#[]⟩, .int .i64 1, .slice none 0 0, .slice none 0 0, .slice none 0 0, .slice none 0 0, .int .i64 2, .string ⟨#[]⟩, .int .i64 2, .slice none 0 0, .slice none 0 0, .slice none 0 0, .slice none 0 0, .int .i64 2, .string ⟨#[]⟩, .int .i64 3, .slice none 0 0, .slice none 0 0, .slice none 0 0, .slice none 0 0] 31)) x3.heap.size #[.int .i64 2, .string ⟨#[]⟩, .int .i64 1, .slice none 0 0, .slice none 0 0, .slice none 0 0, .slice none 0 0, .int .i64 2, .string ⟨#[]⟩, .int .i64 2, .slice none 0 0, .slice none 0 0, .slice none 0 0, .slice none 0 0, .int .i64 2, .string ⟨#[]⟩, .int .i64 3, .slice none 0 0, .slice none 0 0, .slice none 0 0, .slice none 0 0] 31 := Blk.new _ _ _
  have hS' : Hid (Below V.heap.size V (x3.alloc (.cells #[.int .i64 2, .string ⟨#[]⟩, .int .i64 1, .slice none 0 0, .slice none 0 0, .slice none 0 0, .slice none 0 0, .int .i64 2, .string ⟨#[]⟩, .int .i64 2, .slice none 0 0, .slice none 0 0, .slice none 0 0, .slice none 0 0, .int .i64 2, .string ⟨#[]⟩, .int .i64 3, .slice none 0 0, .slice none 0 0, .slice none 0 0, .slice none 0 0] 31))) := up2n hS (below1 _ _)
  refine hK.out _ _ (HV.s6 hS') (fun hHeld' => ?_)
  clear hK K hS hHeld
  generalize x3.alloc (.cells #[.int .i64 2, .string ⟨#[]⟩, .int .i64 1, .slice none 0 0, .slice none 0 0, .slice none 0 0, .slice none 0 0, .int .i64 2, .string ⟨#[]⟩, .int .i64 2, .slice none 0 0, .slice none 0 0, .slice none 0 0, .slice none 0 0, .int .i64 2, .string ⟨#[]⟩, .int .i64 3, .slice none 0 0, .slice none 0 0, .slice none 0 0, .slice none 0 0] 31) = x4 at kB hS' hHeld' ⊢
  generalize x3.heap.size = g85 at kB ⊢
  have hS := hS'; clear hS'; have hHeld := hHeld'; clear hHeld'
  try simp only [List.setIfInBounds_toArray, List.set_cons_zero, List.set_cons_succ]
  refine wpAnyH_ready (rs := [32]) (by kernel_rfl) (by simp) ?_
  refine AllReadyH.cons (o := _) rfl (fun K hK => ?_) AllReadyH.nil
  go_simp
  go_at_call 20
  refine (lprim_c _ _ _ _ _).mono ?_
  rintro e x5 ⟨rfl, hb⟩
  have hS' : Hid (Below V.heap.size V x5) := up2n hS hb
  replace kB := kB.below hb
  refine hK.out _ _ (HV.s6 hS') (fun hHeld' => ?_)
  clear hK K hb hS hHeld
  have hS := hS'; clear hS'; have hHeld := hHeld'; clear hHeld'
  try simp only [List.setIfInBounds_toArray, List.set_cons_zero, List.set_cons_succ]
  refine wpAnyH_ready (rs := [33]) (by kernel_rfl) (by simp) ?_
  refine AllReadyH.cons (o := _) rfl (fun K hK => ?_) AllReadyH.nil
  go_simp
  go_at_call 18
  refine (prm_ck _ _ _ kB).mono ?_
  rintro e x6 ⟨u87, rfl, hb, hCk⟩
  have hS' : Hid (Below V.heap.size V x6) := up2n hS hb
  refine hK.out _ _ (HV.s6 hS') (fun hHeld' => ?_)
  clear hK K hb hS hHeld kB
  have hS := hS'; clear hS'; have hHeld := hHeld'; clear hHeld'
  try simp only [List.setIfInBounds_toArray, List.set_cons_zero, List.set_cons_succ]
  refine wpAnyH_ready (rs := [34]) (by kernel_rfl) (by simp) ?_
  refine AllReadyH.cons (o := _) rfl (fun K hK => ?_) AllReadyH.nil
  go_simp
  go_at_call 17
  refine (hCk).mono ?_
  rintro e x7 ⟨rfl, hb⟩
  have hS' : Hid (Below V.heap.size V x7) := up2n hS hb
  refine hK.out _ _ (HV.s6 hS') (fun hHeld' => ?_)
  clear hK K hb hS hHeld hCk
  have hS := hS'; clear hS'; have hHeld := hHeld'; clear hHeld'
  try simp only [List.setIfInBounds_toArray, List.set_cons_zero, List.set_cons_succ]
  refine wpAnyH_take (i := 35) (v := .bool true) rfl (by kernel_rfl) (by kernel_rfl) (by kernel_rfl) (fun c a w h => hp c a _ _ w h) (Or.inl ⟨by kernel_rfl, fun X hX => ?_⟩) (by assumption) ?_
  · clear hX; go_simp
  try simp only [Act.put, List.setIfInBounds_toArray, List.set_cons_zero, List.set_cons_succ]
  refine wpAnyH_take (i := 36) (v := .bool true) rfl (by kernel_rfl) (by kernel_rfl) (by kernel_rfl) (fun c a w h => hp c a _ _ w h) (Or.inl ⟨by kernel_rfl, fun X hX => ?_⟩) (by assumption) ?_
  · clear hX; go_simp
  try simp only [Act.put, List.setIfInBounds_toArray, List.set_cons_zero, List.set_cons_succ]
  refine wpAnyH_take (i := 37) (v := .bool true) rfl (by kernel_rfl) (by kernel_rfl) (by kernel_rfl) (fun c a w h => hp c a _ _ w h) (Or.inl ⟨by kernel_rfl, fun X hX => ?_⟩) (by assumption) ?_
  · clear hX; go_simp
  try simp only [Act.put, List.setIfInBounds_toArray, List.set_cons_zero, List.set_cons_succ]
  refine wpAnyH_take (i := 38) (v := .agg #[.int .i64 8, .string ⟨#[]⟩, .int .i64 0, .slice none 0 0, .slice none 0 0, .slice (some ⟨tg, 0, none⟩) 1 1, .slice (some ⟨ta, 0, none⟩) 2 2]) rfl (by kernel_rfl) (by kernel_rfl) (by kernel_rfl) (fun c a w h => hp c a _ _ w h) (Or.inl ⟨by kernel_rfl, fun X hX => ?_⟩) (by assumption) ?_
  · obtain ⟨-, -, -, -, -, -, -, -, -, -, -, -, -, -, -, q14, q15, q16, q17, q18, q19, q20⟩ := hX; go_simp
  try simp only [Act.put, List.setIfInBounds_toArray, List.set_cons_zero, List.set_cons_succ]
  refine wpAnyH_ready (rs := [39]) (by kernel_rfl) (by simp) ?_
  refine AllReadyH.cons (o := _) rfl (fun K hK => ?_) AllReadyH.nil
  go_simp
  go_at_call 18
  refine (two_ck _ _ 31 40 _ (HV.t1.below hS.out) (HV.t2.below hS.out)).mono ?_
  rintro e x8 ⟨u93, rfl, hb, hCk⟩
  have hS' : Hid (Below V.heap.size V x8) := up2n hS hb
  refine hK.out _ _ (HV.s6 hS') (fun hHeld' => ?_)
  clear hK K hb hS hHeld
  have hS := hS'; clear hS'; have hHeld := hHeld'; clear hHeld'
  try simp only [List.setIfInBounds_toArray, List.set_cons_zero, List.set_cons_succ]
  refine wpAnyH_ready (rs := [40]) (by kernel_rfl) (by simp) ?_
  refine AllReadyH.cons (o := _) rfl (fun K hK => ?_) AllReadyH.nil
  go_simp
  go_at_call 17
  refine (hCk).mono ?_
  rintro e x9 ⟨rfl, hb⟩
  have hS' : Hid (Below V.heap.size V x9) := up2n hS hb
  refine hK.out _ _ (HV.s6 hS') (fun hHeld' => ?_)
  clear hK K hb hS hHeld hCk
  have hS := hS'; clear hS'; have hHeld := hHeld'; clear hHeld'
  try simp only [List.setIfInBounds_toArray, List.set_cons_zero, List.set_cons_succ]
  refine wpAnyH_take (i := 41) (v := .bool true) rfl (by kernel_rfl) (by kernel_rfl) (by kernel_rfl) (fun c a w h => hp c a _ _ w h) (Or.inl ⟨by kernel_rfl, fun X hX => ?_⟩) (by assumption) ?_
  · clear hX; go_simp
  try simp only [Act.put, List.setIfInBounds_toArray, List.set_cons_zero, List.set_cons_succ]
  refine wpAnyH_take (i := 42) (v := .bool true) rfl (by kernel_rfl) (by kernel_rfl) (by kernel_rfl) (fun c a w h => hp c a _ _ w h) (Or.inl ⟨by kernel_rfl, fun X hX => ?_⟩) (by assumption) ?_
  · clear hX; go_simp
  try simp only [Act.put, List.setIfInBounds_toArray, List.set_cons_zero, List.set_cons_succ]
  refine wpAnyH_take (i := 43) (v := .bool true) rfl (by kernel_rfl) (by kernel_rfl) (by kernel_rfl) (fun c a w h => hp c a _ _ w h) (Or.inl ⟨by kernel_rfl, fun X hX => ?_⟩) (by assumption) ?_
  · clear hX; go_simp
  try simp only [Act.put, List.setIfInBounds_toArray, List.set_cons_zero, List.set_cons_succ]
  exact pB3 V gl gs gt gb ga tg ta sk ss sm so3 sn3 sc3 so4 sn4 sc4 so5 sn5 sc5 so6 sn6 sc6 _ _ _ _ _ _ _ _ _ _ _ _ _ _ _ _ _ _ _ _ _ _ _ _ _ _ _ _ _ _ _ _ _ _ _ _ _ _ _ _ _ _ _ _ _ _ _ _ _ _ _ _ _ _ _ _ _ _ _ _ _ _ _ _ _ _ _ _ _ _ _ _ _ _ _ _ _ _ _ _ _ _ _ _ _ _ _ _ _ _ _ _ _ Q hp hq _ (by kernel_rfl) HV x9 hS
set_option maxRecDepth 100000 in
set_option maxHeartbeats 8000000 in
theorem pB1 (V : World) (gl gs gt gb ga tg ta : Nat) (sk : Int) (ss : ByteArray) (sm : Int) (so3 : Option Addr) (sn3 sc3 : Nat) (so4 : Option Addr) (sn4 sc4 : Nat) (so5 : Option Addr) (sn5 sc5 : Nat) (so6 : Option Addr) (sn6 sc6 : Nat) (a4 a5 a6 a7 a8 a9 a10 a11 a12 a13 a14 a15 a16 a17 a18 a19 a20 a21 a22 a23 a24 a25 a26 a27 a28 a29 a30 a31 a32 a33 a34 a35 a36 a37 a38 a39 a40 a41 a42 a43 a44 a45 a46 a47 a48 a49 a50 a51 a52 a53 a54 a55 a56 a57 a58 a59 a60 a61 a62 : Value) (gm gz : Nat) (Q : Exit → Act → World → Prop) (hp : ∀ (c : _) (a : Act) (d : Tmp) (v : Value) (w : World), Q (.panic c) (a.put (some d) v) w → Q (.panic c) a w) (hq : ∀ (b4 b5 b6 b7 b8 b9 b10 b11 b12 b13 b14 b15 b16 b17 b18 b19 b20 b21 b22 b23 b24 b25 b26 b27 b28 b29 b30 b31 b32 b33 b34 b35 b36 b37 b38 b39 b40 b41 b42 b43 b44 b45 b46 b47 b48 b49 b50 b51 b52 b53 b54 b55 b56 b57 b58 b59 b60 b61 b62 b63 b64 b65 b66 b67 b68 b69 b70 b71 b72 b73 b74 b75 b76 b77 b78 b79 b80 b81 b82 b83 b84 b85 b86 b87 b88 b89 b90 b91 b92 b93 b94 b95 b96 b97 b98 b99 b100 b101 b102 b103 b104 b105 b106 b107 b108 : Value) (X : World), Hid (Below V.heap.size V X) → Q .normal ⟨#[.bool true, .pointer (some ⟨gl, 0, none⟩), .pointer (some ⟨gs, 0, none⟩), .pointer (some ⟨gt, 0, none⟩), b4, b5, b6, b7, b8, b9, b10, b11, b12, b13, b14, b15, b16, b17, b18, b19, b20, b21, b22, b23, b24, b25, b26, b27, b28, b29, b30, b31, b32, b33, b34, b35, b36, b37, b38, b39, b40, b41, b42, b43, b44, b45, b46, b47, b48, b49, b50, b51, b52, b53, b54, b55, b56, b57, b58, b59, b60, b61, b62, b63, b64, b65, b66, b67, b68, b69, b70, b71, b72, b73, b74, b75, b76, b77, b78, b79, b80, b81, b82, b83, b84, b85, b86, b87, b88, b89, b90, b91, b92, b93, b94, b95, b96, b97, b98, b99, b100, b101, b102, b103, b104, b105, b106, b107, b108], []⟩ X) (ops : Array Oper) (ho : Tryz.f3.body.bind (regOf 6) = some ops) (HV : Nm V gl gs gt gb ga tg ta sk ss sm so3 sn3 sc3 so4 sn4 sc4 so5 sn5 sc5 so6 sn6 sc6) (x0 : World) (hS : Hid (Below V.heap.size V x0)) (kz : Blk x0 gz #[.string ⟨#[122]⟩] 9) (km : Blk x0 gm #[.int .i64 1, .string ⟨#[121]⟩, .int .i64 0, .slice none 0 0, .slice none 0 0, .slice none 0 0, .slice none 0 0, .int .i64 1, .string ⟨#[122]⟩, .int .i64 0, .slice none 0 0, .slice none 0 0, .slice none 0 0, .slice none 0 0] 31) :
    wpAnyH Tryz.prog .any ops Q (S6 V gl gs gt gb ga tg ta sk ss sm so3 sn3 sc3 so4 sn4 sc4 so5 sn5 sc5 so6 sn6 sc6) 40 #[true, true, true, true, true, true, true, true, true, true, true, true, true, true, true, true, false, false, false, false, false, false, false, false, false, false, false, false, false, false, false, false, false, false, false, false, false, false, false, false, false, false, false, false, false, false, false, false, false, false, false, false, false, false, false, false] ⟨#[.bool false, .pointer (some ⟨gl, 0, none⟩), .pointer (some ⟨gs, 0, none⟩), .pointer (some ⟨gt, 0, none⟩), a4, a5, a6, a7, a8, a9, a10, a11, a12, a13, a14, a15, a16, a17, a18, a19, a20, a21, a22, a23, a24, a25, a26, a27, a28, a29, a30, a31, a32, a33, a34, a35, a36, a37, a38, a39, a40, a41, a42, a43, a44, a45, a46, a47, a48, a49, a50, a51, a52, a53, a54, a55, a56, a57, a58, a59, a60, a61, a62, .bool true, .agg #[.int .i64 sk, .string ss, .int .i64 sm, .slice so3 sn3 sc3, .slice so4 sn4 sc4, .slice so5 sn5 sc5, .slice so6 sn6 sc6], .agg #[.int .i64 1, .string ⟨#[121]⟩, .int .i64 0, .slice none 0 0, .slice none 0 0, .slice none 0 0, .slice none 0 0], .agg #[.int .i64 1, .string ⟨#[122]⟩, .int .i64 0, .slice none 0 0, .slice none 0 0, .slice none 0 0, .slice none 0 0], .slice (some ⟨gm, 0, none⟩) 2 2, .agg #[.int .i64 6, .string ⟨#[]⟩, .int .i64 0, .slice none 0 0, .slice none 0 0, .slice (some ⟨gm, 0, none⟩) 2 2, .slice none 0 0], .slice (some ⟨gz, 0, none⟩) 1 1, undef, undef, undef, undef, undef, undef, undef, undef, undef, undef, undef, undef, undef, undef, undef, undef, undef, undef, undef, undef, undef, undef, undef, undef, undef, undef, undef, undef, undef, undef, undef, undef, undef, undef, undef, undef, undef, undef, undef], []⟩ x0 := by
  have hHeld : S6 V gl gs gt gb ga tg ta sk ss sm so3 sn3 sc3 so4 sn4 sc4 so5 sn5 sc5 so6 sn6 sc6 x0 := HV.s6 hS
  conv at ho => lhs; whnf
  cases ho
  refine wpAnyH_ready (rs := [16]) (by kernel_rfl) (by simp) ?_
  refine AllReadyH.cons (o := _) rfl (fun K hK => ?_) AllReadyH.nil
  go_simp
  go_at_call 13
  refine (lamZ_c _ _ 9 31 _ kz km).mono ?_
  rintro e x1 ⟨M, rfl, hLa, hb⟩
  have hS' : Hid (Below V.heap.size V x1) := up2n hS hb
  replace kz := kz.below hb
  replace km := km.below hb
  refine hK.out _ _ (HV.s6 hS') (fun hHeld' => ?_)
  clear hK K hb hS hHeld
  have hS := hS'; clear hS'; have hHeld := hHeld'; clear hHeld'
  try simp only [List.setIfInBounds_toArray, List.set_cons_zero, List.set_cons_succ]
  refine wpAnyH_ready (rs := [17]) (by kernel_rfl) (by simp) ?_
  refine AllReadyH.cons (o := _) rfl (fun K hK => ?_) AllReadyH.nil
  go_simp
  go_at_call 16
  refine (sameEx_c _ _ _ (HV.sv.grow hS.out) hLa).mono ?_
  rintro e x2 ⟨rfl, hb⟩
  have hS' : Hid (Below V.heap.size V x2) := up2n hS hb
  refine hK.out _ _ (HV.s6 hS') (fun hHeld' => ?_)
  clear hK K hb hS hHeld hLa kz km
  have hS := hS'; clear hS'; have hHeld := hHeld'; clear hHeld'
  try simp only [List.setIfInBounds_toArray, List.set_cons_zero, List.set_cons_succ]
  refine wpAnyH_take (i := 18) (v := .bool true) rfl (by kernel_rfl) (by kernel_rfl) (by kernel_rfl) (fun c a w h => hp c a _ _ w h) (Or.inl ⟨by kernel_rfl, fun X hX => ?_⟩) (by assumption) ?_
  · clear hX; go_simp
  try simp only [Act.put, List.setIfInBounds_toArray, List.set_cons_zero, List.set_cons_succ]
  refine wpAnyH_take (i := 19) (v := .bool true) rfl (by kernel_rfl) (by kernel_rfl) (by kernel_rfl) (fun c a w h => hp c a _ _ w h) (Or.inl ⟨by kernel_rfl, fun X hX => ?_⟩) (by assumption) ?_
  · clear hX; go_simp
  try simp only [Act.put, List.setIfInBounds_toArray, List.set_cons_zero, List.set_cons_succ]
  refine wpAnyH_ready (rs := [20]) (by kernel_rfl) (by simp) ?_
  refine AllReadyH.cons (o := _) rfl (fun K hK => ?_) AllReadyH.nil
  go_simp
  go_at_call 11
  refine (lnum_c _ _).mono ?_
  rintro e x3 ⟨rfl, hb⟩
  have hS' : Hid (Below V.heap.size V x3) := up2n hS hb
  refine hK.out _ _ (HV.s6 hS') (fun hHeld' => ?_)
  clear hK K hb hS hHeld
  have hS := hS'; clear hS'; have hHeld := hHeld'; clear hHeld'
  try simp only [List.setIfInBounds_toArray, List.set_cons_zero, List.set_cons_succ]
  refine wpAnyH_ready (rs := [21]) (by kernel_rfl) (by simp) ?_
  refine AllReadyH.cons (o := _) rfl (fun K hK => ?_) AllReadyH.nil
  go_simp
  have kB : Blk (x3.alloc (.cells #[.int .i64 2, .string ⟨#[]⟩, .int .i64 1, .slice none 0 0, .slice none 0 0, .slice none 0 0, .slice none 0 0] 31)) x3.heap.size #[.int .i64 2, .string ⟨#[]⟩, .int .i64 1, .slice none 0 0, .slice none 0 0, .slice none 0 0, .slice none 0 0] 31 := Blk.new _ _ _
  have hS' : Hid (Below V.heap.size V (x3.alloc (.cells #[.int .i64 2, .string ⟨#[]⟩, .int .i64 1, .slice none 0 0, .slice none 0 0, .slice none 0 0, .slice none 0 0] 31))) := up2n hS (below1 _ _)
  refine hK.out _ _ (HV.s6 hS') (fun hHeld' => ?_)
  clear hK K hS hHeld
  generalize x3.alloc (.cells #[.int .i64 2, .string ⟨#[]⟩, .int .i64 1, .slice none 0 0, .slice none 0 0, .slice none 0 0, .slice none 0 0] 31) = x4 at kB hS' hHeld' ⊢
  generalize x3.heap.size = g75 at kB ⊢
  have hS := hS'; clear hS'; have hHeld := hHeld'; clear hHeld'
  try simp only [List.setIfInBounds_toArray, List.set_cons_zero, List.set_cons_succ]
  refine wpAnyH_ready (rs := [22]) (by kernel_rfl) (by simp) ?_
  refine AllReadyH.cons (o := _) rfl (fun K hK => ?_) AllReadyH.nil
  go_simp
  go_at_call 19
  refine (lcon_c _ _ _ _ _).mono ?_
  rintro e x5 ⟨rfl, hb⟩
  have hS' : Hid (Below V.heap.size V x5) := up2n hS hb
  replace kB := kB.below hb
  refine hK.out _ _ (HV.s6 hS') (fun hHeld' => ?_)
  clear hK K hb hS hHeld
  have hS := hS'; clear hS'; have hHeld := hHeld'; clear hHeld'
  try simp only [List.setIfInBounds_toArray, List.set_cons_zero, List.set_cons_succ]
  refine wpAnyH_ready (rs := [23]) (by kernel_rfl) (by simp) ?_
  refine AllReadyH.cons (o := _) rfl (fun K hK => ?_) AllReadyH.nil
  go_simp
  go_at_call 18
  refine (con_ck _ _ _ kB).mono ?_
  rintro e x6 ⟨u77, rfl, hb, hCk⟩
  have hS' : Hid (Below V.heap.size V x6) := up2n hS hb
  refine hK.out _ _ (HV.s6 hS') (fun hHeld' => ?_)
  clear hK K hb hS hHeld kB
  have hS := hS'; clear hS'; have hHeld := hHeld'; clear hHeld'
  try simp only [List.setIfInBounds_toArray, List.set_cons_zero, List.set_cons_succ]
  refine wpAnyH_ready (rs := [24]) (by kernel_rfl) (by simp) ?_
  refine AllReadyH.cons (o := _) rfl (fun K hK => ?_) AllReadyH.nil
  go_simp
  go_at_call 17
  refine (hCk).mono ?_
  rintro e x7 ⟨rfl, hb⟩
  have hS' : Hid (Below V.heap.size V x7) := up2n hS hb
  refine hK.out _ _ (HV.s6 hS') (fun hHeld' => ?_)
  clear hK K hb hS hHeld hCk
  have hS := hS'; clear hS'; have hHeld := hHeld'; clear hHeld'
  try simp only [List.setIfInBounds_toArray, List.set_cons_zero, List.set_cons_succ]
  refine wpAnyH_take (i := 25) (v := .bool true) rfl (by kernel_rfl) (by kernel_rfl) (by kernel_rfl) (fun c a w h => hp c a _ _ w h) (Or.inl ⟨by kernel_rfl, fun X hX => ?_⟩) (by assumption) ?_
  · clear hX; go_simp
  try simp only [Act.put, List.setIfInBounds_toArray, List.set_cons_zero, List.set_cons_succ]
  refine wpAnyH_take (i := 26) (v := .bool true) rfl (by kernel_rfl) (by kernel_rfl) (by kernel_rfl) (fun c a w h => hp c a _ _ w h) (Or.inl ⟨by kernel_rfl, fun X hX => ?_⟩) (by assumption) ?_
  · clear hX; go_simp
  try simp only [Act.put, List.setIfInBounds_toArray, List.set_cons_zero, List.set_cons_succ]
  refine wpAnyH_take (i := 27) (v := .bool true) rfl (by kernel_rfl) (by kernel_rfl) (by kernel_rfl) (fun c a w h => hp c a _ _ w h) (Or.inl ⟨by kernel_rfl, fun X hX => ?_⟩) (by assumption) ?_
  · clear hX; go_simp
  try simp only [Act.put, List.setIfInBounds_toArray, List.set_cons_zero, List.set_cons_succ]
  exact pB2 V gl gs gt gb ga tg ta sk ss sm so3 sn3 sc3 so4 sn4 sc4 so5 sn5 sc5 so6 sn6 sc6 _ _ _ _ _ _ _ _ _ _ _ _ _ _ _ _ _ _ _ _ _ _ _ _ _ _ _ _ _ _ _ _ _ _ _ _ _ _ _ _ _ _ _ _ _ _ _ _ _ _ _ _ _ _ _ _ _ _ _ _ _ _ _ _ _ _ _ _ _ _ _ _ _ _ _ _ _ Q hp hq _ (by kernel_rfl) HV x7 hS
end Go.Proofs.YtegdloenakachaaGreatDoor
