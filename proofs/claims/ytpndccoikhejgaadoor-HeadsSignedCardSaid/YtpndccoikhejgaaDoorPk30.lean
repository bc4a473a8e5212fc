/-
  HeadPutP.
-/
import Derived.Test.YtpndccoikhejgaaDoorPk29
import Derived.Test.YtpndccoikhejgaaDoorPk06
import Derived.Test.YtpndccoikhejgaaDoorPk05
import Derived.Test.YtpndccoikhejgaaDoorPk04
import Derived.Test.YtpndccoikhejgaaDoorPk02
import Derived.Test.YtpndccoikhejgaaDoorPk03
import Derived.Test.YtpndccoikhejgaaDoorPk26
namespace Go.Proofs.YtpndccoikhejgaaDoor
open Go.RowKit Go.Great
set_option linter.unusedVariables false
set_option maxRecDepth 100000

/-- What Digest holds: the head, its result, the tables. -/
structure DgP (w wr : World) (HV : Array Value) : Prop where
  head : Row wr w.heap.size 25 HV
  out : ∃ C, Row wr (w.heap.size + 1) 23 C ∧ C.size = 32
  tab0 : Tab w
  below : Below w.heap.size w wr
theorem DgP.tab {w wr : World} {HV : Array Value} (h : DgP w wr HV) : Tab wr := h.tab0.next h.below
theorem DgP.next {w wr w1 : World} {HV : Array Value} (h : DgP w wr HV) (hb : Below wr.heap.size wr w1) : DgP w w1 HV := by
  obtain ⟨C, h1, h2⟩ := h.out
  exact ⟨h.head.next hb, ⟨C, h1.next hb, h2⟩, h.tab0, below_new h.below hb⟩
theorem DgP.put {w wr : World} {HV C : Array Value} (h : DgP w wr HV) (hC : C.size = 32) : DgP w (wr.setRow (w.heap.size + 1) C) HV := by
  obtain ⟨C', h1, h2⟩ := h.out
  exact ⟨h.head.wfar (by omega) _, ⟨C, h1.whole _, hC⟩, h.tab0, below_setRow h.below (by omega)⟩
theorem DgP.start {w : World} (HV : Array Value) (hT : Tab w) : DgP w ((w.alloc (.cells HV 25)).alloc (.cells (nums .u8 (List.replicate 32 0)) 23)) HV :=
  have hb : Below w.heap.size w ((w.alloc (.cells HV 25)).alloc (.cells (nums .u8 (List.replicate 32 0)) 23)) := ((Below.refl _ _).alloc (Nat.le_refl _) _).alloc (by simp) _
  ⟨(Row.made _ _ _).alloc _, ⟨_, Row.made2 _ _ _ _, by rw [nums_size]; simp⟩, hT, hb⟩
attribute [local go_sem ↓ high] read_at write_at read_d
set_option maxHeartbeats 4000000 in
theorem headDigest_any (s : Int) (h64 : num64 s) (r : List Int) (hr : r.length = 32 ∧ bytes r) (w : World) (hT : Tab w) :
    Calls Tryd.prog 12 #[.agg (headV s r)] w fun e w' => e = .returned (.agg (nums .u8 (digF s r))) ∧ Below w.heap.size w w' := by
  obtain ⟨HV, hHV⟩ : ∃ C, C = headV s r := ⟨_, rfl⟩
  obtain ⟨C, hC⟩ : ∃ C, Hid (C = nums .u8 (digF s r)) := ⟨_, Lib.hid rfl⟩
  obtain ⟨R, hR⟩ : ∃ C, Hid (C = nums .u8 r) := ⟨_, Lib.hid rfl⟩
  have zC : Hid (C.size = 32) := Lib.hid (by rw [hC.out, nums_size]; exact (digF_is s r).1)
  have oC : Hid (C.all (·.oneCell') = true) := Lib.hid (by rw [hC.out]; exact nums_one _ _)
  have CF : Hid (∀ W, Row W w.heap.size 25 HV → W.cell? ⟨w.heap.size, 0, none⟩ = some (.int .i64 s)) := Lib.hid fun W h => by subst hHV; exact head_cells h
  have RT : Hid (∀ W, Row W w.heap.size 25 HV → (readAt (.pointer (some ⟨w.heap.size, 1, none⟩))).run Tryd.prog W = .ok (.agg R) W) := Lib.hid fun W h => by subst hHV; rw [hR.out]; exact head_root h hr.1
  obtain ⟨P8, hP8⟩ : ∃ P, Hid (P = putS (s % 18446744073709551616) 8) := ⟨_, Lib.hid rfl⟩
  obtain ⟨RS, hRS⟩ : ∃ P, Hid (P = strOfNums r) := ⟨_, Lib.hid rfl⟩
  have zP : Hid (P8.size = 8) := Lib.hid (by rw [hP8.out]; exact putS_size8 _)
  have zR : Hid (RS.size = 32) := Lib.hid (by rw [hRS.out, strOfNums_size]; exact hr.1)
  have X1 : Hid (∀ W, Calls Tryd.prog 37 #[.int .u64 (s % 18446744073709551616), .int .i64 8] W fun e w' => e = .returned (.string P8) ∧ Below W.heap.size W w') := Lib.hid fun W => by
    rw [hP8.out]; exact put_any _ 8 W (by omega)
  have X2 : Hid (∀ W, Calls Tryd.prog 29 #[.agg R] W fun e w' => e = .returned (.string RS) ∧ Below W.heap.size W w') := Lib.hid fun W => by
    rw [hR.out, hRS.out]; exact hash_any r hr.1 W
  have X3 : Hid (∀ W, Tab W → Calls Tryd.prog 36 #[.string (⟨#[5]⟩ ++ P8 ++ RS)] W fun e w' => e = .returned (.agg C) ∧ Below W.heap.size W w') := Lib.hid fun W hT => by
    rw [hC.out, hP8.out, hRS.out]; exact sum_any (digS s r) (by unfold digS; rw [ByteArray.size_append, ByteArray.size_append, ← hP8.out, ← hRS.out, zP.out, zR.out]; decide) W hT
  have ja := join_text ⟨#[5]⟩ P8 (by rw [zP.out]; decide)
  have jb := join_text (⟨#[5]⟩ ++ P8) RS (by rw [ByteArray.size_append, zP.out, zR.out]; decide)
  have H0 := Lib.hid (DgP.start HV hT)
  have uw : IntKind.u64.wrap s = s % 18446744073709551616 := by rw [IntKind.wrap_u64]
  rw [← hHV, ← hC.out]
  clear hHV hr hC h64 hT
  go_enter Tryd.func12, Tryd.ntmps12
  go_upto_region 1 with fail
  refine world_gen (fun X => DgP w X HV) H0.out (fun X HX => ?_)
  have HX := Lib.hid HX
  clear H0
  refine wp_region_fk (fun W => DgP w W HV) (.get 0 (.get 1 (.get 2 (.get 5 (.get 6 (.call 3 (.get 4 (.call 7 (.get 8 (.call 9 (.call 10 .done))))))))))) (by kernel_rfl) rfl (by kernel_rfl) (by kernel_rfl) (by intro c a d v w h; cases d <;> exact h) (HX.out.next (Below.refl _ _).drew) (fun Q' hQ => ?_)
  have HS := Lib.hid (HX.out.next (Below.refl _ _).drew)
  have HQ := Lib.hid hQ
  clear hQ HX
  refine wpFk_get rfl (by rfl) (fun K hK => ?_)
  refine ⟨?_, fun w' hS' => ?_, ?_⟩
  rotate_left
  · go_simp
    try (with_reducible rfl)
  try go_simp
  refine hK _ ?_
  clear hK K
  refine wpFk_get rfl (by rfl) (fun K hK => ?_)
  refine ⟨?_, fun w' hS' => ?_, ?_⟩
  rotate_left
  · have c0 := CF.out _ hS'.head
    go_simp
    try (with_reducible rfl)
  try go_simp
  refine hK _ ?_
  clear hK K
  refine wpFk_get rfl (by rfl) (fun K hK => ?_)
  refine ⟨?_, fun w' hS' => ?_, ?_⟩
  rotate_left
  · go_simp
    try (with_reducible rfl)
  try go_simp
  refine hK _ ?_
  clear hK K
  refine wpFk_get rfl (by rfl) (fun K hK => ?_)
  refine ⟨?_, fun w' hS' => ?_, ?_⟩
  rotate_left
  · go_simp
    try (with_reducible rfl)
  try go_simp
  refine hK _ ?_
  clear hK K
  refine wpFk_get rfl (by rfl) (fun K hK => ?_)
  refine ⟨_, fun w' hS' => get_load rfl rfl (RT.out _ hS'.head), ?_⟩
  try go_simp
  refine hK _ ?_
  clear hK K
  refine wpFk_call rfl (by rfl) (fun K hK => ?_)
  go_simp
  go_at_call 37
  (with_reducible refine (X1.out _).mono ?_)
  rintro e w1x ⟨rfl, hb⟩
  replace HS := Lib.hid (HS.out.next hb)
  clear hb
  refine hK _ _ HS.out ?_
  clear hK K
  refine wpFk_get rfl (by rfl) (fun K hK => ?_)
  refine ⟨?_, fun w' hS' => ?_, ?_⟩
  rotate_left
  · go_simp
    try (with_reducible rfl)
  try go_simp
  refine hK _ ?_
  clear hK K
  refine wpFk_call rfl (by rfl) (fun K hK => ?_)
  go_simp
  go_at_call 29
  (with_reducible refine (X2.out _).mono ?_)
  rintro e w1x ⟨rfl, hb⟩
  replace HS := Lib.hid (HS.out.next hb)
  clear hb
  refine hK _ _ HS.out ?_
  clear hK K
  refine wpFk_get rfl (by rfl) (fun K hK => ?_)
  refine ⟨?_, fun w' hS' => ?_, ?_⟩
  rotate_left
  · go_simp
    try (with_reducible rfl)
  try go_simp
  refine hK _ ?_
  clear hK K
  refine wpFk_call rfl (by rfl) (fun K hK => ?_)
  go_simp
  go_at_call 36
  (with_reducible refine (X3.out _ HS.out.tab).mono ?_)
  rintro e w1x ⟨rfl, hb⟩
  replace HS := Lib.hid (HS.out.next hb)
  clear hb
  refine hK _ _ HS.out ?_
  clear hK K
  refine wpFk_call rfl (by rfl) (fun K hK => ?_)
  obtain ⟨Z, hZ, hz⟩ := HS.out.out
  have s6 := hZ.write hz zC.out oC.out
  go_simp
  clear s6
  have HF := Lib.hid (DgP.put HS.out zC.out)
  have HR := Lib.hid (hZ.whole C)
  clear HS hZ hz
  have HS := HF
  refine hK _ _ HS.out ?_
  clear hK K
  refine wpFk_done ?_
  refine HQ.out _ _ ?_
  clear HQ HF
  go_wp2
  refine bodyPost_ret (results_cell_row rfl _ _ (w.heap.size + 1) 23 _ (0, 0) _ rfl HR.out Tryd.underlying23 rfl (sizeH _ zC.out)) rfl ⟨rfl, HS.out.below⟩
attribute [local go_sem ↓ high] read_g read_s
set_option maxHeartbeats 4000000 in
theorem headPut_any (x : Sh) (hf : x.fits) (A : Option Addr) (c : Nat) (w : World) (hA : HW w A x.path) :
    Calls Tryd.prog 10 #[.agg (signedV x.size x.root x.index x.sig A x.path.length c)] w fun e w' => e = .returned (.tuple #[.string (putF x).1, .int .i64 (putF x).2]) ∧ Below w.heap.size w w' := by
  obtain ⟨C, hC⟩ : ∃ C, C = signedV x.size x.root x.index x.sig A x.path.length c := ⟨_, rfl⟩
  obtain ⟨n, hn⟩ : ∃ n, Hid (n = x.path.length) := ⟨_, Lib.hid rfl⟩
  have CF : Hid (∀ W, Row W w.heap.size 34 C → W.cell? ⟨w.heap.size, 0, none⟩ = some (.int .i64 x.size) ∧ W.cell? ⟨w.heap.size, 33, none⟩ = some (.int .i64 x.index) ∧ W.cell? ⟨w.heap.size, 34, none⟩ = some (.string x.sig) ∧ W.cell? ⟨w.heap.size, 35, none⟩ = some (.slice A n c)) := Lib.hid fun W h => by subst hC; rw [hn.out]; exact signed_cells h hf.1.1
  have GA : Hid (∀ W, Row W w.heap.size 34 C → (readG (.pointer (some ⟨w.heap.size, 0, none⟩))).run Tryd.prog W = .ok (.agg C) W) := Lib.hid fun W h => by subst hC; exact signed_all h hf.1.1
  have VA : Hid (∀ W, Calls Tryd.prog 14 #[.agg C] W fun e w' => e = .returned (.bool (decide x.ok)) ∧ Below W.heap.size W w') := Lib.hid fun W => by subst hC; exact headValid_any x hf.1.1 A c W
  have H0 := Lib.hid (PtH.start C hA)
  by_cases ho : x.ok
  · rw [decide_eq_true ho] at VA
    have HE0 : putF x = (headS x, 0) := by unfold putF; rw [if_pos ho]
    obtain ⟨sn, hsn⟩ : ∃ sn : Nat, x.size = (sn : Int) := ⟨x.size.toNat, by have := ho.1; omega⟩
    obtain ⟨kn, hkn⟩ : ∃ kn : Nat, x.index = (kn : Int) := ⟨x.index.toNat, by have := ho.2.1; omega⟩
    have hs1 : sn ≤ 4096 := by have := ho.1; omega
    have hk1 : kn ≤ 7 := by have := ho.2.1; omega
    have hz := ho.2.2.1
    have hp3 := ho.2.2.2
    obtain ⟨R, hR⟩ : ∃ C, Hid (C = nums .u8 x.root) := ⟨_, Lib.hid rfl⟩
    have RT : Hid (∀ W, Row W w.heap.size 34 C → (readAt (.pointer (some ⟨w.heap.size, 1, none⟩))).run Tryd.prog W = .ok (.agg R) W) := Lib.hid fun W h => by subst hC; rw [hR.out]; exact signed_root h hf.1.1
    obtain ⟨S1, hS1⟩ : ∃ S, Hid (S = numS sn) := ⟨_, Lib.hid rfl⟩
    obtain ⟨S2, hS2⟩ : ∃ S, Hid (S = strOfNums x.root) := ⟨_, Lib.hid rfl⟩
    obtain ⟨S3, hS3⟩ : ∃ S, Hid (S = numS kn) := ⟨_, Lib.hid rfl⟩
    obtain ⟨S4, hS4⟩ : ∃ S, Hid (S = textS x.sig) := ⟨_, Lib.hid rfl⟩
    obtain ⟨S5, hS5⟩ : ∃ S, Hid (S = listS x.path) := ⟨_, Lib.hid rfl⟩
    have z1 : S1.size ≤ 10 := by rw [hS1.out]; exact numS_size sn (by omega)
    have z2 : S2.size = 32 := by rw [hS2.out, strOfNums_size]; exact hf.1.1
    have z3 : S3.size ≤ 10 := by rw [hS3.out]; exact numS_size kn (by omega)
    have z4 : S4.size ≤ 16394 := by rw [hS4.out]; unfold textS; rw [ByteArray.size_append, hz]; have := numS_size 16384 (by decide); omega
    have z5 : S5.size ≤ 106 := by
      rw [hS5.out, listS_is x.path (by omega), ByteArray.size_append, strOfNums_size, flat_length hf.2, hp3]
      have := numS_size 3 (by decide); omega
    have X1 : Hid (∀ W, Calls Tryd.prog 28 #[.int .u64 (sn : Int)] W fun e w' => e = .returned (.string S1) ∧ Below W.heap.size W w') := Lib.hid fun W => by rw [hS1.out]; exact num_any sn (by omega) W
    have X2 : Hid (∀ W, Calls Tryd.prog 29 #[.agg R] W fun e w' => e = .returned (.string S2) ∧ Below W.heap.size W w') := Lib.hid fun W => by rw [hR.out, hS2.out]; exact hash_any x.root hf.1.1 W
    have X3 : Hid (∀ W, Calls Tryd.prog 28 #[.int .u64 (kn : Int)] W fun e w' => e = .returned (.string S3) ∧ Below W.heap.size W w') := Lib.hid fun W => by rw [hS3.out]; exact num_any kn (by omega) W
    have X4 : Hid (∀ W, Calls Tryd.prog 30 #[.string x.sig] W fun e w' => e = .returned (.string S4) ∧ Below W.heap.size W w') := Lib.hid fun W => by rw [hS4.out]; exact text_any x.sig (by omega) W
    have X5 : Hid (∀ W, HW W A x.path → Calls Tryd.prog 31 #[.slice A n c] W fun e w' => e = .returned (.string S5) ∧ Below W.heap.size W w') := Lib.hid fun W h => by rw [hS5.out, hn.out]; exact hashes_any x.path hf.2 A c W h (by rw [hp3]; decide)
    have HE : Hid (S1 ++ S2 ++ (S3 ++ S4 ++ S5) = headS x) := Lib.hid (by
      rw [hS1.out, hS2.out, hS3.out, hS4.out, hS5.out]
      unfold headS
      rw [hsn, hkn]
      simp only [ByteArray.append_assoc, Int.toNat_natCast])
    have ja := join_text S1 S2 (by omega)
    have jb := join_text S3 S4 (by omega)
    have jc := join_text (S3 ++ S4) S5 (by rw [ByteArray.size_append]; omega)
    have jd := join_text (S1 ++ S2) (S3 ++ S4 ++ S5) (by rw [ByteArray.size_append, ByteArray.size_append, ByteArray.size_append]; omega)
    have u1 : IntKind.u64.wrap (sn : Int) = (sn : Int) := by rw [IntKind.wrap_u64]; omega
    have u2 : IntKind.u64.wrap (kn : Int) = (kn : Int) := by rw [IntKind.wrap_u64]; omega
    rw [hsn, hkn] at CF
    rw [HE0, ← hC]
    clear HE0 hC hA hf ho hz hp3 z1 z2 z3 z4 z5 hs1 hk1 hsn hkn
    go_enter Tryd.func10, Tryd.ntmps10
    go_upto_region 1 with fail
    refine world_gen (fun X => PtH w C A x.path X) H0.out (fun X HX => ?_)
    have HX := Lib.hid HX
    have l1 := GA.out _ HX.out.row
    go_upto_region 3 with (go_at_call 14; (with_reducible refine (VA.out _).mono ?_); rintro e w1 ⟨rfl, hb⟩; have H2 := Lib.hid (HX.out.next hb); clear hb)
    clear l1 H0 HX
    refine wp_region_fk (PtH w C A x.path) (.get 0 (.get 1 (.get 2 (.get 3 (.get 5 (.get 6 (.get 7 (.call 4 (.call 8 (.get 9 (.get 10 .done))))))))))) (by kernel_rfl) rfl (by kernel_rfl) (by kernel_rfl) (by intro c a d v w h; cases d <;> exact h) (H2.out.next (Below.refl _ _).drew) (fun Q' hQ => ?_)
    have HS := Lib.hid (H2.out.next (Below.refl _ _).drew)
    have HQ := Lib.hid hQ
    clear hQ H2
    refine wpFk_get rfl (by rfl) (fun K hK => ?_)
    refine ⟨?_, fun w' hS' => ?_, ?_⟩
    rotate_left
    · go_simp
      try (with_reducible rfl)
    try go_simp
    refine hK _ ?_
    clear hK K
    refine wpFk_get rfl (by rfl) (fun K hK => ?_)
    refine ⟨?_, fun w' hS' => ?_, ?_⟩
    rotate_left
    · go_simp
      try (with_reducible rfl)
    try go_simp
    refine hK _ ?_
    clear hK K
    refine wpFk_get rfl (by rfl) (fun K hK => ?_)
    refine ⟨?_, fun w' hS' => ?_, ?_⟩
    rotate_left
    · have ⟨c0, c1, c2, c3⟩ := CF.out _ hS'.row
      go_simp
      try (with_reducible rfl)
    try go_simp
    refine hK _ ?_
    clear hK K
    refine wpFk_get rfl (by rfl) (fun K hK => ?_)
    refine ⟨?_, fun w' hS' => ?_, ?_⟩
    rotate_left
    · go_simp
      try (with_reducible rfl)
    try go_simp
    refine hK _ ?_
    clear hK K
    refine wpFk_get rfl (by rfl) (fun K hK => ?_)
    refine ⟨?_, fun w' hS' => ?_, ?_⟩
    rotate_left
    · go_simp
      try (with_reducible rfl)
    try go_simp
    refine hK _ ?_
    clear hK K
    refine wpFk_get rfl (by rfl) (fun K hK => ?_)
    refine ⟨?_, fun w' hS' => ?_, ?_⟩
    rotate_left
    · go_simp
      try (with_reducible rfl)
    try go_simp
    refine hK _ ?_
    clear hK K
    refine wpFk_get rfl (by rfl) (fun K hK => ?_)
    refine ⟨_, fun w' hS' => get_load rfl rfl (RT.out _ hS'.row), ?_⟩
    try go_simp
    refine hK _ ?_
    clear hK K
    refine wpFk_call rfl (by rfl) (fun K hK => ?_)
    go_simp
    go_at_call 28
    (with_reducible refine (X1.out _).mono ?_)
    rintro e w1x ⟨rfl, hb⟩
    replace HS := Lib.hid (HS.out.next hb)
    clear hb
    refine hK _ _ HS.out ?_
    clear hK K
    refine wpFk_call rfl (by rfl) (fun K hK => ?_)
    go_simp
    go_at_call 29
    (with_reducible refine (X2.out _).mono ?_)
    rintro e w1x ⟨rfl, hb⟩
    replace HS := Lib.hid (HS.out.next hb)
    clear hb
    refine hK _ _ HS.out ?_
    clear hK K
    refine wpFk_get rfl (by rfl) (fun K hK => ?_)
    refine ⟨?_, fun w' hS' => ?_, ?_⟩
    rotate_left
    · go_simp
      try (with_reducible rfl)
    try go_simp
    refine hK _ ?_
    clear hK K
    refine wpFk_get rfl (by rfl) (fun K hK => ?_)
    refine ⟨?_, fun w' hS' => ?_, ?_⟩
    rotate_left
    · go_simp
      try (with_reducible rfl)
    try go_simp
    refine hK _ ?_
    clear hK K
    refine wpFk_done ?_
    refine HQ.out _ _ ?_
    clear HQ
    go_upto_region 4 with fail
    have H4 := HS
    clear HS
    refine wp_region_fk (PtH w C A x.path) (.get 0 (.get 1 (.get 2 (.get 3 (.get 5 (.get 6 (.get 7 (.get 10 (.get 11 (.get 12 (.call 4 (.call 8 (.get 9 (.call 13 (.get 14 (.get 15 .done)))))))))))))))) (by kernel_rfl) rfl (by kernel_rfl) (by kernel_rfl) (by intro c a d v w h; cases d <;> exact h) (H4.out.next (Below.refl _ _).drew) (fun Q' hQ => ?_)
    have HS := Lib.hid (H4.out.next (Below.refl _ _).drew)
    have HQ := Lib.hid hQ
    clear hQ H4
    refine wpFk_get rfl (by rfl) (fun K hK => ?_)
    refine ⟨?_, fun w' hS' => ?_, ?_⟩
    rotate_left
    · go_simp
      try (with_reducible rfl)
    try go_simp
    refine hK _ ?_
    clear hK K
    refine wpFk_get rfl (by rfl) (fun K hK => ?_)
    refine ⟨?_, fun w' hS' => ?_, ?_⟩
    rotate_left
    · go_simp
      try (with_reducible rfl)
    try go_simp
    refine hK _ ?_
    clear hK K
    refine wpFk_get rfl (by rfl) (fun K hK => ?_)
    refine ⟨?_, fun w' hS' => ?_, ?_⟩
    rotate_left
    · have ⟨c0, c1, c2, c3⟩ := CF.out _ hS'.row
      go_simp
      try (with_reducible rfl)
    try go_simp
    refine hK _ ?_
    clear hK K
    refine wpFk_get rfl (by rfl) (fun K hK => ?_)
    refine ⟨?_, fun w' hS' => ?_, ?_⟩
    rotate_left
    · go_simp
      try (with_reducible rfl)
    try go_simp
    refine hK _ ?_
    clear hK K
    refine wpFk_get rfl (by rfl) (fun K hK => ?_)
    refine ⟨?_, fun w' hS' => ?_, ?_⟩
    rotate_left
    · go_simp
      try (with_reducible rfl)
    try go_simp
    refine hK _ ?_
    clear hK K
    refine wpFk_get rfl (by rfl) (fun K hK => ?_)
    refine ⟨?_, fun w' hS' => ?_, ?_⟩
    rotate_left
    · go_simp
      try (with_reducible rfl)
    try go_simp
    refine hK _ ?_
    clear hK K
    refine wpFk_get rfl (by rfl) (fun K hK => ?_)
    refine ⟨?_, fun w' hS' => ?_, ?_⟩
    rotate_left
    · have ⟨c0, c1, c2, c3⟩ := CF.out _ hS'.row
      go_simp
      try (with_reducible rfl)
    try go_simp
    refine hK _ ?_
    clear hK K
    refine wpFk_get rfl (by rfl) (fun K hK => ?_)
    refine ⟨?_, fun w' hS' => ?_, ?_⟩
    rotate_left
    · go_simp
      try (with_reducible rfl)
    try go_simp
    refine hK _ ?_
    clear hK K
    refine wpFk_get rfl (by rfl) (fun K hK => ?_)
    refine ⟨?_, fun w' hS' => ?_, ?_⟩
    rotate_left
    · go_simp
      try (with_reducible rfl)
    try go_simp
    refine hK _ ?_
    clear hK K
    refine wpFk_get rfl (by rfl) (fun K hK => ?_)
    refine ⟨?_, fun w' hS' => ?_, ?_⟩
    rotate_left
    · have ⟨c0, c1, c2, c3⟩ := CF.out _ hS'.row
      go_simp
      try (with_reducible rfl)
    try go_simp
    refine hK _ ?_
    clear hK K
    refine wpFk_call rfl (by rfl) (fun K hK => ?_)
    go_simp
    go_at_call 28
    (with_reducible refine (X3.out _).mono ?_)
    rintro e w1x ⟨rfl, hb⟩
    replace HS := Lib.hid (HS.out.next hb)
    clear hb
    refine hK _ _ HS.out ?_
    clear hK K
    refine wpFk_call rfl (by rfl) (fun K hK => ?_)
    go_simp
    go_at_call 30
    (with_reducible refine (X4.out _).mono ?_)
    rintro e w1x ⟨rfl, hb⟩
    replace HS := Lib.hid (HS.out.next hb)
    clear hb
    refine hK _ _ HS.out ?_
    clear hK K
    refine wpFk_get rfl (by rfl) (fun K hK => ?_)
    refine ⟨?_, fun w' hS' => ?_, ?_⟩
    rotate_left
    · go_simp
      try (with_reducible rfl)
    try go_simp
    refine hK _ ?_
    clear hK K
    refine wpFk_call rfl (by rfl) (fun K hK => ?_)
    go_simp
    go_at_call 31
    (with_reducible refine (X5.out _ HS.out.lst).mono ?_)
    rintro e w1x ⟨rfl, hb⟩
    replace HS := Lib.hid (HS.out.next hb)
    clear hb
    refine hK _ _ HS.out ?_
    clear hK K
    refine wpFk_get rfl (by rfl) (fun K hK => ?_)
    refine ⟨?_, fun w' hS' => ?_, ?_⟩
    rotate_left
    · go_simp
      try (with_reducible rfl)
    try go_simp
    refine hK _ ?_
    clear hK K
    refine wpFk_get rfl (by rfl) (fun K hK => ?_)
    refine ⟨?_, fun w' hS' => ?_, ?_⟩
    rotate_left
    · go_simp
      try (with_reducible rfl)
    try go_simp
    refine hK _ ?_
    clear hK K
    refine wpFk_done ?_
    refine HQ.out _ _ ?_
    clear HQ
    go_wp2
    go_ret2
    exact ⟨by show _ = Ending.returned (.tuple #[.string (headS x), .int .i64 0]); rw [← HE.out]; rfl, HS.out.below⟩
  · rw [decide_eq_false ho] at VA
    have HE0 : putF x = (⟨#[]⟩, 2) := by unfold putF; rw [if_neg ho]
    rw [HE0, ← hC]
    clear HE0 hC hA hf ho
    go_enter Tryd.func10, Tryd.ntmps10
    go_upto_region 1 with fail
    refine world_gen (fun X => PtH w C A x.path X) H0.out (fun X HX => ?_)
    have HX := Lib.hid HX
    have l1 := GA.out _ HX.out.row
    go_wp2_with (go_at_call 14; (with_reducible refine (VA.out _).mono ?_); rintro e w1 ⟨rfl, hb⟩; have H2 := Lib.hid (HX.out.next hb); clear hb)
    go_ret2
    exact ⟨rfl, H2.out.below⟩
/-- What Check holds: the key, the signed head, where its path lies, the tables. -/
structure CkP (w : World) (K C : Array Value) (A : Option Addr) (ps : List (List Int)) (W : World) : Prop where
  key : Row W w.heap.size 23 K
  row : Row W (w.heap.size + 1) 34 C
  lst : HW W A ps
  tab : Tab W
  below : Below w.heap.size w W
theorem CkP.next {w W W1 : World} {K C : Array Value} {A : Option Addr} {ps : List (List Int)} (h : CkP w K C A ps W) (hb : Below W.heap.size W W1) : CkP w K C A ps W1 := ⟨h.key.next hb, h.row.next hb, h.lst.next hb, h.tab.next hb, below_new h.below hb⟩
theorem CkP.start {w : World} (K C : Array Value) {A : Option Addr} {ps : List (List Int)} (h : HW w A ps) (hT : Tab w) : CkP w K C A ps ((w.alloc (.cells K 23)).alloc (.cells C 34)) :=
  have hb : Below w.heap.size w ((w.alloc (.cells K 23)).alloc (.cells C 34)) := ((Below.refl _ _).alloc (Nat.le_refl _) _).alloc (by simp) _
  ⟨(Row.made _ _ _).alloc _, Row.made2 _ _ _ _, h.next hb, hT.next hb, hb⟩
set_option maxHeartbeats 4000000 in
theorem headCheck_any {TR : World → Value → ByteArray → Prop} (TS : TreeSays TR) (key : List Int) (hk : key.length = 32 ∧ bytes key) (x : Sh) (hf : x.fits) (h1 : num64 x.size) (h2 : num64 x.index) (h3 : x.sig.size ≤ maxLen) (A : Option Addr) (c : Nat) (w : World) (hA : HW w A x.path) (hT : Tab w) (hc : x.path.length ≤ c) (hcm : c ≤ maxLen) :
    Calls Tryd.prog 16 #[.agg (nums .u8 key), .agg (signedV x.size x.root x.index x.sig A x.path.length c)] w fun e w' => e = .returned (.int .i64 (chkF key x)) ∧ Below w.heap.size w w' := by
  obtain ⟨C, hC⟩ : ∃ C, C = signedV x.size x.root x.index x.sig A x.path.length c := ⟨_, rfl⟩
  obtain ⟨n, hn⟩ : ∃ n, Hid (n = x.path.length) := ⟨_, Lib.hid rfl⟩
  obtain ⟨K, hK⟩ : ∃ C, Hid (C = nums .u8 key) := ⟨_, Lib.hid rfl⟩
  have zK : Hid (K.size = 32) := Lib.hid (by rw [hK.out, nums_size]; exact hk.1)
  have GA : Hid (∀ W, Row W (w.heap.size + 1) 34 C → (readG (.pointer (some ⟨w.heap.size + 1, 0, none⟩))).run Tryd.prog W = .ok (.agg C) W) := Lib.hid fun W h => by subst hC; exact signed_all h hf.1.1
  have VA : Hid (∀ W, Calls Tryd.prog 14 #[.agg C] W fun e w' => e = .returned (.bool (decide x.ok)) ∧ Below W.heap.size W w') := Lib.hid fun W => by subst hC; exact headValid_any x hf.1.1 A c W
  obtain ⟨HV, hHV⟩ : ∃ C, Hid (C = headV x.size x.root) := ⟨_, Lib.hid rfl⟩
  have DA : Hid (∀ W, Row W (w.heap.size + 1) 34 C → (readD (.pointer (some ⟨w.heap.size + 1, 0, none⟩))).run Tryd.prog W = .ok (.agg HV) W) := Lib.hid fun W h => by subst hC; rw [hHV.out]; exact signed_head h hf.1.1
  have SA : Hid (∀ W, Row W (w.heap.size + 1) 34 C → (readS (.pointer (some ⟨w.heap.size + 1, 33, none⟩))).run Tryd.prog W = .ok (.agg (sealV x.index x.sig A n c)) W) := Lib.hid fun W h => by subst hC; rw [hn.out]; exact signed_seal h hf.1.1
  obtain ⟨D, hD⟩ : ∃ C, Hid (C = nums .u8 (digF x.size x.root)) := ⟨_, Lib.hid rfl⟩
  obtain ⟨vv, hvv⟩ : ∃ v, Hid (v = verF key (digF x.size x.root) x.index x.sig x.path) := ⟨_, Lib.hid rfl⟩
  have X1 : Hid (∀ W, Tab W → Calls Tryd.prog 12 #[.agg HV] W fun e w' => e = .returned (.agg D) ∧ Below W.heap.size W w') := Lib.hid fun W hW => by rw [hHV.out, hD.out]; exact headDigest_any x.size h1 x.root hf.1 W hW
  have X2 : Hid (∀ W, Tab W → HW W A x.path → Calls Tryd.prog 41 #[.agg K, .agg D, .agg (sealV x.index x.sig A n c)] W fun e w' => e = .returned (.int .i64 vv) ∧ Below W.heap.size W w') := Lib.hid fun W hW h => by
    rw [hK.out, hD.out, hvv.out, hn.out]; exact TS.ver key _ x.index x.sig x.path A c W hW hk (digF_is _ _) h2 h3 hf.2 h hc hcm
  have H0 := Lib.hid (CkP.start K C hA hT)
  by_cases ho : x.ok
  · rw [decide_eq_true ho] at VA
    by_cases hv : vv = 0
    · have HE0 : chkF key x = 0 := by unfold chkF; rw [if_pos ho, ← hvv.out, if_pos hv]
      have q1 : (vv != 0) = false := by simpa using hv
      rw [HE0, ← hC, ← hK.out]
      clear HE0 hC hA hT hf ho h1 h2 h3 hk hc hcm hv
      go_enter Tryd.func16, Tryd.ntmps16
      go_upto_region 1 with fail
      refine world_gen (fun X => CkP w K C A x.path X) H0.out (fun X HX => ?_)
      have HX := Lib.hid HX
      have l1 := GA.out _ HX.out.row
      go_upto_region 3 with (go_at_call 14; (with_reducible refine (VA.out _).mono ?_); rintro e w1 ⟨rfl, hb⟩; have H2 := Lib.hid (HX.out.next hb); clear hb)
      clear l1 H0 HX
      refine wp_region_fk (CkP w K C A x.path) (.get 0 (.get 1 (.get 2 (.get 4 (.get 5 (.call 3 (.call 6 (.get 7 .done)))))))) (by kernel_rfl) rfl (by kernel_rfl) (by kernel_rfl) (by intro c a d v w h; cases d <;> exact h) (H2.out.next (Below.refl _ _).drew) (fun Q' hQ => ?_)
      have HS := Lib.hid (H2.out.next (Below.refl _ _).drew)
      have HQ := Lib.hid hQ
      clear hQ H2
      refine wpFk_get rfl (by rfl) (fun K hK => ?_)
      refine ⟨_, fun w' hS' => get_load rfl rfl (hS'.key.read zK.out), ?_⟩
      try go_simp
      refine hK _ ?_
      clear hK K
      refine wpFk_get rfl (by rfl) (fun K hK => ?_)
      refine ⟨?_, fun w' hS' => ?_, ?_⟩
      rotate_left
      · go_simp
        try (with_reducible rfl)
      try go_simp
      refine hK _ ?_
      clear hK K
      refine wpFk_get rfl (by rfl) (fun K hK => ?_)
      refine ⟨_, fun w' hS' => get_loadD rfl rfl (DA.out _ hS'.row), ?_⟩
      try go_simp
      refine hK _ ?_
      clear hK K
      refine wpFk_get rfl (by rfl) (fun K hK => ?_)
      refine ⟨?_, fun w' hS' => ?_, ?_⟩
      rotate_left
      · go_simp
        try (with_reducible rfl)
      try go_simp
      refine hK _ ?_
      clear hK K
      refine wpFk_get rfl (by rfl) (fun K hK => ?_)
      refine ⟨_, fun w' hS' => get_loadS rfl rfl (SA.out _ hS'.row), ?_⟩
      try go_simp
      refine hK _ ?_
      clear hK K
      refine wpFk_call rfl (by rfl) (fun K hK => ?_)
      go_simp
      go_at_call 12
      (with_reducible refine (X1.out _ HS.out.tab).mono ?_)
      rintro e w1x ⟨rfl, hb⟩
      replace HS := Lib.hid (HS.out.next hb)
      clear hb
      refine hK _ _ HS.out ?_
      clear hK K
      refine wpFk_call rfl (by rfl) (fun K hK => ?_)
      go_simp
      go_at_call 41
      (with_reducible refine (X2.out _ HS.out.tab HS.out.lst).mono ?_)
      rintro e w1x ⟨rfl, hb⟩
      replace HS := Lib.hid (HS.out.next hb)
      clear hb
      refine hK _ _ HS.out ?_
      clear hK K
      refine wpFk_get rfl (by rfl) (fun K hK => ?_)
      refine ⟨?_, fun w' hS' => ?_, ?_⟩
      rotate_left
      · go_simp
        try (with_reducible rfl)
      try go_simp
      refine hK _ ?_
      clear hK K
      refine wpFk_done ?_
      refine HQ.out _ _ ?_
      clear HQ
      go_wp2
      go_ret
      exact ⟨rfl, HS.out.below⟩
    · have HE0 : chkF key x = 81 := by unfold chkF; rw [if_pos ho, ← hvv.out, if_neg hv]
      have q1 : (vv != 0) = true := by simpa using hv
      rw [HE0, ← hC, ← hK.out]
      clear HE0 hC hA hT hf ho h1 h2 h3 hk hc hcm hv
      go_enter Tryd.func16, Tryd.ntmps16
      go_upto_region 1 with fail
      refine world_gen (fun X => CkP w K C A x.path X) H0.out (fun X HX => ?_)
      have HX := Lib.hid HX
      have l1 := GA.out _ HX.out.row
      go_upto_region 3 with (go_at_call 14; (with_reducible refine (VA.out _).mono ?_); rintro e w1 ⟨rfl, hb⟩; have H2 := Lib.hid (HX.out.next hb); clear hb)
      clear l1 H0 HX
      refine wp_region_fk (CkP w K C A x.path) (.get 0 (.get 1 (.get 2 (.get 4 (.get 5 (.call 3 (.call 6 (.get 7 .done)))))))) (by kernel_rfl) rfl (by kernel_rfl) (by kernel_rfl) (by intro c a d v w h; cases d <;> exact h) (H2.out.next (Below.refl _ _).drew) (fun Q' hQ => ?_)
      have HS := Lib.hid (H2.out.next (Below.refl _ _).drew)
      have HQ := Lib.hid hQ
      clear hQ H2
      refine wpFk_get rfl (by rfl) (fun K hK => ?_)
      refine ⟨_, fun w' hS' => get_load rfl rfl (hS'.key.read zK.out), ?_⟩
      try go_simp
      refine hK _ ?_
      clear hK K
      refine wpFk_get rfl (by rfl) (fun K hK => ?_)
      refine ⟨?_, fun w' hS' => ?_, ?_⟩
      rotate_left
      · go_simp
        try (with_reducible rfl)
      try go_simp
      refine hK _ ?_
      clear hK K
      refine wpFk_get rfl (by rfl) (fun K hK => ?_)
      refine ⟨_, fun w' hS' => get_loadD rfl rfl (DA.out _ hS'.row), ?_⟩
      try go_simp
      refine hK _ ?_
      clear hK K
      refine wpFk_get rfl (by rfl) (fun K hK => ?_)
      refine ⟨?_, fun w' hS' => ?_, ?_⟩
      rotate_left
      · go_simp
        try (with_reducible rfl)
      try go_simp
      refine hK _ ?_
      clear hK K
      refine wpFk_get rfl (by rfl) (fun K hK => ?_)
      refine ⟨_, fun w' hS' => get_loadS rfl rfl (SA.out _ hS'.row), ?_⟩
      try go_simp
      refine hK _ ?_
      clear hK K
      refine wpFk_call rfl (by rfl) (fun K hK => ?_)
      go_simp
      go_at_call 12
      (with_reducible refine (X1.out _ HS.out.tab).mono ?_)
      rintro e w1x ⟨rfl, hb⟩
      replace HS := Lib.hid (HS.out.next hb)
      clear hb
      refine hK _ _ HS.out ?_
      clear hK K
      refine wpFk_call rfl (by rfl) (fun K hK => ?_)
      go_simp
      go_at_call 41
      (with_reducible refine (X2.out _ HS.out.tab HS.out.lst).mono ?_)
      rintro e w1x ⟨rfl, hb⟩
      replace HS := Lib.hid (HS.out.next hb)
      clear hb
      refine hK _ _ HS.out ?_
      clear hK K
      refine wpFk_get rfl (by rfl) (fun K hK => ?_)
      refine ⟨?_, fun w' hS' => ?_, ?_⟩
      rotate_left
      · go_simp
        try (with_reducible rfl)
      try go_simp
      refine hK _ ?_
      clear hK K
      refine wpFk_done ?_
      refine HQ.out _ _ ?_
      clear HQ
      go_wp2
      go_ret
      exact ⟨rfl, HS.out.below⟩
  · rw [decide_eq_false ho] at VA
    have HE0 : chkF key x = 2 := by unfold chkF; rw [if_neg ho]
    rw [HE0, ← hC, ← hK.out]
    clear HE0 hC hA hT hf ho h1 h2 h3 hk hc hcm
    go_enter Tryd.func16, Tryd.ntmps16
    go_upto_region 1 with fail
    refine world_gen (fun X => CkP w K C A x.path X) H0.out (fun X HX => ?_)
    have HX := Lib.hid HX
    have l1 := GA.out _ HX.out.row
    go_wp2_with (go_at_call 14; (with_reducible refine (VA.out _).mono ?_); rintro e w1 ⟨rfl, hb⟩; have H2 := Lib.hid (HX.out.next hb); clear hb)
    go_ret
    exact ⟨rfl, H2.out.below⟩
end Go.Proofs.YtpndccoikhejgaaDoor
