/-
  Several texts in one (a claim has room for 60 files): RefHeadPut, RefReadB, RefUnhsB, RefCutB.
-/
import Derived.Test.YtpndccoikhejgaaDoorPk14
import Derived.Test.YtpndccoikhejgaaDoorPk06
import Derived.Test.YtpndccoikhejgaaDoorPk23
import Derived.Test.YtpndccoikhejgaaDoorPk04
import Derived.Test.YtpndccoikhejgaaDoorPk05
import Derived.Test.YtpndccoikhejgaaDoorPk15
namespace Go.Proofs.YtpndccoikhejgaaDoor
open Go.RowKit Go.Great
set_option linter.unusedVariables false
set_option maxRecDepth 100000

/-- What a function of two heads holds. -/
def TwoD (w wr : World) (C D : Array Value) : Prop := Row wr w.heap.size 25 C ∧ Row wr (w.heap.size + 1) 25 D ∧ Below w.heap.size w wr
theorem TwoD.start (w : World) (C D : Array Value) : TwoD w ((w.alloc (.cells C 25)).alloc (.cells D 25)) C D :=
  ⟨(Row.made _ _ _).alloc _, Row.made2 _ _ _ _, ((Below.refl _ _).alloc (Nat.le_refl _) _).alloc (by simp) _⟩
attribute [local go_sem ↓ high] read_at write_at read_d eq_at neq_at
set_option maxHeartbeats 4000000 in
theorem refOrder_any (s s' : Int) (r r' : List Int) (hr : r.length = 32 ∧ bytes r) (hr' : r'.length = 32 ∧ bytes r') (w : World) :
    Calls Tryd.prog 19 #[.agg (headV s r), .agg (headV s' r')] w fun e w' => e = .returned (.int .i64 (ordF s r s' r')) ∧ Below w.heap.size w w' := by
  obtain ⟨HA, hHA⟩ : ∃ C, C = headV s r := ⟨_, rfl⟩
  obtain ⟨HB, hHB⟩ : ∃ C, C = headV s' r' := ⟨_, rfl⟩
  obtain ⟨R, hR⟩ : ∃ C, Hid (C = nums .u8 r) := ⟨_, Lib.hid rfl⟩
  obtain ⟨R', hR'⟩ : ∃ C, Hid (C = nums .u8 r') := ⟨_, Lib.hid rfl⟩
  have CA : Hid (∀ W, Row W w.heap.size 25 HA → W.cell? ⟨w.heap.size, 0, none⟩ = some (.int .i64 s) ∧ (readAt (.pointer (some ⟨w.heap.size, 1, none⟩))).run Tryd.prog W = .ok (.agg R) W) := Lib.hid fun W h => by subst hHA; exact ⟨head_cells h, by rw [hR.out]; exact head_root h hr.1⟩
  have CB : Hid (∀ W, Row W (w.heap.size + 1) 25 HB → W.cell? ⟨w.heap.size + 1, 0, none⟩ = some (.int .i64 s') ∧ (readAt (.pointer (some ⟨w.heap.size + 1, 1, none⟩))).run Tryd.prog W = .ok (.agg R') W) := Lib.hid fun W h => by subst hHB; exact ⟨head_cells h, by rw [hR'.out]; exact head_root h hr'.1⟩
  have H0 := Lib.hid (TwoD.start w HA HB)
  rw [← hHA, ← hHB]
  clear hHA hHB
  by_cases h1 : s = s'
  · have d1 : (s != s') = false := by simpa using h1
    have n1 : ¬ s < s' := by omega
    have n2 : ¬ s' < s := by omega
    by_cases h2 : r = r'
    · have NR : ∀ W, (neqAt (.agg R) (.agg R')).run Tryd.prog W = .ok (.bool false) W := fun W => by rw [hR.out, hR'.out, neqAt_hash r r' hr.1 hr'.1 hr.2 hr'.2 W, decide_eq_true h2]; rfl
      have HV : ordF s r s' r' = 1 := by unfold ordF; rw [if_neg n1, if_neg n2, if_pos h2]
      rw [HV]
      clear hR hR' hr hr' h1 h2 n1 n2 HV
      go_enter Tryd.func19, Tryd.ntmps19
      go_upto_region 1 with fail
      refine world_gen (fun X => TwoD w X HA HB) H0.out (fun X HX => ?_)
      have HX := Lib.hid HX
      obtain ⟨c0, l0⟩ := CA.out _ HX.out.1
      obtain ⟨c1, l1⟩ := CB.out _ HX.out.2.1
      go_wp2
      go_ret
      exact ⟨rfl, HX.out.2.2⟩
    · have NR : ∀ W, (neqAt (.agg R) (.agg R')).run Tryd.prog W = .ok (.bool true) W := fun W => by rw [hR.out, hR'.out, neqAt_hash r r' hr.1 hr'.1 hr.2 hr'.2 W, decide_eq_false h2]; rfl
      have HV : ordF s r s' r' = 3 := by unfold ordF; rw [if_neg n1, if_neg n2, if_neg h2]
      rw [HV]
      clear hR hR' hr hr' h1 h2 n1 n2 HV
      go_enter Tryd.func19, Tryd.ntmps19
      go_upto_region 1 with fail
      refine world_gen (fun X => TwoD w X HA HB) H0.out (fun X HX => ?_)
      have HX := Lib.hid HX
      obtain ⟨c0, l0⟩ := CA.out _ HX.out.1
      obtain ⟨c1, l1⟩ := CB.out _ HX.out.2.1
      go_wp2
      go_ret
      exact ⟨rfl, HX.out.2.2⟩
  · have d1 : (s != s') = true := by simpa using h1
    by_cases h2 : s < s'
    · have d2 : decide (s < s') = true := decide_eq_true h2
      have HV : ordF s r s' r' = 0 := by unfold ordF; rw [if_pos h2]
      rw [HV]
      clear hR hR' hr hr' h1 HV
      go_enter Tryd.func19, Tryd.ntmps19
      go_upto_region 1 with fail
      refine world_gen (fun X => TwoD w X HA HB) H0.out (fun X HX => ?_)
      have HX := Lib.hid HX
      obtain ⟨c0, l0⟩ := CA.out _ HX.out.1
      obtain ⟨c1, l1⟩ := CB.out _ HX.out.2.1
      go_wp2
      go_ret
      exact ⟨rfl, HX.out.2.2⟩
    · have d2 : decide (s < s') = false := decide_eq_false h2
      have HV : ordF s r s' r' = 2 := by unfold ordF; rw [if_neg h2, if_pos (by omega)]
      rw [HV]
      clear hR hR' hr hr' h1 HV
      go_enter Tryd.func19, Tryd.ntmps19
      go_upto_region 1 with fail
      refine world_gen (fun X => TwoD w X HA HB) H0.out (fun X HX => ?_)
      have HX := Lib.hid HX
      obtain ⟨c0, l0⟩ := CA.out _ HX.out.1
      obtain ⟨c1, l1⟩ := CB.out _ HX.out.2.1
      go_wp2
      go_ret
      exact ⟨rfl, HX.out.2.2⟩
/-- What Put holds: the signed head, and where its path lies. -/
structure PtH (w : World) (C : Array Value) (A : Option Addr) (ps : List (List Int)) (W : World) : Prop where
  row : Row W w.heap.size 34 C
  lst : HW W A ps
  below : Below w.heap.size w W
theorem PtH.next {w W W1 : World} {C : Array Value} {A : Option Addr} {ps : List (List Int)} (h : PtH w C A ps W) (hb : Below W.heap.size W W1) : PtH w C A ps W1 := ⟨h.row.next hb, h.lst.next hb, below_new h.below hb⟩
theorem PtH.start {w : World} (C : Array Value) {A : Option Addr} {ps : List (List Int)} (h : HW w A ps) : PtH w C A ps (w.alloc (.cells C 34)) := ⟨Row.made _ _ _, h.next ((Below.refl _ _).alloc (Nat.le_refl _) _), (Below.refl _ _).alloc (Nat.le_refl _) _⟩
attribute [local go_sem ↓ high] read_g read_s
set_option maxHeartbeats 4000000 in
theorem refHeadPut_any (x : Sh) (hf : x.fits) (A : Option Addr) (c : Nat) (w : World) (hA : HW w A x.path) :
    Calls Tryd.prog 11 #[.agg (signedV x.size x.root x.index x.sig A x.path.length c)] w fun e w' => e = .returned (.tuple #[.string (putF x).1, .int .i64 (putF x).2]) ∧ Below w.heap.size w w' := by
  obtain ⟨C, hC⟩ : ∃ C, C = signedV x.size x.root x.index x.sig A x.path.length c := ⟨_, rfl⟩
  obtain ⟨n, hn⟩ : ∃ n, Hid (n = x.path.length) := ⟨_, Lib.hid rfl⟩
  have CF : Hid (∀ W, Row W w.heap.size 34 C → W.cell? ⟨w.heap.size, 0, none⟩ = some (.int .i64 x.size) ∧ W.cell? ⟨w.heap.size, 33, none⟩ = some (.int .i64 x.index) ∧ W.cell? ⟨w.heap.size, 34, none⟩ = some (.string x.sig) ∧ W.cell? ⟨w.heap.size, 35, none⟩ = some (.slice A n c)) := Lib.hid fun W h => by subst hC; rw [hn.out]; exact signed_cells h hf.1.1
  have GA : Hid (∀ W, Row W w.heap.size 34 C → (readG (.pointer (some ⟨w.heap.size, 0, none⟩))).run Tryd.prog W = .ok (.agg C) W) := Lib.hid fun W h => by subst hC; exact signed_all h hf.1.1
  have VA : Hid (∀ W, Calls Tryd.prog 15 #[.agg C] W fun e w' => e = .returned (.bool (decide x.ok)) ∧ Below W.heap.size W w') := Lib.hid fun W => by subst hC; exact refValid_any x hf.1.1 A c W
  have H0 := Lib.hid (PtH.start C hA)
  by_cases ho : x.ok
  · rw [decide_eq_true ho] at VA
    have HE0 : putF x = (headS x, 0) := by unfold putF; rw [if_pos ho]
    obtain ⟨sn, hsn⟩ : ∃ sn : Nat, x.size = (sn : Int) := ⟨x.size.toNat, by have := ho.1; omega⟩
    obtain ⟨kn, hkn⟩ : ∃ kn : Nat, x.index = (kn : Int) := ⟨x.index.toNat, by have := ho.2.1; omega⟩
    have hs1 : sn ≤ 4096 := by have := ho.1; omega
    have hk1 : kn ≤ 7 := by have := ho.2.1; omega
    have hz := ho.2.2.1
    have hp3 := ho.2.2.2
    obtain ⟨R, hR⟩ : ∃ C, Hid (C = nums .u8 x.root) := ⟨_, Lib.hid rfl⟩
    have RT : Hid (∀ W, Row W w.heap.size 34 C → (readAt (.pointer (some ⟨w.heap.size, 1, none⟩))).run Tryd.prog W = .ok (.agg R) W) := Lib.hid fun W h => by subst hC; rw [hR.out]; exact signed_root h hf.1.1
    obtain ⟨S1, hS1⟩ : ∃ S, Hid (S = numS sn) := ⟨_, Lib.hid rfl⟩
    obtain ⟨S2, hS2⟩ : ∃ S, Hid (S = strOfNums x.root) := ⟨_, Lib.hid rfl⟩
    obtain ⟨S3, hS3⟩ : ∃ S, Hid (S = numS kn) := ⟨_, Lib.hid rfl⟩
    obtain ⟨S4, hS4⟩ : ∃ S, Hid (S = textS x.sig) := ⟨_, Lib.hid rfl⟩
    obtain ⟨S5, hS5⟩ : ∃ S, Hid (S = listS x.path) := ⟨_, Lib.hid rfl⟩
    have z1 : S1.size ≤ 10 := by rw [hS1.out]; exact numS_size sn (by omega)
    have z2 : S2.size = 32 := by rw [hS2.out, strOfNums_size]; exact hf.1.1
    have z3 : S3.size ≤ 10 := by rw [hS3.out]; exact numS_size kn (by omega)
    have z4 : S4.size ≤ 16394 := by rw [hS4.out]; unfold textS; rw [ByteArray.size_append, hz]; have := numS_size 16384 (by decide); omega
    have z5 : S5.size ≤ 106 := by
      rw [hS5.out, listS_is x.path (by omega), ByteArray.size_append, strOfNums_size, flat_length hf.2, hp3]
      have := numS_size 3 (by decide); omega
    have X1 : Hid (∀ W, Calls Tryd.prog 32 #[.int .u64 (sn : Int)] W fun e w' => e = .returned (.string S1) ∧ Below W.heap.size W w') := Lib.hid fun W => by rw [hS1.out]; exact refNum_any sn (by omega) W
    have X2 : Hid (∀ W, Calls Tryd.prog 33 #[.agg R] W fun e w' => e = .returned (.string S2) ∧ Below W.heap.size W w') := Lib.hid fun W => by rw [hR.out, hS2.out]; exact refHash_any x.root hf.1.1 W
    have X3 : Hid (∀ W, Calls Tryd.prog 32 #[.int .u64 (kn : Int)] W fun e w' => e = .returned (.string S3) ∧ Below W.heap.size W w') := Lib.hid fun W => by rw [hS3.out]; exact refNum_any kn (by omega) W
    have X4 : Hid (∀ W, Calls Tryd.prog 34 #[.string x.sig] W fun e w' => e = .returned (.string S4) ∧ Below W.heap.size W w') := Lib.hid fun W => by rw [hS4.out]; exact refText_any x.sig (by omega) W
    have X5 : Hid (∀ W, HW W A x.path → Calls Tryd.prog 35 #[.slice A n c] W fun e w' => e = .returned (.string S5) ∧ Below W.heap.size W w') := Lib.hid fun W h => by rw [hS5.out, hn.out]; exact refHashes_any x.path hf.2 A c W h (by rw [hp3]; decide)
    have HE : Hid (S1 ++ S2 ++ S3 ++ S4 ++ S5 = headS x) := Lib.hid (by
      rw [hS1.out, hS2.out, hS3.out, hS4.out, hS5.out]
      unfold headS
      rw [hsn, hkn]
      simp only [ByteArray.append_assoc, Int.toNat_natCast])
    have ja := join_text S1 S2 (by omega)
    have jb := join_text (S1 ++ S2) S3 (by rw [ByteArray.size_append]; omega)
    have jc := join_text (S1 ++ S2 ++ S3) S4 (by rw [ByteArray.size_append, ByteArray.size_append]; omega)
    have jd := join_text (S1 ++ S2 ++ S3 ++ S4) S5 (by rw [ByteArray.size_append, ByteArray.size_append, ByteArray.size_append]; omega)
    have u1 : IntKind.u64.wrap (sn : Int) = (sn : Int) := by rw [IntKind.wrap_u64]; omega
    have u2 : IntKind.u64.wrap (kn : Int) = (kn : Int) := by rw [IntKind.wrap_u64]; omega
    rw [hsn, hkn] at CF
    rw [HE0, ← hC]
    clear HE0 hC hA hf ho hz hp3 z1 z2 z3 z4 z5 hs1 hk1 hsn hkn
    go_enter Tryd.func11, Tryd.ntmps11
    go_upto_region 1 with fail
    refine world_gen (fun X => PtH w C A x.path X) H0.out (fun X HX => ?_)
    have HX := Lib.hid HX
    have l1 := GA.out _ HX.out.row
    go_upto_region 3 with (go_at_call 15; (with_reducible refine (VA.out _).mono ?_); rintro e w1 ⟨rfl, hb⟩; have H2 := Lib.hid (HX.out.next hb); clear hb)
    clear l1 H0 HX
    refine wp_region_fk (PtH w C A x.path) (.get 0 (.get 1 (.get 2 (.get 3 (.get 5 (.get 6 (.get 7 (.get 10 (.get 11 (.get 12 (.get 13 (.get 16 (.get 17 (.get 18 (.get 21 (.get 22 (.get 23 (.call 4 (.call 8 (.get 9 (.call 14 (.get 15 (.call 19 (.get 20 (.call 24 (.get 25 (.get 26 (.get 27 .done)))))))))))))))))))))))))))) (by kernel_rfl) rfl (by kernel_rfl) (by kernel_rfl) (by intro c a d v w h; cases d <;> exact h) (H2.out.next (Below.refl _ _).drew) (fun Q' hQ => ?_)
    have HS := Lib.hid (H2.out.next (Below.refl _ _).drew)
    have HQ := Lib.hid hQ
    clear hQ H2
    refine wpFk_get rfl (by rfl) (fun K hK => ?_)
    refine ⟨?_, fun w' hS' => ?_, ?_⟩
    rotate_left
    · go_simp
      try (with_reducible rfl)
    try go_simp
    refine hK _ ?_
    clear hK K
    refine wpFk_get rfl (by rfl) (fun K hK => ?_)
    refine ⟨?_, fun w' hS' => ?_, ?_⟩
    rotate_left
    · go_simp
      try (with_reducible rfl)
    try go_simp
    refine hK _ ?_
    clear hK K
    refine wpFk_get rfl (by rfl) (fun K hK => ?_)
    refine ⟨?_, fun w' hS' => ?_, ?_⟩
    rotate_left
    · have ⟨c0, c1, c2, c3⟩ := CF.out _ hS'.row
      go_simp
      try (with_reducible rfl)
    try go_simp
    refine hK _ ?_
    clear hK K
    refine wpFk_get rfl (by rfl) (fun K hK => ?_)
    refine ⟨?_, fun w' hS' => ?_, ?_⟩
    rotate_left
    · go_simp
      try (with_reducible rfl)
    try go_simp
    refine hK _ ?_
    clear hK K
    refine wpFk_get rfl (by rfl) (fun K hK => ?_)
    refine ⟨?_, fun w' hS' => ?_, ?_⟩
    rotate_left
    · go_simp
      try (with_reducible rfl)
    try go_simp
    refine hK _ ?_
    clear hK K
    refine wpFk_get rfl (by rfl) (fun K hK => ?_)
    refine ⟨?_, fun w' hS' => ?_, ?_⟩
    rotate_left
    · go_simp
      try (with_reducible rfl)
    try go_simp
    refine hK _ ?_
    clear hK K
    refine wpFk_get rfl (by rfl) (fun K hK => ?_)
    refine ⟨_, fun w' hS' => get_load rfl rfl (RT.out _ hS'.row), ?_⟩
    try go_simp
    refine hK _ ?_
    clear hK K
    refine wpFk_get rfl (by rfl) (fun K hK => ?_)
    refine ⟨?_, fun w' hS' => ?_, ?_⟩
    rotate_left
    · go_simp
      try (with_reducible rfl)
    try go_simp
    refine hK _ ?_
    clear hK K
    refine wpFk_get rfl (by rfl) (fun K hK => ?_)
    refine ⟨?_, fun w' hS' => ?_, ?_⟩
    rotate_left
    · go_simp
      try (with_reducible rfl)
    try go_simp
    refine hK _ ?_
    clear hK K
    refine wpFk_get rfl (by rfl) (fun K hK => ?_)
    refine ⟨?_, fun w' hS' => ?_, ?_⟩
    rotate_left
    · have ⟨c0, c1, c2, c3⟩ := CF.out _ hS'.row
      go_simp
      try (with_reducible rfl)
    try go_simp
    refine hK _ ?_
    clear hK K
    refine wpFk_get rfl (by rfl) (fun K hK => ?_)
    refine ⟨?_, fun w' hS' => ?_, ?_⟩
    rotate_left
    · go_simp
      try (with_reducible rfl)
    try go_simp
    refine hK _ ?_
    clear hK K
    refine wpFk_get rfl (by rfl) (fun K hK => ?_)
    refine ⟨?_, fun w' hS' => ?_, ?_⟩
    rotate_left
    · go_simp
      try (with_reducible rfl)
    try go_simp
    refine hK _ ?_
    clear hK K
    refine wpFk_get rfl (by rfl) (fun K hK => ?_)
    refine ⟨?_, fun w' hS' => ?_, ?_⟩
    rotate_left
    · go_simp
      try (with_reducible rfl)
    try go_simp
    refine hK _ ?_
    clear hK K
    refine wpFk_get rfl (by rfl) (fun K hK => ?_)
    refine ⟨?_, fun w' hS' => ?_, ?_⟩
    rotate_left
    · have ⟨c0, c1, c2, c3⟩ := CF.out _ hS'.row
      go_simp
      try (with_reducible rfl)
    try go_simp
    refine hK _ ?_
    clear hK K
    refine wpFk_get rfl (by rfl) (fun K hK => ?_)
    refine ⟨?_, fun w' hS' => ?_, ?_⟩
    rotate_left
    · go_simp
      try (with_reducible rfl)
    try go_simp
    refine hK _ ?_
    clear hK K
    refine wpFk_get rfl (by rfl) (fun K hK => ?_)
    refine ⟨?_, fun w' hS' => ?_, ?_⟩
    rotate_left
    · go_simp
      try (with_reducible rfl)
    try go_simp
    refine hK _ ?_
    clear hK K
    refine wpFk_get rfl (by rfl) (fun K hK => ?_)
    refine ⟨?_, fun w' hS' => ?_, ?_⟩
    rotate_left
    · have ⟨c0, c1, c2, c3⟩ := CF.out _ hS'.row
      go_simp
      try (with_reducible rfl)
    try go_simp
    refine hK _ ?_
    clear hK K
    refine wpFk_call rfl (by rfl) (fun K hK => ?_)
    go_simp
    go_at_call 32
    (with_reducible refine (X1.out _).mono ?_)
    rintro e w1x ⟨rfl, hb⟩
    replace HS := Lib.hid (HS.out.next hb)
    clear hb
    refine hK _ _ HS.out ?_
    clear hK K
    refine wpFk_call rfl (by rfl) (fun K hK => ?_)
    go_simp
    go_at_call 33
    (with_reducible refine (X2.out _).mono ?_)
    rintro e w1x ⟨rfl, hb⟩
    replace HS := Lib.hid (HS.out.next hb)
    clear hb
    refine hK _ _ HS.out ?_
    clear hK K
    refine wpFk_get rfl (by rfl) (fun K hK => ?_)
    refine ⟨?_, fun w' hS' => ?_, ?_⟩
    rotate_left
    · go_simp
      try (with_reducible rfl)
    try go_simp
    refine hK _ ?_
    clear hK K
    refine wpFk_call rfl (by rfl) (fun K hK => ?_)
    go_simp
    go_at_call 32
    (with_reducible refine (X3.out _).mono ?_)
    rintro e w1x ⟨rfl, hb⟩
    replace HS := Lib.hid (HS.out.next hb)
    clear hb
    refine hK _ _ HS.out ?_
    clear hK K
    refine wpFk_get rfl (by rfl) (fun K hK => ?_)
    refine ⟨?_, fun w' hS' => ?_, ?_⟩
    rotate_left
    · go_simp
      try (with_reducible rfl)
    try go_simp
    refine hK _ ?_
    clear hK K
    refine wpFk_call rfl (by rfl) (fun K hK => ?_)
    go_simp
    go_at_call 34
    (with_reducible refine (X4.out _).mono ?_)
    rintro e w1x ⟨rfl, hb⟩
    replace HS := Lib.hid (HS.out.next hb)
    clear hb
    refine hK _ _ HS.out ?_
    clear hK K
    refine wpFk_get rfl (by rfl) (fun K hK => ?_)
    refine ⟨?_, fun w' hS' => ?_, ?_⟩
    rotate_left
    · go_simp
      try (with_reducible rfl)
    try go_simp
    refine hK _ ?_
    clear hK K
    refine wpFk_call rfl (by rfl) (fun K hK => ?_)
    go_simp
    go_at_call 35
    (with_reducible refine (X5.out _ HS.out.lst).mono ?_)
    rintro e w1x ⟨rfl, hb⟩
    replace HS := Lib.hid (HS.out.next hb)
    clear hb
    refine hK _ _ HS.out ?_
    clear hK K
    refine wpFk_get rfl (by rfl) (fun K hK => ?_)
    refine ⟨?_, fun w' hS' => ?_, ?_⟩
    rotate_left
    · go_simp
      try (with_reducible rfl)
    try go_simp
    refine hK _ ?_
    clear hK K
    refine wpFk_get rfl (by rfl) (fun K hK => ?_)
    refine ⟨?_, fun w' hS' => ?_, ?_⟩
    rotate_left
    · go_simp
      try (with_reducible rfl)
    try go_simp
    refine hK _ ?_
    clear hK K
    refine wpFk_get rfl (by rfl) (fun K hK => ?_)
    refine ⟨?_, fun w' hS' => ?_, ?_⟩
    rotate_left
    · go_simp
      try (with_reducible rfl)
    try go_simp
    refine hK _ ?_
    clear hK K
    refine wpFk_done ?_
    refine HQ.out _ _ ?_
    clear HQ
    go_wp2
    go_ret2
    exact ⟨by show _ = Ending.returned (.tuple #[.string (headS x), .int .i64 0]); rw [← HE.out]; rfl, HS.out.below⟩
  · rw [decide_eq_false ho] at VA
    have HE0 : putF x = (⟨#[]⟩, 2) := by unfold putF; rw [if_neg ho]
    rw [HE0, ← hC]
    clear HE0 hC hA hf ho
    go_enter Tryd.func11, Tryd.ntmps11
    go_upto_region 1 with fail
    refine world_gen (fun X => PtH w C A x.path X) H0.out (fun X HX => ?_)
    have HX := Lib.hid HX
    have l1 := GA.out _ HX.out.row
    go_wp2_with (go_at_call 15; (with_reducible refine (VA.out _).mono ?_); rintro e w1 ⟨rfl, hb⟩; have H2 := Lib.hid (HX.out.next hb); clear hb)
    go_ret2
    exact ⟨rfl, H2.out.below⟩
/-- What Check holds: the key, the signed head, and where its path lies. -/
structure CkH (w : World) (K C : Array Value) (A : Option Addr) (ps : List (List Int)) (W : World) : Prop where
  key : Row W w.heap.size 23 K
  row : Row W (w.heap.size + 1) 34 C
  lst : HW W A ps
  below : Below w.heap.size w W
theorem CkH.next {w W W1 : World} {K C : Array Value} {A : Option Addr} {ps : List (List Int)} (h : CkH w K C A ps W) (hb : Below W.heap.size W W1) : CkH w K C A ps W1 := ⟨h.key.next hb, h.row.next hb, h.lst.next hb, below_new h.below hb⟩
theorem CkH.start {w : World} (K C : Array Value) {A : Option Addr} {ps : List (List Int)} (h : HW w A ps) : CkH w K C A ps ((w.alloc (.cells K 23)).alloc (.cells C 34)) :=
  have hb : Below w.heap.size w ((w.alloc (.cells K 23)).alloc (.cells C 34)) := ((Below.refl _ _).alloc (Nat.le_refl _) _).alloc (by simp) _
  ⟨(Row.made _ _ _).alloc _, Row.made2 _ _ _ _, h.next hb, hb⟩
set_option maxHeartbeats 4000000 in
theorem refHeadCheck_any (key : List Int) (hk : key.length = 32 ∧ bytes key) (x : Sh) (hf : x.fits) (h1 : num64 x.size) (h2 : num64 x.index) (h3 : x.sig.size ≤ maxLen) (A : Option Addr) (c : Nat) (w : World) (hA : HW w A x.path) (hc : x.path.length ≤ c) (hcm : c ≤ maxLen) :
    Calls Tryd.prog 17 #[.agg (nums .u8 key), .agg (signedV x.size x.root x.index x.sig A x.path.length c)] w fun e w' => e = .returned (.int .i64 (chkF key x)) ∧ Below w.heap.size w w' := by
  obtain ⟨C, hC⟩ : ∃ C, C = signedV x.size x.root x.index x.sig A x.path.length c := ⟨_, rfl⟩
  obtain ⟨n, hn⟩ : ∃ n, Hid (n = x.path.length) := ⟨_, Lib.hid rfl⟩
  obtain ⟨K, hK⟩ : ∃ C, Hid (C = nums .u8 key) := ⟨_, Lib.hid rfl⟩
  have zK : Hid (K.size = 32) := Lib.hid (by rw [hK.out, nums_size]; exact hk.1)
  have GA : Hid (∀ W, Row W (w.heap.size + 1) 34 C → (readG (.pointer (some ⟨w.heap.size + 1, 0, none⟩))).run Tryd.prog W = .ok (.agg C) W) := Lib.hid fun W h => by subst hC; exact signed_all h hf.1.1
  have VA : Hid (∀ W, Calls Tryd.prog 15 #[.agg C] W fun e w' => e = .returned (.bool (decide x.ok)) ∧ Below W.heap.size W w') := Lib.hid fun W => by subst hC; exact refValid_any x hf.1.1 A c W
  obtain ⟨HV, hHV⟩ : ∃ C, Hid (C = headV x.size x.root) := ⟨_, Lib.hid rfl⟩
  have DA : Hid (∀ W, Row W (w.heap.size + 1) 34 C → (readD (.pointer (some ⟨w.heap.size + 1, 0, none⟩))).run Tryd.prog W = .ok (.agg HV) W) := Lib.hid fun W h => by subst hC; rw [hHV.out]; exact signed_head h hf.1.1
  have SA : Hid (∀ W, Row W (w.heap.size + 1) 34 C → (readS (.pointer (some ⟨w.heap.size + 1, 33, none⟩))).run Tryd.prog W = .ok (.agg (sealV x.index x.sig A n c)) W) := Lib.hid fun W h => by subst hC; rw [hn.out]; exact signed_seal h hf.1.1
  obtain ⟨D, hD⟩ : ∃ C, Hid (C = nums .u8 (digF x.size x.root)) := ⟨_, Lib.hid rfl⟩
  obtain ⟨vv, hvv⟩ : ∃ v, Hid (v = verF key (digF x.size x.root) x.index x.sig x.path) := ⟨_, Lib.hid rfl⟩
  have X1 : Hid (∀ W, Calls Tryd.prog 13 #[.agg HV] W fun e w' => e = .returned (.agg D) ∧ Below W.heap.size W w') := Lib.hid fun W => by rw [hHV.out, hD.out]; exact refDigest_any x.size h1 x.root hf.1 W
  have X2 : Hid (∀ W, HW W A x.path → Calls Tryd.prog 42 #[.agg K, .agg D, .agg (sealV x.index x.sig A n c)] W fun e w' => e = .returned (.int .i64 vv) ∧ Below W.heap.size W w') := Lib.hid fun W h => by
    rw [hK.out, hD.out, hvv.out, hn.out]; exact refVerify_any key _ hk (digF_is _ _) x.index h2 x.sig h3 x.path hf.2 A c W h hc hcm
  have H0 := Lib.hid (CkH.start K C hA)
  by_cases ho : x.ok
  · rw [decide_eq_true ho] at VA
    by_cases hv : vv = 0
    · have HE0 : chkF key x = 0 := by unfold chkF; rw [if_pos ho, ← hvv.out, if_pos hv]
      have q1 : (vv != 0) = false := by simpa using hv
      rw [HE0, ← hC, ← hK.out]
      clear HE0 hC hA hf ho h1 h2 h3 hk hc hcm hv
      go_enter Tryd.func17, Tryd.ntmps17
      go_upto_region 1 with fail
      refine world_gen (fun X => CkH w K C A x.path X) H0.out (fun X HX => ?_)
      have HX := Lib.hid HX
      have l1 := GA.out _ HX.out.row
      go_upto_region 3 with (go_at_call 15; (with_reducible refine (VA.out _).mono ?_); rintro e w1 ⟨rfl, hb⟩; have H2 := Lib.hid (HX.out.next hb); clear hb)
      clear l1 H0 HX
      refine wp_region_fk (CkH w K C A x.path) (.get 0 (.get 1 (.get 2 (.get 4 (.get 5 (.call 3 (.call 6 (.get 7 .done)))))))) (by kernel_rfl) rfl (by kernel_rfl) (by kernel_rfl) (by intro c a d v w h; cases d <;> exact h) (H2.out.next (Below.refl _ _).drew) (fun Q' hQ => ?_)
      have HS := Lib.hid (H2.out.next (Below.refl _ _).drew)
      have HQ := Lib.hid hQ
      clear hQ H2
      refine wpFk_get rfl (by rfl) (fun K hK => ?_)
      refine ⟨_, fun w' hS' => get_load rfl rfl (hS'.key.read zK.out), ?_⟩
      try go_simp
      refine hK _ ?_
      clear hK K
      refine wpFk_get rfl (by rfl) (fun K hK => ?_)
      refine ⟨?_, fun w' hS' => ?_, ?_⟩
      rotate_left
      · go_simp
        try (with_reducible rfl)
      try go_simp
      refine hK _ ?_
      clear hK K
      refine wpFk_get rfl (by rfl) (fun K hK => ?_)
      refine ⟨_, fun w' hS' => get_loadD rfl rfl (DA.out _ hS'.row), ?_⟩
      try go_simp
      refine hK _ ?_
      clear hK K
      refine wpFk_get rfl (by rfl) (fun K hK => ?_)
      refine ⟨?_, fun w' hS' => ?_, ?_⟩
      rotate_left
      · go_simp
        try (with_reducible rfl)
      try go_simp
      refine hK _ ?_
      clear hK K
      refine wpFk_get rfl (by rfl) (fun K hK => ?_)
      refine ⟨_, fun w' hS' => get_loadS rfl rfl (SA.out _ hS'.row), ?_⟩
      try go_simp
      refine hK _ ?_
      clear hK K
      refine wpFk_call rfl (by rfl) (fun K hK => ?_)
      go_simp
      go_at_call 13
      (with_reducible refine (X1.out _).mono ?_)
      rintro e w1x ⟨rfl, hb⟩
      replace HS := Lib.hid (HS.out.next hb)
      clear hb
      refine hK _ _ HS.out ?_
      clear hK K
      refine wpFk_call rfl (by rfl) (fun K hK => ?_)
      go_simp
      go_at_call 42
      (with_reducible refine (X2.out _ HS.out.lst).mono ?_)
      rintro e w1x ⟨rfl, hb⟩
      replace HS := Lib.hid (HS.out.next hb)
      clear hb
      refine hK _ _ HS.out ?_
      clear hK K
      refine wpFk_get rfl (by rfl) (fun K hK => ?_)
      refine ⟨?_, fun w' hS' => ?_, ?_⟩
      rotate_left
      · go_simp
        try (with_reducible rfl)
      try go_simp
      refine hK _ ?_
      clear hK K
      refine wpFk_done ?_
      refine HQ.out _ _ ?_
      clear HQ
      go_wp2
      go_ret
      exact ⟨rfl, HS.out.below⟩
    · have HE0 : chkF key x = 81 := by unfold chkF; rw [if_pos ho, ← hvv.out, if_neg hv]
      have q1 : (vv != 0) = true := by simpa using hv
      rw [HE0, ← hC, ← hK.out]
      clear HE0 hC hA hf ho h1 h2 h3 hk hc hcm hv
      go_enter Tryd.func17, Tryd.ntmps17
      go_upto_region 1 with fail
      refine world_gen (fun X => CkH w K C A x.path X) H0.out (fun X HX => ?_)
      have HX := Lib.hid HX
      have l1 := GA.out _ HX.out.row
      go_upto_region 3 with (go_at_call 15; (with_reducible refine (VA.out _).mono ?_); rintro e w1 ⟨rfl, hb⟩; have H2 := Lib.hid (HX.out.next hb); clear hb)
      clear l1 H0 HX
      refine wp_region_fk (CkH w K C A x.path) (.get 0 (.get 1 (.get 2 (.get 4 (.get 5 (.call 3 (.call 6 (.get 7 .done)))))))) (by kernel_rfl) rfl (by kernel_rfl) (by kernel_rfl) (by intro c a d v w h; cases d <;> exact h) (H2.out.next (Below.refl _ _).drew) (fun Q' hQ => ?_)
      have HS := Lib.hid (H2.out.next (Below.refl _ _).drew)
      have HQ := Lib.hid hQ
      clear hQ H2
      refine wpFk_get rfl (by rfl) (fun K hK => ?_)
      refine ⟨_, fun w' hS' => get_load rfl rfl (hS'.key.read zK.out), ?_⟩
      try go_simp
      refine hK _ ?_
      clear hK K
      refine wpFk_get rfl (by rfl) (fun K hK => ?_)
      refine ⟨?_, fun w' hS' => ?_, ?_⟩
      rotate_left
      · go_simp
        try (with_reducible rfl)
      try go_simp
      refine hK _ ?_
      clear hK K
      refine wpFk_get rfl (by rfl) (fun K hK => ?_)
      refine ⟨_, fun w' hS' => get_loadD rfl rfl (DA.out _ hS'.row), ?_⟩
      try go_simp
      refine hK _ ?_
      clear hK K
      refine wpFk_get rfl (by rfl) (fun K hK => ?_)
      refine ⟨?_, fun w' hS' => ?_, ?_⟩
      rotate_left
      · go_simp
        try (with_reducible rfl)
      try go_simp
      refine hK _ ?_
      clear hK K
      refine wpFk_get rfl (by rfl) (fun K hK => ?_)
      refine ⟨_, fun w' hS' => get_loadS rfl rfl (SA.out _ hS'.row), ?_⟩
      try go_simp
      refine hK _ ?_
      clear hK K
      refine wpFk_call rfl (by rfl) (fun K hK => ?_)
      go_simp
      go_at_call 13
      (with_reducible refine (X1.out _).mono ?_)
      rintro e w1x ⟨rfl, hb⟩
      replace HS := Lib.hid (HS.out.next hb)
      clear hb
      refine hK _ _ HS.out ?_
      clear hK K
      refine wpFk_call rfl (by rfl) (fun K hK => ?_)
      go_simp
      go_at_call 42
      (with_reducible refine (X2.out _ HS.out.lst).mono ?_)
      rintro e w1x ⟨rfl, hb⟩
      replace HS := Lib.hid (HS.out.next hb)
      clear hb
      refine hK _ _ HS.out ?_
      clear hK K
      refine wpFk_get rfl (by rfl) (fun K hK => ?_)
      refine ⟨?_, fun w' hS' => ?_, ?_⟩
      rotate_left
      · go_simp
        try (with_reducible rfl)
      try go_simp
      refine hK _ ?_
      clear hK K
      refine wpFk_done ?_
      refine HQ.out _ _ ?_
      clear HQ
      go_wp2
      go_ret
      exact ⟨rfl, HS.out.below⟩
  · rw [decide_eq_false ho] at VA
    have HE0 : chkF key x = 2 := by unfold chkF; rw [if_neg ho]
    rw [HE0, ← hC, ← hK.out]
    clear HE0 hC hA hf ho h1 h2 h3 hk hc hcm
    go_enter Tryd.func17, Tryd.ntmps17
    go_upto_region 1 with fail
    refine world_gen (fun X => CkH w K C A x.path X) H0.out (fun X HX => ?_)
    have HX := Lib.hid HX
    have l1 := GA.out _ HX.out.row
    go_wp2_with (go_at_call 15; (with_reducible refine (VA.out _).mono ?_); rintro e w1 ⟨rfl, hb⟩; have H2 := Lib.hid (HX.out.next hb); clear hb)
    go_ret
    exact ⟨rfl, H2.out.below⟩
end Go.Proofs.YtpndccoikhejgaaDoor
namespace Go.Proofs.YtpndccoikhejgaaDoor
open Go.RowKit
set_option linter.unusedVariables false
set_option maxRecDepth 100000

theorem lead_at (f k : Nat) (l : List Int) (hk : k < l.length) (hf : k < f) (h : Codec.lead f l = k + Codec.lead (f - k) (l.drop k)) (hc : 128 ≤ l.getD k 0) : Codec.lead f l = (k + 1) + Codec.lead (f - (k + 1)) (l.drop (k + 1)) := by
  rw [h, List.drop_eq_getElem_cons hk, show f - k = (f - (k + 1)) + 1 by omega, Codec.lead]
  rw [List.getD_eq_getElem?_getD, List.getElem?_eq_getElem hk] at hc
  rw [if_pos (by simpa using hc)]
  omega
theorem lead_end (f k : Nat) (l : List Int) (h : Codec.lead f l = k + Codec.lead (f - k) (l.drop k)) (he : l.length ≤ k ∨ f ≤ k ∨ l.getD k 0 < 128) : Codec.lead f l = k := by
  rw [h]
  rcases he with he | he | he
  · rw [List.drop_of_length_le he]
    cases f - k <;> simp [Codec.lead]
  · rw [show f - k = 0 by omega]; simp [Codec.lead]
  · rcases Nat.lt_or_ge k l.length with hk | hk
    · rw [List.drop_eq_getElem_cons hk]
      rw [List.getD_eq_getElem?_getD, List.getElem?_eq_getElem hk] at he
      cases f - k with
      | zero => simp [Codec.lead]
      | succ m => rw [Codec.lead, if_neg (by simp at he; omega)]; rfl
    · rw [List.drop_of_length_le hk]
      cases f - k <;> simp [Codec.lead]
theorem readR_ref (s : ByteArray) : readR s = Codec.refR (textL s) := (Codec.refR_is _ (textL_bytes s)).symm
theorem val_next (s : ByteArray) (i : Nat) (h : i < s.size) : Codec.valL ((textL s).take (i + 1)) = (Codec.valL ((textL s).take i) * 128 + s[i].toNat % 128) % 18446744073709551616 := by
  rw [List.take_succ_eq_append_getElem (by rw [textL_length]; exact h), Codec.valL_snoc]
  have e : (textL s)[i]'(by rw [textL_length]; exact h) = ((s[i].toNat : Nat) : Int) := by simp only [textL, List.getElem_map]; rfl
  rw [e, Int.toNat_natCast]
theorem numS_is (s : ByteArray) (p n : Nat) : numS n = s.extract 0 p ↔ Codec.numL n = (textL s).take p := by
  constructor
  · intro h
    rw [← textL_take, ← h]
    exact (textL_nums _ (Codec.numL_bytes n)).symm
  · intro h
    unfold numS
    rw [h, ← textL_take, text_nums]
theorem neq_yes (a b : ByteArray) (h : ¬ a = b) : (!(a.toList == b.toList)) = true := by
  have : ¬ a.toList = b.toList := fun e => h (Go.WideShapes.bytes_inj (by rw [ByteArray.toList_eq, ByteArray.toList_eq] at e; exact e))
  simpa using this
theorem neq_no (a b : ByteArray) (h : a = b) : (!(a.toList == b.toList)) = false := by
  subst h; simp
set_option maxHeartbeats 2000000 in
set_option maxRecDepth 100000 in
theorem refRead_any (s : ByteArray) (hs : s.size ≤ maxLen) (w : World) :
    Calls Tryd.prog 45 #[.string s] w fun e w' => e = .returned (readV s) ∧ Below w.heap.size w w' := by
  unfold maxLen at hs
  have HL := Lib.hid (textL_length s)
  go_enter Tryd.func45, Tryd.ntmps45
  go_wp2
  go_loop [5] (fun s5 => ∃ k : Nat, k ≤ s.size ∧ k ≤ 10 ∧ s5 = .int .i64 (k : Int) ∧ Hid (Codec.lead 10 (textL s) = k + Codec.lead (10 - k) ((textL s).drop k))) (fun s5 => 10 - (intOf s5).toNat)
  case atStart => exact ⟨0, by omega, by omega, rfl, Lib.hid (by simp)⟩
  case round =>
    obtain ⟨k, hk, hk10, rfl, HR⟩ := hrel
    by_cases hgo : k < s.size ∧ k < 10 ∧ ∃ h : k < s.size, 128 ≤ s[k].toNat
    · obtain ⟨hlt, hlt10, _, hc⟩ := hgo
      have hR' : Hid (Codec.lead 10 (textL s) = (k + 1) + Codec.lead (10 - (k + 1)) ((textL s).drop (k + 1))) := Lib.hid (lead_at 10 k _ (by rw [HL.out]; exact hlt) hlt10 HR.out (by rw [textL_getD s k hlt]; omega))
      have d1 : decide ((k : Int) < (s.size : Int)) = true := decide_eq_true (by omega)
      have d2 : decide ((k : Int) < 10) = true := decide_eq_true (by omega)
      have d3 : decide (128 ≤ ((s[k].toNat : Nat) : Int)) = true := decide_eq_true (by omega)
      go_wp2
      go_round
      case rel => exact ⟨k + 1, by omega, by omega, by go_num, hR'⟩
      case measure => simp [intOf]; omega
    · have hE : Hid (Codec.lead 10 (textL s) = k) := Lib.hid (lead_end 10 k _ HR.out (by
        rcases Nat.lt_or_ge k s.size with h | h
        · rcases Nat.lt_or_ge k 10 with h' | h'
          · right; right
            rw [textL_getD s k h]
            have : ¬ 128 ≤ s[k].toNat := fun hc => hgo ⟨h, h', h, hc⟩
            omega
          · right; left; omega
        · left; rw [HL.out]; exact h))
      have hstop : (decide ((k : Int) < (s.size : Int)) = false) ∨ (decide ((k : Int) < (s.size : Int)) = true ∧ decide ((k : Int) < 10) = false) ∨ (∃ h : k < s.size, decide ((k : Int) < (s.size : Int)) = true ∧ decide ((k : Int) < 10) = true ∧ decide (128 ≤ ((s[k].toNat : Nat) : Int)) = false) := by
        rcases Nat.lt_or_ge k s.size with h | h
        · rcases Nat.lt_or_ge k 10 with h' | h'
          · have : ¬ 128 ≤ s[k].toNat := fun hc => hgo ⟨h, h', h, hc⟩
            exact .inr (.inr ⟨h, decide_eq_true (by omega), decide_eq_true (by omega), decide_eq_false (by omega)⟩)
          · exact .inr (.inl ⟨decide_eq_true (by omega), decide_eq_false (by omega)⟩)
        · exact .inl (decide_eq_false (by omega))
      clear hgo HR
      rcases hstop with d1 | ⟨d1, d2⟩ | ⟨hlt, d1, d2, d3⟩
      · have hge : s.size ≤ k := by have := of_decide_eq_false d1; omega
        have hN : Hid (readV s = _) := Lib.hid (readV_no s (by rw [readR_ref]; unfold Codec.refR; rw [hE.out, HL.out, if_pos (.inl hge)]))
        have d4 : decide ((s.size : Int) ≤ (k : Int)) = true := decide_eq_true (by omega)
        go_wp2
        go_ret3
        exact ⟨ret_read hN.out, Below.refl _ _⟩
      · have hge : 10 ≤ k := by have := of_decide_eq_false d2; omega
        have hlt : k < s.size := by have := of_decide_eq_true d1; omega
        have hN : Hid (readV s = _) := Lib.hid (readV_no s (by rw [readR_ref]; unfold Codec.refR; rw [hE.out, HL.out, if_pos (.inr (by omega))]))
        have d4 : decide ((s.size : Int) ≤ (k : Int)) = false := decide_eq_false (by omega)
        have d5 : decide (9 < (k : Int)) = true := decide_eq_true (by omega)
        go_wp2
        go_ret3
        exact ⟨ret_read hN.out, Below.refl _ _⟩
      · have hk9 : k ≤ 9 := by have := of_decide_eq_true d2; omega
        have d4 : decide ((s.size : Int) ≤ (k : Int)) = false := decide_eq_false (by omega)
        have d5 : decide (9 < (k : Int)) = false := decide_eq_false (by omega)
        go_wp2
        go_loop [6, 7] (fun s6 s7 => ∃ i : Nat, i ≤ k + 1 ∧ s7 = .int .i64 (i : Int) ∧ s6 = .int .u64 ((Codec.valL ((textL s).take i) : Nat) : Int)) (fun _ s7 => k + 1 - (intOf s7).toNat)
        case atStart => exact ⟨0, by omega, rfl, rfl⟩
        case round =>
          obtain ⟨i, hi, rfl, rfl⟩ := hrel
          obtain ⟨v, hv⟩ : ∃ v, Hid (v = Codec.valL ((textL s).take i)) := ⟨_, Lib.hid rfl⟩
          rw [← hv.out]
          have hvb : v < 18446744073709551616 := by rw [hv.out]; exact Codec.valL_lt _
          by_cases hle : i ≤ k
          · have hil : i < s.size := by omega
            have hcb := (s[i]).toNat_lt
            have hnx : Hid (Codec.valL ((textL s).take (i + 1)) = (v * 128 + s[i].toNat % 128) % 18446744073709551616) := Lib.hid (by rw [val_next s i hil, hv.out])
            go_wp2
            go_round
            case rel => exact ⟨i + 1, by omega, by go_num, by rw [hnx.out]; exact ret_val (by rw [IntKind.wrap_u64, IntKind.wrap_u64]; omega)⟩
            case measure => simp [intOf]; omega
          · have hik : Hid (i = k + 1) := Lib.hid (by omega)
            have w1k : IntKind.i64.wrap ((k : Int) + 1) = (k : Int) + 1 := by rw [IntKind.wrap_i64]; omega
            have k0 : (0 : Int) ≤ (k : Int) + 1 := by omega
            have k1 : ((k : Int) + 1).toNat = k + 1 := by omega
            have k2 : (k : Int) + 1 ≤ (s.size : Int) := by omega
            rw [hik.out] at hv
            have hX : Hid (∀ W, Calls Tryd.prog 32 #[.int .u64 (v : Int)] W fun e w' => e = .returned (.string (numS v)) ∧ Below W.heap.size W w') := Lib.hid fun W => refNum_any v hvb W
            by_cases hAB : numS v = s.extract 0 (k + 1)
            · have hN : Hid (readV s = _) := Lib.hid (readV_yes s v (k + 1) (by
                have hl := (numS_is s (k + 1) v).1 hAB
                rw [readR_ref]; unfold Codec.refR
                rw [hE.out, HL.out, if_neg (by omega), ← hv.out, if_pos hl]))
              have ne := neq_no _ _ hAB
              clear hAB
              go_wp2_with fail
              go_region_with (go_at_call 32; (with_reducible refine (hX.out _).mono ?_); rintro e w1 ⟨rfl, hb⟩; have HB := Lib.hid hb; clear hb)
              all_goals
                go_wp2
                go_quiet (fail)
                go_wp2
                go_ret3
                exact ⟨ret_read hN.out, below_drewN (below_new (Below.refl _ _).drew HB.out) _⟩
            · have hN : Hid (readV s = _) := Lib.hid (readV_no s (by
                have hl := fun h => hAB ((numS_is s (k + 1) v).2 h)
                rw [readR_ref]; unfold Codec.refR
                rw [hE.out, HL.out, if_neg (by omega), ← hv.out, if_neg hl]))
              have ne := neq_yes _ _ hAB
              clear hAB
              go_wp2_with fail
              go_region_with (go_at_call 32; (with_reducible refine (hX.out _).mono ?_); rintro e w1 ⟨rfl, hb⟩; have HB := Lib.hid hb; clear hb)
              all_goals
                go_wp2
                go_ret3
                exact ⟨ret_read hN.out, below_new (Below.refl _ _).drew HB.out⟩
#print axioms refRead_any
end Go.Proofs.YtpndccoikhejgaaDoor
namespace Go.Proofs.YtpndccoikhejgaaDoor
open Go.RowKit
set_option linter.unusedVariables false
set_option maxRecDepth 100000

attribute [local go_sem ↓ high] read_at
set_option maxHeartbeats 2000000 in
set_option maxRecDepth 100000 in
theorem refUnhashes_any (s : ByteArray) (hs : s.size ≤ maxLen) (w : World) :
    Calls Tryd.prog 48 #[.string s] w fun e w' => UnhsPost s w e w' := by
  rcases hR : readR s with _ | ⟨n, p⟩
  · have hV := Lib.hid (unhsR_none s hR)
    have hc := refRead_any s hs w
    rw [readV_no s hR] at hc
    clear hR
    go_enter Tryd.func48, Tryd.ntmps48
    go_wp2_with (go_at_call 45; (with_reducible refine hc.mono ?_); rintro e w1 ⟨rfl, hb⟩)
    go_ret3
    exact UnhsPost.no hV.out rfl hb
  · have hc := refRead_any s hs w
    rw [readV_yes s n p hR] at hc
    have hn := (readR_lt s n p hR).1
    have HR := Lib.hid hR
    obtain ⟨T, hT⟩ : ∃ T, Hid (T = s.extract p s.size) := ⟨_, Lib.hid rfl⟩
    have hTs : T.size ≤ 9223372036854775807 := by rw [hT.out, ByteArray.size_extract]; unfold maxLen at hs; omega
    rw [← hT.out] at hc
    clear hR
    by_cases hbig : 64 < n
    · have hV := Lib.hid (unhsR_no s n p HR.out (by omega))
      have hd : decide (64 < (n : Int)) = true := decide_eq_true (by omega)
      clear hs
      go_enter Tryd.func48, Tryd.ntmps48
      go_wp2_with (go_at_call 45; (with_reducible refine hc.mono ?_); rintro e w1 ⟨rfl, hb⟩)
      go_ret3
      exact UnhsPost.no hV.out rfl hb
    · have hd : decide (64 < (n : Int)) = false := decide_eq_false (by omega)
      have hn64 : n ≤ 64 := by omega
      have wn : IntKind.i64.wrap (n : Int) = (n : Int) := by rw [IntKind.wrap_i64]; omega
      by_cases hshort : T.size < 32 * n
      · have hV := Lib.hid (unhsR_no s n p HR.out (by rw [← hT.out]; omega))
        have hd2 : decide ((T.size : Int) < 32 * (n : Int)) = true := decide_eq_true (by omega)
        clear hs hbig
        go_enter Tryd.func48, Tryd.ntmps48
        go_wp2_with (go_at_call 45; (with_reducible refine hc.mono ?_); rintro e w1 ⟨rfl, hb⟩)
        go_ret3
        exact UnhsPost.no hV.out rfl hb
      · have hd2 : decide ((T.size : Int) < 32 * (n : Int)) = false := decide_eq_false (by omega)
        have hTn : 32 * n ≤ T.size := by omega
        have hV := Lib.hid (unhsR_yes s n p HR.out ⟨hn64, by rw [← hT.out]; exact hTn⟩)
        obtain ⟨i0, hi, hz0, hz1, hz2⟩ := info_parts infoHash
        clear hs hbig hshort
        go_enter Tryd.func48, Tryd.ntmps48
        go_wp2_with (go_at_call 45; (with_reducible refine hc.mono ?_); rintro e w1 ⟨rfl, hb⟩)
        have HB0 : Hid (UnhsRow w w1 (.slice none 0 0) 0 (chunk (textL T) 0)) := Lib.hid ⟨⟨rfl, .inl ⟨rfl, rfl⟩⟩, hb⟩
        have hT0 : Hid (T = T.extract (32 * 0) T.size) := Lib.hid (textL_inj _ _ (by rw [textL_rest]; simp))
        clear hb
        go_loopw [6, 8, 9, 10, 11, 12] (fun s6 s8 s9 _ _ _ wr => ∃ k v, s9 = .int .i64 ((k : Nat) : Int) ∧ v = s8 ∧ s6 = .string (T.extract (32 * k) T.size) ∧ k ≤ n ∧ 32 * k ≤ T.size ∧ Hid (UnhsRow w wr v k (chunk (textL T) k))) (fun _ _ s9 _ _ _ _ => (n - intOf s9).toNat)
        case atStart => exact ⟨0, _, rfl, rfl, by rw [← hT0.out], by omega, by omega, HB0⟩
        case round =>
          clear HB0
          obtain ⟨k, v, rfl, rfl, rfl, hk, hkT, HH⟩ := hrel
          obtain ⟨R, hRR⟩ : ∃ R, Hid (R = T.extract (32 * k) T.size) := ⟨_, Lib.hid rfl⟩
          have hRs : Hid (R.size = T.size - 32 * k) := Lib.hid (by rw [hRR.out, ByteArray.size_extract]; omega)
          have hRm : R.size ≤ maxLen := by unfold maxLen; have := hRs.out; omega
          have hU : Hid (∀ W, Calls Tryd.prog 46 #[.string R] W fun e w' => e = .returned (unhV R) ∧ Below W.heap.size W w') := Lib.hid fun W => refUnhash_any R hRm W
          rw [← hRR.out]
          clear hRm
          by_cases hlt : k < n
          · rw [unhV_yes R (by have := hRs.out; omega)] at hU
            obtain ⟨l, hl⟩ : ∃ l, Hid (l = (textL R).take 32) := ⟨_, Lib.hid rfl⟩
            rw [← hl.out] at hU
            have hll : Hid (l.length = 32) := Lib.hid (by rw [hl.out, List.length_take, textL_length]; have := hRs.out; omega)
            go_wp2_with (first
              | (go_at_call 46; (with_reducible refine (hU.out _).mono ?_); rintro e w2 ⟨rfl, hb⟩; have HB2 := Lib.hid hb; clear hb)
              | (refine wpList_store_fresh rfl 23 _ _ rfl (nums .u8 l) rfl rfl 23 _ (sizeHash l hll.out) (by rw [nums_size, hll.out]; rfl) (nums_one _ _) ?_; intro w3 hS3 hb3; have s1 := hS3.read (by rw [nums_size, hll.out]); have HB3 := Lib.hid hb3; clear hS3 hb3)
              | (refine wpList_buildOne rfl _ rfl (nums .u8 l) rfl (by rw [nums_size, hll.out]) ?_)
              | (at_builtin; refine wpList_append_own _ rfl (.tmp 45) (.tmp 47) 27 rfl w.heap.size 23 i0 _ 32 32 Tryd.underlying27 hi hz0 hz1 hz2 (by simp [Value.cells, nums]) (by decide) _ _ _ rfl ((own_below HH.out.1 (below_new HB2.out HB3.out)).alloc _) ⟨w3.heap.size, 0, none⟩ 1 1 (l.map (Value.int .u8)) rfl (by rw [List.length_map, hll.out]) ?cc1 ?cc2 (by unfold maxLen; omega) (by omega) ?cc5 ?_))
            case cc1 =>
              intro j u hj
              rw [add_flat, cell_of_row _ w3.heap.size j _ _ _ (heap_alloc_new w3 _)]
              simpa [nums] using hj
            case cc2 =>
              intro u hu
              obtain ⟨z, _, rfl⟩ := List.mem_map.1 hu
              rfl
            case cc5 => have := (below_new HH.out.2 (below_new HB2.out HB3.out)).size; simp; omega
            intro v' w4 hown hgrow _
            have HN : Hid (UnhsRow w w4 v' (k + 1) (chunk (textL T) (k + 1))) := Lib.hid (by
              have := HH.out.next (below_new HB2.out HB3.out) hown hgrow
              rw [hl.out, hRR.out, extract_first] at this
              exact this)
            clear hown hgrow
            go_wp2
            go_roundw
            case rel => exact ⟨k + 1, _, by go_num, rfl, by rw [hRR.out, extract_next], by omega, by omega, HN⟩
            case measure => simp [intOf]; omega
          · have hk9 : Hid (k = n) := Lib.hid (by omega)
            have hR2 : Hid (Value.string R = .string (T.extract (32 * n) T.size)) := Lib.hid (by rw [hRR.out, hk9.out])
            obtain ⟨A, c, hv, hA, hAc⟩ : ∃ A c, Hid (v = .slice A n c) ∧ Hid (HL wr wr.heap.size A (chunk (textL T) n)) ∧ Hid (n ≤ c ∧ c ≤ maxLen) := by
              obtain ⟨A, c, e1, e2, e3⟩ := HH.out.lead (chunk_length _ _) (chunk_hashes _ _ (by rw [textL_length]; exact hkT) (textL_bytes T))
              rw [hk9.out] at e1 e2 e3
              exact ⟨A, c, Lib.hid e1, Lib.hid e2, Lib.hid e3⟩
            go_wp2
            go_ret3
            exact UnhsPost.yes hV.out hT.out (ret_tri hv.out hR2.out rfl) hA.out hAc.out HH.out.2
end Go.Proofs.YtpndccoikhejgaaDoor
namespace Go.Proofs.YtpndccoikhejgaaDoor
open Go.RowKit
set_option linter.unusedVariables false
set_option maxRecDepth 100000

set_option maxHeartbeats 1000000 in
set_option maxRecDepth 100000 in
theorem refCut_any (s : ByteArray) (hs : s.size ≤ maxLen) (w : World) :
    Calls Tryd.prog 47 #[.string s] w fun e w' => e = .returned (cutV s) ∧ Below w.heap.size w w' := by
  rcases hR : readR s with _ | ⟨n, p⟩
  · have hV := Lib.hid (cutV_none s hR)
    have hc := refRead_any s hs w
    rw [readV_no s hR] at hc
    clear hR
    go_enter Tryd.func47, Tryd.ntmps47
    go_wp2_with (go_at_call 45; (with_reducible refine hc.mono ?_); rintro e w1 ⟨rfl, hb⟩)
    go_ret3
    exact ⟨ret_is hV.out, hb⟩
  · have hc := refRead_any s hs w
    rw [readV_yes s n p hR] at hc
    have hn := (readR_lt s n p hR).1
    obtain ⟨T, hT⟩ : ∃ T, Hid (T = s.extract p s.size) := ⟨_, Lib.hid rfl⟩
    have hTs : T.size ≤ 9223372036854775807 := by rw [hT.out, ByteArray.size_extract]; unfold maxLen at hs; omega
    rw [← hT.out] at hc
    by_cases hle : n ≤ T.size
    · have hV := Lib.hid (cutV_yes s n p hR (by rw [← hT.out]; exact hle))
      rw [← hT.out] at hV
      have hw : IntKind.i64.wrap (n : Int) = (n : Int) := by rw [IntKind.wrap_i64]; omega
      clear hR hs
      go_enter Tryd.func47, Tryd.ntmps47
      go_wp2_with (go_at_call 45; (with_reducible refine hc.mono ?_); rintro e w1 ⟨rfl, hb⟩)
      go_quiet (fail)
      go_wp2
      go_ret3
      exact ⟨ret_is hV.out, below_drewN hb _⟩
    · have hV := Lib.hid (cutV_great s n p hR (by rw [← hT.out]; exact hle))
      clear hR hs
      go_enter Tryd.func47, Tryd.ntmps47
      go_wp2_with (go_at_call 45; (with_reducible refine hc.mono ?_); rintro e w1 ⟨rfl, hb⟩)
      go_ret3
      exact ⟨ret_is hV.out, hb⟩
end Go.Proofs.YtpndccoikhejgaaDoor
