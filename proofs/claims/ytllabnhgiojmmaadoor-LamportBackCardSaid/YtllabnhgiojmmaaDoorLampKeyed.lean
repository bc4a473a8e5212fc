/-
  The chapter's examples, as the statements of layer 8 call them ('keyed'): true, where the program's functions say what they ought to; the call makes new memory, nothing that was there changes. Condition: the two tables as they were laid.
-/
import Derived.Test.YtllabnhgiojmmaaDoorLampSays
import Derived.Test.YtllabnhgiojmmaaDoorFork
namespace Go.Proofs.YtllabnhgiojmmaaDoor
open Go.RowKit Go.Great
set_option linter.unusedVariables false
set_option maxRecDepth 100000

/-- What the examples hold on to. -/
structure KdH (w : World) (g : Nat) (C : Array Value) (W : World) : Prop where
  row : Row W g 24 C
  tab : Tab W
  below : Below w.heap.size w W
theorem KdH.next {w W W1 : World} {g : Nat} {C : Array Value} (h : KdH w g C W) (hb : Below W.heap.size W W1) : KdH w g C W1 := ⟨h.row.next hb, h.tab.next hb, below_new h.below hb⟩
theorem KdH.drew {w W : World} {g : Nat} {C : Array Value} (h : KdH w g C W) : KdH w g C W.drew := h.next (Below.refl _ _).drew
attribute [local go_sem ↓ high] read_at write_at eq_at neq_at
set_option maxHeartbeats 8000000 in
theorem keyed_any (SEC : SecretSays) (SIG : SignSays) (REC : RecoverSays) (w : World) (hT : Tab w) :
    Calls Tryd.prog 8 #[] w fun e w' => e = .returned (.bool true) ∧ Below w.heap.size w w' := by
  obtain ⟨D, hD⟩ : ∃ D, Hid (D = nums .u8 digL) := ⟨_, Lib.hid rfl⟩
  have zD : Hid (D.size = 32) := Lib.hid (by rw [hD.out, nums_size]; rfl)
  have oD : Hid (D.all (·.oneCell') = true) := Lib.hid (by rw [hD.out]; exact nums_one _ _)
  obtain ⟨FX, hF⟩ : ∃ X, Hid (X = nums .u8 firstL) := ⟨_, Lib.hid rfl⟩
  have zF : Hid (FX.size = 32) := Lib.hid (by rw [hF.out, nums_size]; rfl)
  have oF : Hid (FX.all (·.oneCell') = true) := Lib.hid (by rw [hF.out]; exact nums_one _ _)
  obtain ⟨FS, hFS⟩ : ∃ X, Hid (X = strOfNums firstL) := ⟨_, Lib.hid rfl⟩
  obtain ⟨Z, hZ⟩ : ∃ X, Hid (X = nums .u8 zeroL) := ⟨_, Lib.hid rfl⟩
  have zZ : Hid (Z.size = 32) := Lib.hid (by rw [hZ.out, nums_size]; rfl)
  have oZ : Hid (Z.all (·.oneCell') = true) := Lib.hid (by rw [hZ.out]; exact nums_one _ _)
  obtain ⟨SS, hSS⟩ : ∃ X, Hid (X = sigF ⟨#[97]⟩ 0 digL) := ⟨_, Lib.hid rfl⟩
  have n1 : (SS.size : Int) = 16384 := by rw [hSS.out, sign_size]; rfl
  have n2 : SS.extract 0 32 = FS := by rw [hSS.out, hFS.out]; exact sign_front
  have FI : firstL.length = 32 ∧ bytes firstL := ⟨rfl, (first_is ▸ (secL_is _ _ _ _).2 : bytes firstL)⟩
  have XS : Hid (∀ W, Tab W → Calls Tryd.prog 9 #[.string ⟨#[97]⟩, .int .i64 0, .agg D] W fun e w' => e = .returned (.string SS) ∧ Below W.heap.size W w') := Lib.hid fun W h => by
    rw [hD.out, hSS.out]; exact SIG _ 0 digL W h (by decide) ⟨by decide, by decide⟩ digL_is
  have X1 : Hid (∀ W, Tab W → Calls Tryd.prog 11 #[.string ⟨#[97]⟩, .int .i64 0, .int .i64 0, .int .i64 1] W fun e w' => e = .returned (.agg FX) ∧ Below W.heap.size W w') := Lib.hid fun W h => by
    have := SEC ⟨#[97]⟩ 0 0 1 W h (by decide) ⟨by decide, by decide⟩ ⟨by decide, by decide⟩ ⟨by decide, by decide⟩
    have e : secF ⟨#[97]⟩ 0 0 1 = firstL := (secF_ok (seed := ⟨#[97]⟩) (index := 0) (i := 0) (bit := 1) (by decide) (by decide) (by decide)).trans first_is
    rwa [e, ← hF.out] at this
  have X256 : Hid (∀ W, Tab W → Calls Tryd.prog 11 #[.string ⟨#[97]⟩, .int .i64 0, .int .i64 256, .int .i64 0] W fun e w' => e = .returned (.agg Z) ∧ Below W.heap.size W w') := Lib.hid fun W h => by
    have := SEC ⟨#[97]⟩ 0 256 0 W h (by decide) ⟨by decide, by decide⟩ ⟨by decide, by decide⟩ ⟨by decide, by decide⟩
    rwa [secF_no (by decide), ← hZ.out] at this
  have XNEG : Hid (∀ W, Tab W → Calls Tryd.prog 11 #[.string ⟨#[97]⟩, .int .i64 (-1), .int .i64 0, .int .i64 0] W fun e w' => e = .returned (.agg Z) ∧ Below W.heap.size W w') := Lib.hid fun W h => by
    have := SEC ⟨#[97]⟩ (-1) 0 0 W h (by decide) ⟨by decide, by decide⟩ ⟨by decide, by decide⟩ ⟨by decide, by decide⟩
    rwa [secF_no (by decide), ← hZ.out] at this
  have XR : Hid (∀ W, Tab W → Calls Tryd.prog 13 #[.string ⟨#[]⟩, .agg D] W fun e w' => e = .returned (.tuple #[.agg Z, .int .i64 10]) ∧ Below W.heap.size W w') := Lib.hid fun W h => by
    have := REC ⟨#[]⟩ digL W h (by decide) digL_is
    rwa [recF_no (by decide), ← hD.out, ← hZ.out] at this
  have E0 : Hid (∀ W, (eqAt (.agg Z) (.agg (nums .u8 zeroL))).run Tryd.prog W = .ok (.bool true) W) := Lib.hid fun W => by
    rw [hZ.out, eqAt_hash zeroL zeroL rfl rfl zeroL_is.2 zeroL_is.2 W, decide_eq_true rfl]
  have N0 : Hid (∀ W, (neqAt (.agg FX) (.agg (nums .u8 zeroL))).run Tryd.prog W = .ok (.bool true) W) := Lib.hid fun W => by
    rw [hF.out, neqAt_hash firstL zeroL FI.1 rfl FI.2 zeroL_is.2 W, decide_eq_false first_not]; rfl
  have CV : Hid (∀ W g, Row W g 24 FX → (convert 41 9 (.slice (some ⟨g, 0, none⟩) 32 32)).run Tryd.prog W = .ok (.string FS) W) := Lib.hid fun W g h => by
    rw [hFS.out]; exact conv_row (by rw [← hF.out]; exact h) rfl
  have hD2 : Hid ((nums .u8 digL) = D) := Lib.hid hD.out.symm
  have HT := Lib.hid hT
  clear hD hF hFS hSS hZ FI hT
  go_enter Tryd.func8, Tryd.ntmps8
  obtain ⟨w1, s1, hr1, hb1, hz1⟩ := made_write w #[.int .u8 128, .int .u8 0, .int .u8 0, .int .u8 0, .int .u8 0, .int .u8 0, .int .u8 0, .int .u8 0, .int .u8 0, .int .u8 0, .int .u8 0, .int .u8 0, .int .u8 0, .int .u8 0, .int .u8 0, .int .u8 0, .int .u8 0, .int .u8 0, .int .u8 0, .int .u8 0, .int .u8 0, .int .u8 0, .int .u8 0, .int .u8 0, .int .u8 0, .int .u8 0, .int .u8 0, .int .u8 0, .int .u8 0, .int .u8 0, .int .u8 0, .int .u8 0] rfl (nums_one .u8 digL)
  replace hr1 : Row w1 w.heap.size 24 (nums .u8 digL) := hr1
  rw [hD2.out] at hr1
  have H1 : Hid (KdH w w.heap.size D w1) := Lib.hid ⟨hr1, HT.out.next hb1, hb1⟩
  have l1 := hr1.read zD.out
  clear hr1 hb1 hz1
  go_upto_region 2 with fail
  clear s1
  go_upto_region 3 with (go_at_call 9; (with_reducible refine (XS.out _ H1.out.tab).mono ?_); rintro e w2 ⟨rfl, hb⟩; have H2 := Lib.hid (H1.out.next hb); clear hb)
  clear l1 H1
  go_upto_region 4 with (go_at_call 11; (with_reducible refine (X1.out _ H2.out.tab).mono ?_); rintro e w3 ⟨rfl, hb⟩; obtain ⟨w4, s4, hr4, hb4, hz4⟩ := made_write w3 FX zF.out oF.out; have H4 := Lib.hid ((H2.out.next hb).next hb4); have HR4 := Lib.hid hr4; clear hr4 hb4 hz4 hb)
  clear s4 H2
  have l4 := H4.out.row.read zD.out
  go_upto_region 5 with (go_at_call 13; (with_reducible refine (XR.out _ H4.out.tab).mono ?_); rintro e w5 ⟨rfl, hb⟩; obtain ⟨w6, s6, hr6, hb6, hz6⟩ := made_write w5 Z zZ.out oZ.out; have H6 : Hid (KdH w w3.heap.size FX w6) := Lib.hid ⟨(HR4.out.next hb).next hb6, ((H4.out.next hb).next hb6).tab, ((H4.out.next hb).next hb6).below⟩; clear hr6 hb6 hz6 hb)
  clear s6 H4 HR4 l4
  refine wp_region_fk (KdH w w3.heap.size FX) (.get 1 (.call 0 (.get 2 (.get 3 (.get 5 (.call 4 (.get 6 (.get 7 (.get 8 (.get 9 (.get 10 (.get 11 (.get 12 (.get 13 (.get 14 (.get 15 (.get 16 (.get 17 (.get 18 (.get 19 (.get 20 (.get 21 (.get 22 (.get 23 (.get 24 (.get 25 (.get 26 (.get 27 (.get 28 (.get 29 .done)))))))))))))))))))))))))))))) (by kernel_rfl) rfl (by kernel_rfl) (by kernel_rfl) (by intro c a d v w h; cases d <;> exact h) H6.out.drew (fun Q' hQ => ?_)
  have HS := Lib.hid H6.out.drew
  have HQ := Lib.hid hQ
  clear hQ
  refine wpFk_get rfl (by rfl) (fun K hK => ?_)
  refine ⟨?_, fun w' hS' => ?_, ?_⟩
  rotate_left
  · go_simp
    try (with_reducible rfl)
  try go_simp
  refine hK _ ?_
  clear hK K
  refine wpFk_call rfl (by rfl) (fun K hK => ?_)
  go_simp
  go_at_call 11
  refine (X256.out _ HS.out.tab).mono ?_
  rintro e w2x ⟨rfl, hb⟩
  replace HS := Lib.hid (HS.out.next hb)
  clear hb
  refine hK _ _ HS.out ?_
  clear hK K
  refine wpFk_get rfl (by rfl) (fun K hK => ?_)
  refine ⟨_, fun w' hS' => get_eqH rfl rfl rfl (E0.out _), ?_⟩
  try go_simp
  refine hK _ ?_
  clear hK K
  refine wpFk_get rfl (by rfl) (fun K hK => ?_)
  refine ⟨?_, fun w' hS' => ?_, ?_⟩
  rotate_left
  · go_simp
    try (with_reducible rfl)
  try go_simp
  refine hK _ ?_
  clear hK K
  refine wpFk_get rfl (by rfl) (fun K hK => ?_)
  refine ⟨?_, fun w' hS' => ?_, ?_⟩
  rotate_left
  · go_simp
    try (with_reducible rfl)
  try go_simp
  refine hK _ ?_
  clear hK K
  refine wpFk_call rfl (by rfl) (fun K hK => ?_)
  go_simp
  go_at_call 11
  refine (XNEG.out _ HS.out.tab).mono ?_
  rintro e w2x ⟨rfl, hb⟩
  replace HS := Lib.hid (HS.out.next hb)
  clear hb
  refine hK _ _ HS.out ?_
  clear hK K
  refine wpFk_get rfl (by rfl) (fun K hK => ?_)
  refine ⟨_, fun w' hS' => get_eqH rfl rfl rfl (E0.out _), ?_⟩
  try go_simp
  refine hK _ ?_
  clear hK K
  refine wpFk_get rfl (by rfl) (fun K hK => ?_)
  refine ⟨?_, fun w' hS' => ?_, ?_⟩
  rotate_left
  · go_simp
    try (with_reducible rfl)
  try go_simp
  refine hK _ ?_
  clear hK K
  refine wpFk_get rfl (by rfl) (fun K hK => ?_)
  refine ⟨?_, fun w' hS' => ?_, ?_⟩
  rotate_left
  · go_simp
    try (with_reducible rfl)
  try go_simp
  refine hK _ ?_
  clear hK K
  refine wpFk_get rfl (by rfl) (fun K hK => ?_)
  refine ⟨?_, fun w' hS' => ?_, ?_⟩
  rotate_left
  · go_simp
    try (with_reducible rfl)
  try go_simp
  refine hK _ ?_
  clear hK K
  refine wpFk_get rfl (by rfl) (fun K hK => ?_)
  refine ⟨?_, fun w' hS' => ?_, ?_⟩
  rotate_left
  · go_simp
    try (with_reducible rfl)
  try go_simp
  refine hK _ ?_
  clear hK K
  refine wpFk_get rfl (by rfl) (fun K hK => ?_)
  refine ⟨?_, fun w' hS' => ?_, ?_⟩
  rotate_left
  · go_simp
    try (with_reducible rfl)
  try go_simp
  refine hK _ ?_
  clear hK K
  refine wpFk_get rfl (by rfl) (fun K hK => ?_)
  refine ⟨?_, fun w' hS' => ?_, ?_⟩
  rotate_left
  · go_simp
    try (with_reducible rfl)
  try go_simp
  refine hK _ ?_
  clear hK K
  refine wpFk_get rfl (by rfl) (fun K hK => ?_)
  refine ⟨?_, fun w' hS' => ?_, ?_⟩
  rotate_left
  · go_simp
    try (with_reducible rfl)
  try go_simp
  refine hK _ ?_
  clear hK K
  refine wpFk_get rfl (by rfl) (fun K hK => ?_)
  refine ⟨?_, fun w' hS' => ?_, ?_⟩
  rotate_left
  · go_simp
    try (with_reducible rfl)
  try go_simp
  refine hK _ ?_
  clear hK K
  refine wpFk_get rfl (by rfl) (fun K hK => ?_)
  refine ⟨?_, fun w' hS' => ?_, ?_⟩
  rotate_left
  · go_simp
    try (with_reducible rfl)
  try go_simp
  refine hK _ ?_
  clear hK K
  refine wpFk_get rfl (by rfl) (fun K hK => ?_)
  refine ⟨?_, fun w' hS' => ?_, ?_⟩
  rotate_left
  · go_simp
    try (with_reducible rfl)
  try go_simp
  refine hK _ ?_
  clear hK K
  refine wpFk_get rfl (by rfl) (fun K hK => ?_)
  refine ⟨?_, fun w' hS' => ?_, ?_⟩
  rotate_left
  · have c17 := CV.out _ _ hS'.row
    go_simp
    try (with_reducible rfl)
  try go_simp
  refine hK _ ?_
  clear hK K
  refine wpFk_get rfl (by rfl) (fun K hK => ?_)
  refine ⟨?_, fun w' hS' => ?_, ?_⟩
  rotate_left
  · go_simp
    try (with_reducible rfl)
  try go_simp
  refine hK _ ?_
  clear hK K
  refine wpFk_get rfl (by rfl) (fun K hK => ?_)
  refine ⟨?_, fun w' hS' => ?_, ?_⟩
  rotate_left
  · go_simp
    try (with_reducible rfl)
  try go_simp
  refine hK _ ?_
  clear hK K
  refine wpFk_get rfl (by rfl) (fun K hK => ?_)
  refine ⟨?_, fun w' hS' => ?_, ?_⟩
  rotate_left
  · go_simp
    try (with_reducible rfl)
  try go_simp
  refine hK _ ?_
  clear hK K
  refine wpFk_get rfl (by rfl) (fun K hK => ?_)
  refine ⟨?_, fun w' hS' => ?_, ?_⟩
  rotate_left
  · go_simp
    try (with_reducible rfl)
  try go_simp
  refine hK _ ?_
  clear hK K
  refine wpFk_get rfl (by rfl) (fun K hK => ?_)
  refine ⟨?_, fun w' hS' => ?_, ?_⟩
  rotate_left
  · go_simp
    try (with_reducible rfl)
  try go_simp
  refine hK _ ?_
  clear hK K
  refine wpFk_get rfl (by rfl) (fun K hK => ?_)
  refine ⟨?_, fun w' hS' => ?_, ?_⟩
  rotate_left
  · go_simp
    try (with_reducible rfl)
  try go_simp
  refine hK _ ?_
  clear hK K
  refine wpFk_get rfl (by rfl) (fun K hK => ?_)
  refine ⟨?_, fun w' hS' => ?_, ?_⟩
  rotate_left
  · go_simp
    try (with_reducible rfl)
  try go_simp
  refine hK _ ?_
  clear hK K
  refine wpFk_get rfl (by rfl) (fun K hK => ?_)
  refine ⟨_, fun w' hS' => get_load rfl rfl (hS'.row.read zF.out), ?_⟩
  try go_simp
  refine hK _ ?_
  clear hK K
  refine wpFk_get rfl (by rfl) (fun K hK => ?_)
  refine ⟨?_, fun w' hS' => ?_, ?_⟩
  rotate_left
  · go_simp
    try (with_reducible rfl)
  try go_simp
  refine hK _ ?_
  clear hK K
  refine wpFk_get rfl (by rfl) (fun K hK => ?_)
  refine ⟨_, fun w' hS' => get_neqH rfl rfl rfl (N0.out _), ?_⟩
  try go_simp
  refine hK _ ?_
  clear hK K
  refine wpFk_get rfl (by rfl) (fun K hK => ?_)
  refine ⟨?_, fun w' hS' => ?_, ?_⟩
  rotate_left
  · go_simp
    try (with_reducible rfl)
  try go_simp
  refine hK _ ?_
  clear hK K
  refine wpFk_get rfl (by rfl) (fun K hK => ?_)
  refine ⟨?_, fun w' hS' => ?_, ?_⟩
  rotate_left
  · go_simp
    try (with_reducible rfl)
  try go_simp
  refine hK _ ?_
  clear hK K
  refine wpFk_done ?_
  refine HQ.out _ _ ?_
  go_wp2
  go_ret
  exact ⟨rfl, HS.out.below⟩
end Go.Proofs.YtllabnhgiojmmaaDoor
