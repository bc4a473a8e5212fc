/-
  Planted.
-/
import Derived.Test.YtgnkdkehooagpaaDoorPk08
import Derived.Test.YtgnkdkehooagpaaDoorPk32
import Derived.Test.YtgnkdkehooagpaaDoorPk04
namespace Go.Proofs.YtgnkdkehooagpaaDoor
open Go.RowKit Go.Great
set_option linter.unusedVariables false
set_option maxRecDepth 100000

/-- What the examples hold on to: the tree, the digest; and the seal. -/
structure PlH (TR : World → Value → ByteArray → Prop) (w : World) (v : Value) (g : Nat) (D : Array Value) (W : World) : Prop where
  tree : TR W v Fast.seedA
  dig : Row W g 23 D
  tab : Tab W
  below : Below w.heap.size w W
theorem PlH.next {TR : World → Value → ByteArray → Prop} {w W W1 : World} {v : Value} {g : Nat} {D : Array Value} (h : PlH TR w v g D W) (TS : TreeSays TR) (hb : Below W.heap.size W W1) : PlH TR w v g D W1 := ⟨TS.next h.tree hb, h.dig.next hb, h.tab.next hb, below_new h.below hb⟩
structure PsH (TR : World → Value → ByteArray → Prop) (w : World) (v : Value) (g : Nat) (D : Array Value) (g5 : Nat) (S : Array Value) (A : Option Addr) (ps : List (List Int)) (W : World) : Prop where
  pl : PlH TR w v g D W
  seal_ : Row W g5 32 S
  lst : HW W A ps
theorem PsH.next {TR : World → Value → ByteArray → Prop} {w W W1 : World} {v : Value} {g g5 : Nat} {D S : Array Value} {A : Option Addr} {ps : List (List Int)} (h : PsH TR w v g D g5 S A ps W) (TS : TreeSays TR) (hb : Below W.heap.size W W1) : PsH TR w v g D g5 S A ps W1 := ⟨h.pl.next TS hb, h.seal_.next hb, h.lst.next hb⟩
attribute [local go_sem ↓ high] read_at write_at read_s write_s
set_option maxHeartbeats 8000000 in
theorem planted_any (TR : World → Value → ByteArray → Prop) (TS : TreeSays TR) (w : World) (hT : Tab w) :
    Calls Tryd.prog 7 #[] w fun e w' => e = .returned (.bool true) ∧ Below w.heap.size w w' := by
  obtain ⟨D, hD⟩ : ∃ D, Hid (D = nums .u8 Fast.digA) := ⟨_, Lib.hid rfl⟩
  have zD : Hid (D.size = 32) := Lib.hid (by rw [hD.out, nums_size]; rfl)
  have hD2 : Hid ((nums .u8 Fast.digA) = D) := Lib.hid hD.out.symm
  obtain ⟨R, hR⟩ : ∃ R, Hid (R = nums .u8 (rootF Fast.seedA)) := ⟨_, Lib.hid rfl⟩
  obtain ⟨E, hE⟩ : ∃ E, Hid (E = sigF Fast.seedA 3 Fast.digA) := ⟨_, Lib.hid rfl⟩
  obtain ⟨ps, hps⟩ : ∃ ps, Hid (ps = pathL (keysF Fast.seedA) 3) := ⟨_, Lib.hid rfl⟩
  have lps : Hid (ps.length = 3) := Lib.hid (by rw [hps.out]; exact path8_length _ 3 (by decide))
  have hhp : Hid (hashes ps) := Lib.hid (by rw [hps.out]; exact path8_hashes _ 3)
  have zE : Hid (E.size ≤ maxLen) := Lib.hid (by rw [hE.out, show (3 : Int) = ((3 : Nat) : Int) from rfl, sigF_size _ 3 _ (by decide)]; decide)
  have XN : Hid (∀ W, Tab W → Calls Tryd.prog 8 #[.string ⟨#[97]⟩] W fun e w' => ∃ v, e = .returned v ∧ TR w' v Fast.seedA ∧ Below W.heap.size W w') := Lib.hid fun W h => TS.new_ Fast.seedA W h (by decide)
  have XR : Hid (∀ (v : Value) (W : World), Tab W → TR W v Fast.seedA → Calls Tryd.prog 10 #[v] W fun e w' => e = .returned (.agg R) ∧ Below W.heap.size W w') := Lib.hid fun v W h hv => by rw [hR.out]; exact TS.root Fast.seedA v W h hv (by decide)
  have X8 : Hid (∀ (v : Value) (W : World), Tab W → TR W v Fast.seedA → Calls Tryd.prog 12 #[v, .int .i64 8, .agg D] W fun e w' => ∃ A c, e = .returned (.tuple #[.agg (sealV 0 ⟨#[]⟩ A 0 c), .int .i64 2]) ∧ Below W.heap.size W w') := Lib.hid fun v W h hv => by
    rw [hD.out]
    refine (TS.sign Fast.seedA v 8 Fast.digA W h hv (by decide) ⟨by decide, by decide⟩ Fast.digA_is).mono ?_
    rintro e w' ⟨A, c, h1, _, _, _, h5⟩
    rw [sealF_no (by decide)] at h1
    exact ⟨A, c, h1, h5⟩
  have X3 : Hid (∀ (v : Value) (W : World), Tab W → TR W v Fast.seedA → Calls Tryd.prog 12 #[v, .int .i64 3, .agg D] W fun e w' => ∃ A c, e = .returned (.tuple #[.agg (sealV 3 E A 3 c), .int .i64 0]) ∧ (3 ≤ c ∧ c ≤ maxLen) ∧ HW w' A ps ∧ Below W.heap.size W w') := Lib.hid fun v W h hv => by
    rw [hD.out]
    refine (TS.sign Fast.seedA v 3 Fast.digA W h hv (by decide) ⟨by decide, by decide⟩ Fast.digA_is).mono ?_
    rintro e w' ⟨A, c, h1, h2, h3, h4, h5⟩
    have hs : sealF Fast.seedA ((3 : Nat) : Int) Fast.digA = ((3, E, ps), 0) := by rw [sealF_ok (by decide), hE.out, hps.out]; rfl
    rw [show (3 : Int) = ((3 : Nat) : Int) from rfl, hs] at h1 h2 h4
    rw [show (((3 : Int), E, ps), (0 : Int)).1.2.2.length = 3 from lps.out] at h1 h2
    exact ⟨A, c, h1, ⟨h2, h3⟩, h4, h5⟩
  have V1 : Hid (∀ (A : Option Addr) (c : Nat) (W : World), Tab W → HW W A ps → 3 ≤ c ∧ c ≤ maxLen → Calls Tryd.prog 15 #[.agg R, .agg D, .agg (sealV 3 E A 3 c)] W fun e w' => e = .returned (.int .i64 0) ∧ Below W.heap.size W w') := Lib.hid fun A c W h hA hc => by
    have := TS.ver (rootF Fast.seedA) Fast.digA 3 E ps A c W h (rootF_is _) Fast.digA_is ⟨by decide, by decide⟩ zE.out hhp.out hA (by rw [lps.out]; exact hc.1) hc.2
    have e : verF (rootF Fast.seedA) Fast.digA 3 E ps = 0 := by rw [hE.out, hps.out]; exact verF_own Fast.seedA 3 (by decide) Fast.digA
    rw [e, lps.out] at this
    rw [hR.out, hD.out]; exact this
  have V2 : Hid (∀ (A : Option Addr) (c : Nat) (W : World), Tab W → HW W A ps → 3 ≤ c ∧ c ≤ maxLen → Calls Tryd.prog 15 #[.agg R, .agg #[.int .u8 1, .int .u8 0, .int .u8 0, .int .u8 0, .int .u8 0, .int .u8 0, .int .u8 0, .int .u8 0, .int .u8 0, .int .u8 0, .int .u8 0, .int .u8 0, .int .u8 0, .int .u8 0, .int .u8 0, .int .u8 0, .int .u8 0, .int .u8 0, .int .u8 0, .int .u8 0, .int .u8 0, .int .u8 0, .int .u8 0, .int .u8 0, .int .u8 0, .int .u8 0, .int .u8 0, .int .u8 0, .int .u8 0, .int .u8 0, .int .u8 0, .int .u8 0], .agg (sealV 3 E A 3 c)] W fun e w' => e = .returned (.int .i64 81) ∧ Below W.heap.size W w') := Lib.hid fun A c W h hA hc => by
    have := TS.ver (rootF Fast.seedA) Fast.digB 3 E ps A c W h (rootF_is _) Fast.digB_is ⟨by decide, by decide⟩ zE.out hhp.out hA (by rw [lps.out]; exact hc.1) hc.2
    have e : verF (rootF Fast.seedA) Fast.digB 3 E ps = 81 := by rw [hE.out, hps.out]; exact Fast.verA_other
    rw [e, lps.out] at this
    rw [hR.out]; exact this
  have HT := Lib.hid hT
  clear hD hE hps hR hT
  go_enter Tryd.func7, Tryd.ntmps7
  go_upto_region 2 with (go_at_call 8; (with_reducible refine (XN.out _ HT.out).mono ?_); rintro e w0 ⟨v, rfl, hv, hb⟩; have H0 := Lib.hid (And.intro hv hb); clear hv hb)
  obtain ⟨w1, s1, hr1, hb1, hz1⟩ := made_write w0 #[.int .u8 1, .int .u8 2, .int .u8 0, .int .u8 0, .int .u8 0, .int .u8 0, .int .u8 0, .int .u8 0, .int .u8 0, .int .u8 0, .int .u8 0, .int .u8 0, .int .u8 0, .int .u8 0, .int .u8 0, .int .u8 0, .int .u8 0, .int .u8 0, .int .u8 0, .int .u8 0, .int .u8 0, .int .u8 0, .int .u8 0, .int .u8 0, .int .u8 0, .int .u8 0, .int .u8 0, .int .u8 0, .int .u8 0, .int .u8 0, .int .u8 0, .int .u8 0] rfl (nums_one .u8 Fast.digA)
  replace hr1 : Row w1 w0.heap.size 23 (nums .u8 Fast.digA) := hr1
  rw [hD2.out] at hr1
  have H1 : Hid (PlH TR w v w0.heap.size D w1) := Lib.hid ⟨TS.next H0.out.1 hb1, hr1, (HT.out.next H0.out.2).next hb1, below_new H0.out.2 hb1⟩
  clear hr1 hb1 hz1 H0
  go_upto_region 3 with fail
  clear s1
  have l1 := H1.out.dig.read zD.out
  go_upto_region 4 with (go_at_call 12; (with_reducible refine (X8.out _ _ H1.out.tab H1.out.tree).mono ?_); rintro e w2 ⟨A0, c0, rfl, hb⟩; obtain ⟨w3, s3, hr3, hb3⟩ := made_seal w2 (sealV 0 ⟨#[]⟩ A0 0 c0) rfl (sealV_one 0 ⟨#[]⟩ A0 0 c0); have H3 := Lib.hid ((H1.out.next TS hb).next TS hb3); clear hr3 hb3 hb)
  clear s3 l1 H1
  have l1 := H3.out.dig.read zD.out
  go_upto_region 5 with (go_at_call 12; (with_reducible refine (X3.out _ _ H3.out.tab H3.out.tree).mono ?_); rintro e w4 ⟨A, c, rfl, hc, hA, hb⟩; obtain ⟨w5, s5, hr5, hb5⟩ := made_seal w4 (sealV 3 E A 3 c) rfl (sealV_one 3 E A 3 c); have HC := Lib.hid hc; have H5 : Hid (PsH TR w v w0.heap.size D w4.heap.size (sealV 3 E A 3 c) A ps w5) := Lib.hid ⟨(H3.out.next TS hb).next TS hb5, hr5, HW.next hA hb5⟩; clear hr5 hb5 hb hc hA)
  clear s5 l1 H3
  have V1 : Hid (∀ (W : World), Tab W → HW W A ps → Calls Tryd.prog 15 #[.agg R, .agg D, .agg (sealV 3 E A 3 c)] W fun e w' => e = .returned (.int .i64 0) ∧ Below W.heap.size W w') := Lib.hid fun W h hA => V1.out A c W h hA HC.out
  have V2 : Hid (∀ (W : World), Tab W → HW W A ps → Calls Tryd.prog 15 #[.agg R, .agg #[.int .u8 1, .int .u8 0, .int .u8 0, .int .u8 0, .int .u8 0, .int .u8 0, .int .u8 0, .int .u8 0, .int .u8 0, .int .u8 0, .int .u8 0, .int .u8 0, .int .u8 0, .int .u8 0, .int .u8 0, .int .u8 0, .int .u8 0, .int .u8 0, .int .u8 0, .int .u8 0, .int .u8 0, .int .u8 0, .int .u8 0, .int .u8 0, .int .u8 0, .int .u8 0, .int .u8 0, .int .u8 0, .int .u8 0, .int .u8 0, .int .u8 0, .int .u8 0], .agg (sealV 3 E A 3 c)] W fun e w' => e = .returned (.int .i64 81) ∧ Below W.heap.size W w') := Lib.hid fun W h hA => V2.out A c W h hA HC.out
  have H6 := Lib.hid (H5.out.next TS (Below.refl _ _).drew)
  refine wp_region_fk (PsH TR w v w0.heap.size D w4.heap.size (sealV 3 E A 3 c) A ps) (.get 0 (.get 1 (.get 2 (.get 3 (.get 4 (.get 5 (.get 6 (.get 7 (.get 8 (.get 9 (.get 10 (.get 11 (.get 12 (.get 13 (.get 14 (.get 15 (.get 16 (.get 17 (.get 18 (.get 20 (.get 21 (.call 19 (.call 22 (.get 23 (.get 24 (.get 25 (.get 26 (.get 28 (.get 29 (.call 27 (.call 30 (.get 31 (.get 32 (.get 33 .done)))))))))))))))))))))))))))))))))) (by kernel_rfl) rfl (by kernel_rfl) (by kernel_rfl) (by intro c a d v w h; cases d <;> exact h) H6.out (fun Q' hQ => ?_)
  have HS := H6
  have HQ := Lib.hid hQ
  clear hQ H5 H6
  refine wpFk_get rfl (by rfl) (fun K hK => ?_)
  refine ⟨?_, fun w' hS' => ?_, ?_⟩
  rotate_left
  · go_simp
    try (with_reducible rfl)
  try go_simp
  refine hK _ ?_
  clear hK K
  refine wpFk_get rfl (by rfl) (fun K hK => ?_)
  refine ⟨?_, fun w' hS' => ?_, ?_⟩
  rotate_left
  · go_simp
    try (with_reducible rfl)
  try go_simp
  refine hK _ ?_
  clear hK K
  refine wpFk_get rfl (by rfl) (fun K hK => ?_)
  refine ⟨?_, fun w' hS' => ?_, ?_⟩
  rotate_left
  · go_simp
    try (with_reducible rfl)
  try go_simp
  refine hK _ ?_
  clear hK K
  refine wpFk_get rfl (by rfl) (fun K hK => ?_)
  refine ⟨?_, fun w' hS' => ?_, ?_⟩
  rotate_left
  · go_simp
    try (with_reducible rfl)
  try go_simp
  refine hK _ ?_
  clear hK K
  refine wpFk_get rfl (by rfl) (fun K hK => ?_)
  refine ⟨?_, fun w' hS' => ?_, ?_⟩
  rotate_left
  · go_simp
    try (with_reducible rfl)
  try go_simp
  refine hK _ ?_
  clear hK K
  refine wpFk_get rfl (by rfl) (fun K hK => ?_)
  refine ⟨?_, fun w' hS' => ?_, ?_⟩
  rotate_left
  · go_simp
    try (with_reducible rfl)
  try go_simp
  refine hK _ ?_
  clear hK K
  refine wpFk_get rfl (by rfl) (fun K hK => ?_)
  refine ⟨?_, fun w' hS' => ?_, ?_⟩
  rotate_left
  · go_simp
    try (with_reducible rfl)
  try go_simp
  refine hK _ ?_
  clear hK K
  refine wpFk_get rfl (by rfl) (fun K hK => ?_)
  refine ⟨?_, fun w' hS' => ?_, ?_⟩
  rotate_left
  · go_simp
    try (with_reducible rfl)
  try go_simp
  refine hK _ ?_
  clear hK K
  refine wpFk_get rfl (by rfl) (fun K hK => ?_)
  refine ⟨?_, fun w' hS' => ?_, ?_⟩
  rotate_left
  · have ⟨c0, c1, c2⟩ := seal_cells hS'.seal_
    go_simp
    try (with_reducible rfl)
  try go_simp
  refine hK _ ?_
  clear hK K
  refine wpFk_get rfl (by rfl) (fun K hK => ?_)
  refine ⟨?_, fun w' hS' => ?_, ?_⟩
  rotate_left
  · go_simp
    try (with_reducible rfl)
  try go_simp
  refine hK _ ?_
  clear hK K
  refine wpFk_get rfl (by rfl) (fun K hK => ?_)
  refine ⟨?_, fun w' hS' => ?_, ?_⟩
  rotate_left
  · go_simp
    try (with_reducible rfl)
  try go_simp
  refine hK _ ?_
  clear hK K
  refine wpFk_get rfl (by rfl) (fun K hK => ?_)
  refine ⟨?_, fun w' hS' => ?_, ?_⟩
  rotate_left
  · go_simp
    try (with_reducible rfl)
  try go_simp
  refine hK _ ?_
  clear hK K
  refine wpFk_get rfl (by rfl) (fun K hK => ?_)
  refine ⟨?_, fun w' hS' => ?_, ?_⟩
  rotate_left
  · go_simp
    try (with_reducible rfl)
  try go_simp
  refine hK _ ?_
  clear hK K
  refine wpFk_get rfl (by rfl) (fun K hK => ?_)
  refine ⟨?_, fun w' hS' => ?_, ?_⟩
  rotate_left
  · have ⟨c0, c1, c2⟩ := seal_cells hS'.seal_
    go_simp
    try (with_reducible rfl)
  try go_simp
  refine hK _ ?_
  clear hK K
  refine wpFk_get rfl (by rfl) (fun K hK => ?_)
  refine ⟨?_, fun w' hS' => ?_, ?_⟩
  rotate_left
  · go_simp
    try (with_reducible rfl)
  try go_simp
  refine hK _ ?_
  clear hK K
  refine wpFk_get rfl (by rfl) (fun K hK => ?_)
  refine ⟨?_, fun w' hS' => ?_, ?_⟩
  rotate_left
  · go_simp
    try (with_reducible rfl)
  try go_simp
  refine hK _ ?_
  clear hK K
  refine wpFk_get rfl (by rfl) (fun K hK => ?_)
  refine ⟨?_, fun w' hS' => ?_, ?_⟩
  rotate_left
  · go_simp
    try (with_reducible rfl)
  try go_simp
  refine hK _ ?_
  clear hK K
  refine wpFk_get rfl (by rfl) (fun K hK => ?_)
  refine ⟨?_, fun w' hS' => ?_, ?_⟩
  rotate_left
  · go_simp
    try (with_reducible rfl)
  try go_simp
  refine hK _ ?_
  clear hK K
  refine wpFk_get rfl (by rfl) (fun K hK => ?_)
  refine ⟨?_, fun w' hS' => ?_, ?_⟩
  rotate_left
  · go_simp
    try (with_reducible rfl)
  try go_simp
  refine hK _ ?_
  clear hK K
  refine wpFk_get rfl (by rfl) (fun K hK => ?_)
  refine ⟨_, fun w' hS' => get_load rfl rfl (hS'.pl.dig.read zD.out), ?_⟩
  try go_simp
  refine hK _ ?_
  clear hK K
  refine wpFk_get rfl (by rfl) (fun K hK => ?_)
  refine ⟨_, fun w' hS' => get_loadS rfl rfl (hS'.seal_.readS rfl), ?_⟩
  try go_simp
  refine hK _ ?_
  clear hK K
  refine wpFk_call rfl (by rfl) (fun K hK => ?_)
  go_simp
  have hp := HS.out.pl
  go_at_call 10
  (with_reducible refine (XR.out _ _ hp.tab hp.tree).mono ?_)
  rintro e w2x ⟨rfl, hb⟩
  replace HS := Lib.hid (HS.out.next TS hb)
  clear hb
  refine hK _ _ HS.out ?_
  clear hK K
  refine wpFk_call rfl (by rfl) (fun K hK => ?_)
  go_simp
  have hp := HS.out.pl
  go_at_call 15
  (with_reducible refine (V1.out _ hp.tab HS.out.lst).mono ?_)
  rintro e w2x ⟨rfl, hb⟩
  replace HS := Lib.hid (HS.out.next TS hb)
  clear hb
  refine hK _ _ HS.out ?_
  clear hK K
  refine wpFk_get rfl (by rfl) (fun K hK => ?_)
  refine ⟨?_, fun w' hS' => ?_, ?_⟩
  rotate_left
  · go_simp
    try (with_reducible rfl)
  try go_simp
  refine hK _ ?_
  clear hK K
  refine wpFk_get rfl (by rfl) (fun K hK => ?_)
  refine ⟨?_, fun w' hS' => ?_, ?_⟩
  rotate_left
  · go_simp
    try (with_reducible rfl)
  try go_simp
  refine hK _ ?_
  clear hK K
  refine wpFk_get rfl (by rfl) (fun K hK => ?_)
  refine ⟨?_, fun w' hS' => ?_, ?_⟩
  rotate_left
  · go_simp
    try (with_reducible rfl)
  try go_simp
  refine hK _ ?_
  clear hK K
  refine wpFk_get rfl (by rfl) (fun K hK => ?_)
  refine ⟨?_, fun w' hS' => ?_, ?_⟩
  rotate_left
  · go_simp
    try (with_reducible rfl)
  try go_simp
  refine hK _ ?_
  clear hK K
  refine wpFk_get rfl (by rfl) (fun K hK => ?_)
  refine ⟨?_, fun w' hS' => ?_, ?_⟩
  rotate_left
  · go_simp
    try (with_reducible rfl)
  try go_simp
  refine hK _ ?_
  clear hK K
  refine wpFk_get rfl (by rfl) (fun K hK => ?_)
  refine ⟨_, fun w' hS' => get_loadS rfl rfl (hS'.seal_.readS rfl), ?_⟩
  try go_simp
  refine hK _ ?_
  clear hK K
  refine wpFk_call rfl (by rfl) (fun K hK => ?_)
  go_simp
  have hp := HS.out.pl
  go_at_call 10
  (with_reducible refine (XR.out _ _ hp.tab hp.tree).mono ?_)
  rintro e w2x ⟨rfl, hb⟩
  replace HS := Lib.hid (HS.out.next TS hb)
  clear hb
  refine hK _ _ HS.out ?_
  clear hK K
  refine wpFk_call rfl (by rfl) (fun K hK => ?_)
  go_simp
  have hp := HS.out.pl
  go_at_call 15
  (with_reducible refine (V2.out _ hp.tab HS.out.lst).mono ?_)
  rintro e w2x ⟨rfl, hb⟩
  replace HS := Lib.hid (HS.out.next TS hb)
  clear hb
  refine hK _ _ HS.out ?_
  clear hK K
  refine wpFk_get rfl (by rfl) (fun K hK => ?_)
  refine ⟨?_, fun w' hS' => ?_, ?_⟩
  rotate_left
  · go_simp
    try (with_reducible rfl)
  try go_simp
  refine hK _ ?_
  clear hK K
  refine wpFk_get rfl (by rfl) (fun K hK => ?_)
  refine ⟨?_, fun w' hS' => ?_, ?_⟩
  rotate_left
  · go_simp
    try (with_reducible rfl)
  try go_simp
  refine hK _ ?_
  clear hK K
  refine wpFk_get rfl (by rfl) (fun K hK => ?_)
  refine ⟨?_, fun w' hS' => ?_, ?_⟩
  rotate_left
  · go_simp
    try (with_reducible rfl)
  try go_simp
  refine hK _ ?_
  clear hK K
  refine wpFk_done ?_
  refine HQ.out _ _ ?_
  go_wp2
  go_ret
  exact ⟨rfl, HS.out.pl.below⟩
end Go.Proofs.YtgnkdkehooagpaaDoor
