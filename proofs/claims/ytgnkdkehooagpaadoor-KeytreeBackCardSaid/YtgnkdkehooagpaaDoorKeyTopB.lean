/-
  Proved: called with any text, any three numbers and any two hashes, the statement KeytreeBack (what each key of a tree signs is verified against its root; with another digest, another index, another byte or another hash in its path it is not; where two unlike texts have one hash it asks the examples alone) returns true, and its arguments read as before. Condition: the two tables of the package sha hold what the program's text lays, which the card ties to that text.
-/
import Derived.Test.YtgnkdkehooagpaaDoorPk93
import Derived.Test.YtgnkdkehooagpaaDoorPk34
import Derived.Test.YtgnkdkehooagpaaDoorPk27
namespace Go.Proofs.YtgnkdkehooagpaaDoor
open Go.RowKit Go.Great
set_option linter.unusedVariables false
set_option maxRecDepth 100000

attribute [local go_sem ↓ high] read_at write_at read_s write_s eq_at neq_at
set_option maxHeartbeats 16000000 in
theorem keybacklaw_any (TR : World → Value → ByteArray → Prop) (TS : TreeSays TR) (seed : ByteArray) (hs : seed.size ≤ maxLen) (n0 n1 n2 : Int) (hn : (0 ≤ n0 ∧ n0 < 65536) ∧ (0 ≤ n1 ∧ n1 < 65536) ∧ (0 ≤ n2 ∧ n2 < 65536)) (d0 d1 : List Int) (hd0 : d0.length = 32 ∧ bytes d0) (hd1 : d1.length = 32 ∧ bytes d1) (w : World) (hT : Tab w) :
    Calls Tryd.prog 6 #[.string seed, .agg (nums .u16 [n0, n1, n2]), .agg (nums .u8 (d0 ++ d1))] w fun e w' => e = .returned (.bool true) ∧ Below w.heap.size w w' := by
  have KED : Hid (∀ W, Tab W → Calls Tryd.prog 7 #[] W fun e w' => e = .returned (.bool true) ∧ Below W.heap.size W w') := Lib.hid fun W h => planted_any TR TS W h
  obtain ⟨N, hN⟩ : ∃ N, N = nums .u16 [n0, n1, n2] := ⟨_, rfl⟩
  obtain ⟨DD, hDD⟩ : ∃ D, D = nums .u8 (d0 ++ d1) := ⟨_, rfl⟩
  obtain ⟨D0, hD0⟩ : ∃ D, Hid (D = nums .u8 d0) := ⟨_, Lib.hid rfl⟩
  obtain ⟨D1, hD1⟩ : ∃ D, Hid (D = nums .u8 d1) := ⟨_, Lib.hid rfl⟩
  have HT := Lib.hid hT
  rw [← hN, ← hDD]
  have H0 : Hid ((Row ((w.alloc (.cells N 49)).alloc (.cells DD 50)) w.heap.size 49 N ∧ Row ((w.alloc (.cells N 49)).alloc (.cells DD 50)) (w.heap.size + 1) 50 DD) ∧ Below w.heap.size w ((w.alloc (.cells N 49)).alloc (.cells DD 50))) := Lib.hid ⟨⟨(Row.made _ _ _).alloc _, Row.made2 _ _ _ _⟩, ((Below.refl _ _).alloc (Nat.le_refl _) _).alloc (by simp) _⟩
  have CL : Hid (∀ W, Row W w.heap.size 49 N → W.cell? ⟨w.heap.size, 0, none⟩ = some (.int .u16 n0) ∧ W.cell? ⟨w.heap.size, 1, none⟩ = some (.int .u16 n1) ∧ W.cell? ⟨w.heap.size, 2, none⟩ = some (.int .u16 n2)) := Lib.hid fun W h => by
    subst hN; exact ⟨h.cell 0, h.cell 1, h.cell 2⟩
  have RD : Hid (∀ W, Row W (w.heap.size + 1) 50 DD → (readAt (.pointer (some ⟨w.heap.size + 1, 0, none⟩))).run Tryd.prog W = .ok (.agg D0) W ∧ (readAt (.pointer (some ⟨w.heap.size + 1, 32, none⟩))).run Tryd.prog W = .ok (.agg D1) W) := Lib.hid fun W h => by
    subst hDD; rw [hD0.out, hD1.out]; exact read_two' h hd0.1 hd1.1
  clear hN hDD
  by_cases h3 : 60 < seed.size
  · have e1 : decide (60 < (seed.size : Int)) = true := decide_eq_true (by omega)
    have e2 : (60 : Int) < (seed.size : Int) := by omega
    clear hs hT hn hd0 hd1
    go_enter Tryd.func6, Tryd.ntmps6
    go_upto_region 1 with fail
    refine world_gen (fun X => Below w.heap.size w X) H0.out.2 (fun X HX => ?_)
    have HT2 := Lib.hid (HT.out.next HX)
    have HB := Lib.hid HX
    go_wp2_with (go_at_call 7; (with_reducible refine (KED.out _ HT2.out).mono ?_); rintro e w1 ⟨rfl, hb⟩; have HB := Lib.hid (below_new HB.out hb); clear hb)
    go_ret
    exact ⟨rfl, HB.out⟩
  have e1 : decide (60 < (seed.size : Int)) = false := decide_eq_false (by omega)
  have e2 : ¬ (60 : Int) < (seed.size : Int) := by omega
  have hs2 : seed.size ≤ 100000 := by omega
  obtain ⟨I, hI⟩ : ∃ I : Nat, I = n0.toNat % 8 := ⟨_, rfl⟩
  have hI8 : I < 8 := by omega
  obtain ⟨E, hE⟩ : ∃ E, Hid (E = sigF seed I d0) := ⟨_, Lib.hid rfl⟩
  have EZ : Hid (E.size = 16384) := Lib.hid (by rw [hE.out]; exact sigF_size seed I d0 (by omega))
  have hEi : (E.size : Int) = 16384 := by have := EZ.out; omega
  obtain ⟨ps, hps⟩ : ∃ ps, Hid (ps = pathL (keysF seed) I) := ⟨_, Lib.hid rfl⟩
  have lps : Hid (ps.length = 3) := Lib.hid (by rw [hps.out]; exact path8_length seed I hI8)
  have hhp : Hid (hashes ps) := Lib.hid (by rw [hps.out]; exact path8_hashes seed I)
  obtain ⟨rt, hrt⟩ : ∃ r, Hid (r = rootF seed) := ⟨_, Lib.hid rfl⟩
  have rt32 : Hid (rt.length = 32 ∧ bytes rt) := Lib.hid (by rw [hrt.out]; exact rootF_is seed)
  obtain ⟨R, hR⟩ : ∃ R, Hid (R = nums .u8 rt) := ⟨_, Lib.hid rfl⟩
  have XN : Hid (∀ W, Tab W → Calls Tryd.prog 8 #[.string seed] W fun e w' => ∃ v, e = .returned v ∧ TR w' v seed ∧ Below W.heap.size W w') := Lib.hid fun W h => TS.new_ seed W h hs2
  have XR : Hid (∀ v W, Tab W → TR W v seed → Calls Tryd.prog 10 #[v] W fun e w' => e = .returned (.agg R) ∧ Below W.heap.size W w') := Lib.hid fun v W h hv => by rw [hR.out, hrt.out]; exact TS.root seed v W h hv hs2
  have XG : Hid (∀ v W, Tab W → TR W v seed → Calls Tryd.prog 12 #[v, .int .i64 (I : Int), .agg D0] W fun e w' => ∃ A c, e = .returned (.tuple #[.agg (sealV (I : Int) E A 3 c), .int .i64 0]) ∧ (3 ≤ c ∧ c ≤ maxLen) ∧ HW w' A ps ∧ Below W.heap.size W w') := Lib.hid fun v W h hv => by
    rw [hD0.out]
    refine (TS.sign seed v (I : Int) d0 W h hv hs2 (by unfold num64; omega) hd0).mono ?_
    rintro e w' ⟨A, c, h1, h2, h3, h4, h5⟩
    have hs : sealF seed (I : Int) d0 = (((I : Int), E, ps), 0) := by rw [sealF_ok hI8, hE.out, hps.out]
    rw [hs] at h1 h2 h4
    rw [show (((I : Int), E, ps), (0 : Int)).1.2.2.length = 3 from lps.out] at h1 h2
    exact ⟨A, c, h1, ⟨h2, h3⟩, h4, h5⟩
  have VP : Hid (∀ (r d : List Int) (i : Int) (s : ByteArray) (p : List (List Int)) (A : Option Addr) (c : Nat) (W : World), r.length = 32 ∧ bytes r → d.length = 32 ∧ bytes d → num64 i → s.size ≤ maxLen → hashes p → p.length = 3 → 3 ≤ c ∧ c ≤ maxLen → Tab W → HW W A p → Calls Tryd.prog 15 #[.agg (nums .u8 r), .agg (nums .u8 d), .agg (sealV i s A 3 c)] W fun e w' => e = .returned (.int .i64 (verF r d i s p)) ∧ Below W.heap.size W w') := Lib.hid fun r d i s p A c W h1 h2 h3 h4 h5 h6 h7 hW hA => by
    have := TS.ver r d i s p A c W hW h1 h2 h3 h4 h5 hA (by rw [h6]; exact h7.1) h7.2
    rwa [h6] at this
  have VQ : Hid (∀ (r d : List Int) (i : Int) (s : ByteArray) (p : List (List Int)) (A : Option Addr) (c : Nat) (W : World), r.length = 32 ∧ bytes r → d.length = 32 ∧ bytes d → num64 i → s.size ≤ maxLen → hashes p → p.length = 3 → 3 ≤ c ∧ c ≤ maxLen → HW W A p → Calls Tryd.prog 16 #[.agg (nums .u8 r), .agg (nums .u8 d), .agg (sealV i s A 3 c)] W fun e w' => e = .returned (.int .i64 (verF r d i s p)) ∧ Below W.heap.size W w') := Lib.hid fun r d i s p A c W h1 h2 h3 h4 h5 h6 h7 hA => by
    have := refVerify_any r d h1 h2 i h3 s h4 p h5 A c W hA (by rw [h6]; exact h7.1) h7.2
    rwa [h6] at this
  have VOWN : Hid (verF rt d0 (I : Int) E ps = 0) := Lib.hid (by rw [hrt.out, hE.out, hps.out]; exact verF_own seed I hI8 d0)
  have NI : Hid (num64 (I : Int)) := Lib.hid (by unfold num64; omega)
  have EM : Hid (E.size ≤ maxLen) := Lib.hid (by rw [EZ.out]; decide)
  obtain ⟨v1, hv1⟩ : ∃ x, Hid (x = verF rt d1 (I : Int) E ps) := ⟨_, Lib.hid rfl⟩
  obtain ⟨v2, hv2⟩ : ∃ x, Hid (x = verF d1 d0 (I : Int) E ps) := ⟨_, Lib.hid rfl⟩
  have HD := Lib.hid (And.intro hd0 hd1)
  have jt : n0.tmod 8 = (I : Int) := by rw [Int.tmod_eq_emod_of_nonneg (by omega)]; omega
  have JT := Lib.hid jt
  have j6 : wrap64 (I : Int) = (I : Int) := wrap_two' _ (by omega) (by omega)
  have j7 : wrap64 n0 = n0 := wrap_two' _ hn.1.1 hn.1.2
  have j8 : wrap64 n1 = n1 := wrap_two' _ hn.2.1.1 hn.2.1.2
  have j9 : wrap64 n2 = n2 := wrap_two' _ hn.2.2.1 hn.2.2.2
  have HN := Lib.hid hn
  have HI8 := Lib.hid hI8
  have HBK : Hid (BackH TR w seed n0 n1 n2 d0 d1 I N DD D0 D1 E ps rt R) := Lib.hid ⟨TS, KED.out, CL.out, RD.out, hD0.out, hD1.out, HD.out, hR.out, rt32.out, HI8.out, EZ.out, lps.out, hhp.out, XR.out, VOWN.out, HN.out⟩
  clear hs hT hd0 hd1 h3 hs2 hn hI jt hI8
  go_enter Tryd.func6, Tryd.ntmps6
  go_upto_region 1 with fail
  refine world_gen (fun X => (Row X w.heap.size 49 N ∧ Row X (w.heap.size + 1) 50 DD) ∧ Below w.heap.size w X) H0.out (fun X HX => ?_)
  have HX := Lib.hid HX
  have HT2 := Lib.hid (HT.out.next HX.out.2)
  clear H0
  go_upto_region 4 with (go_at_call 8; (with_reducible refine (XN.out _ HT2.out).mono ?_); rintro e w0 ⟨v, rfl, hv, hb⟩; have H1 : Hid (KaH TR w v seed N DD w0) := Lib.hid ⟨hv, HX.out.1.1.next hb, HX.out.1.2.next hb, HT2.out.next hb, below_new HX.out.2 hb⟩; clear hv hb)
  clear HX HT2
  obtain ⟨c0, c1, c2⟩ := CL.out _ H1.out.num
  have jt := JT.out
  go_upto_region 5 with fail
  clear c0 c1 c2 jt
  obtain ⟨l0, l1⟩ := RD.out _ H1.out.dig
  go_upto_region 6 with (go_at_call 12; (with_reducible refine (XG.out _ _ H1.out.tab H1.out.tree).mono ?_); rintro e w2 ⟨A, c, rfl, hc, hA, hb⟩; obtain ⟨w3, s3, hr3, hb3⟩ := made_seal w2 (sealV (I : Int) E A 3 c) rfl (sealV_one (I : Int) E A 3 c); have H3 : Hid (KbH TR w v seed N DD w2.heap.size (sealV (I : Int) E A 3 c) A ps w3) := Lib.hid (by have h := (H1.out.next TS hb).next TS hb3; exact ⟨h.tree, h.num, h.dig, hr3, HW.next hA hb3, h.tab, h.below, (H1.out.next TS hb).dig.lt⟩); have HC := Lib.hid hc; clear hr3 hb3 hb hA hc)
  clear s3 l0 l1 H1
  obtain ⟨g9, hg⟩ : ∃ g, g = w2.heap.size := ⟨_, rfl⟩
  rw [← hg] at H3 ⊢
  clear hg
  have P0 : Hid (∀ W, Tab W → HW W A ps → Calls Tryd.prog 15 #[.agg R, .agg D0, .agg (sealV (I : Int) E A 3 c)] W fun e w' => e = .returned (.int .i64 0) ∧ Below W.heap.size W w') := Lib.hid fun W h hA => by
    have := VP.out rt d0 (I : Int) E ps A c W rt32.out HD.out.1 NI.out EM.out hhp.out lps.out HC.out h hA
    rw [VOWN.out] at this
    rw [hR.out, hD0.out]; exact this
  have P1 : Hid (∀ W, Tab W → HW W A ps → Calls Tryd.prog 15 #[.agg R, .agg D1, .agg (sealV (I : Int) E A 3 c)] W fun e w' => e = .returned (.int .i64 v1) ∧ Below W.heap.size W w') := Lib.hid fun W h hA => by
    rw [hR.out, hD1.out, hv1.out]; exact VP.out rt d1 (I : Int) E ps A c W rt32.out HD.out.2 NI.out EM.out hhp.out lps.out HC.out h hA
  have P2 : Hid (∀ W, Tab W → HW W A ps → Calls Tryd.prog 15 #[.agg D1, .agg D0, .agg (sealV (I : Int) E A 3 c)] W fun e w' => e = .returned (.int .i64 v2) ∧ Below W.heap.size W w') := Lib.hid fun W h hA => by
    rw [hD0.out, hD1.out, hv2.out]; exact VP.out d1 d0 (I : Int) E ps A c W HD.out.2 HD.out.1 NI.out EM.out hhp.out lps.out HC.out h hA
  have Q1 : Hid (∀ W, HW W A ps → Calls Tryd.prog 16 #[.agg R, .agg D1, .agg (sealV (I : Int) E A 3 c)] W fun e w' => e = .returned (.int .i64 v1) ∧ Below W.heap.size W w') := Lib.hid fun W hA => by
    rw [hR.out, hD1.out, hv1.out]; exact VQ.out rt d1 (I : Int) E ps A c W rt32.out HD.out.2 NI.out EM.out hhp.out lps.out HC.out hA
  have Q2 : Hid (∀ W, HW W A ps → Calls Tryd.prog 16 #[.agg D1, .agg D0, .agg (sealV (I : Int) E A 3 c)] W fun e w' => e = .returned (.int .i64 v2) ∧ Below W.heap.size W w') := Lib.hid fun W hA => by
    rw [hD0.out, hD1.out, hv2.out]; exact VQ.out d1 d0 (I : Int) E ps A c W HD.out.2 HD.out.1 NI.out EM.out hhp.out lps.out HC.out hA
  refine wp_region_fk (KbH TR w v seed N DD g9 (sealV (I : Int) E A 3 c) A ps) (.get 0 (.get 1 (.get 2 (.get 3 (.get 4 (.get 5 (.get 6 (.get 7 (.get 8 (.get 9 (.get 10 (.get 11 (.get 12 (.get 13 (.get 14 (.get 15 (.get 17 (.get 18 (.get 19 (.call 16 (.call 20 (.get 21 (.get 22 .done))))))))))))))))))))))) (by kernel_rfl) rfl (by kernel_rfl) (by kernel_rfl) (by intro c a d v w h; cases d <;> exact h) (H3.out.next TS (Below.refl _ _).drew) (fun Q' hQ => ?_)
  have HS := Lib.hid (H3.out.next TS (Below.refl _ _).drew)
  have HQ := Lib.hid hQ
  clear hQ
  refine wpFk_get rfl (by rfl) (fun K hK => ?_)
  refine ⟨?_, fun w' hS' => ?_, ?_⟩
  rotate_left
  · go_simp
    try (with_reducible rfl)
  try go_simp
  refine hK _ ?_
  clear hK K
  refine wpFk_get rfl (by rfl) (fun K hK => ?_)
  refine ⟨?_, fun w' hS' => ?_, ?_⟩
  rotate_left
  · go_simp
    try (with_reducible rfl)
  try go_simp
  refine hK _ ?_
  clear hK K
  refine wpFk_get rfl (by rfl) (fun K hK => ?_)
  refine ⟨?_, fun w' hS' => ?_, ?_⟩
  rotate_left
  · go_simp
    try (with_reducible rfl)
  try go_simp
  refine hK _ ?_
  clear hK K
  refine wpFk_get rfl (by rfl) (fun K hK => ?_)
  refine ⟨?_, fun w' hS' => ?_, ?_⟩
  rotate_left
  · go_simp
    try (with_reducible rfl)
  try go_simp
  refine hK _ ?_
  clear hK K
  refine wpFk_get rfl (by rfl) (fun K hK => ?_)
  refine ⟨?_, fun w' hS' => ?_, ?_⟩
  rotate_left
  · have ⟨c0, c1, c2⟩ := seal_cells hS'.seal_
    go_simp
    try (with_reducible rfl)
  try go_simp
  refine hK _ ?_
  clear hK K
  refine wpFk_get rfl (by rfl) (fun K hK => ?_)
  refine ⟨?_, fun w' hS' => ?_, ?_⟩
  rotate_left
  · go_simp
    try (with_reducible rfl)
  try go_simp
  refine hK _ ?_
  clear hK K
  refine wpFk_get rfl (by rfl) (fun K hK => ?_)
  refine ⟨?_, fun w' hS' => ?_, ?_⟩
  rotate_left
  · go_simp
    try (with_reducible rfl)
  try go_simp
  refine hK _ ?_
  clear hK K
  refine wpFk_get rfl (by rfl) (fun K hK => ?_)
  refine ⟨?_, fun w' hS' => ?_, ?_⟩
  rotate_left
  · go_simp
    try (with_reducible rfl)
  try go_simp
  refine hK _ ?_
  clear hK K
  refine wpFk_get rfl (by rfl) (fun K hK => ?_)
  refine ⟨?_, fun w' hS' => ?_, ?_⟩
  rotate_left
  · go_simp
    try (with_reducible rfl)
  try go_simp
  refine hK _ ?_
  clear hK K
  refine wpFk_get rfl (by rfl) (fun K hK => ?_)
  refine ⟨?_, fun w' hS' => ?_, ?_⟩
  rotate_left
  · go_simp
    try (with_reducible rfl)
  try go_simp
  refine hK _ ?_
  clear hK K
  refine wpFk_get rfl (by rfl) (fun K hK => ?_)
  refine ⟨?_, fun w' hS' => ?_, ?_⟩
  rotate_left
  · have ⟨c0, c1, c2⟩ := seal_cells hS'.seal_
    go_simp
    try (with_reducible rfl)
  try go_simp
  refine hK _ ?_
  clear hK K
  refine wpFk_get rfl (by rfl) (fun K hK => ?_)
  refine ⟨?_, fun w' hS' => ?_, ?_⟩
  rotate_left
  · go_simp
    try (with_reducible rfl)
  try go_simp
  refine hK _ ?_
  clear hK K
  refine wpFk_get rfl (by rfl) (fun K hK => ?_)
  refine ⟨?_, fun w' hS' => ?_, ?_⟩
  rotate_left
  · go_simp
    try (with_reducible rfl)
  try go_simp
  refine hK _ ?_
  clear hK K
  refine wpFk_get rfl (by rfl) (fun K hK => ?_)
  refine ⟨?_, fun w' hS' => ?_, ?_⟩
  rotate_left
  · go_simp
    try (with_reducible rfl)
  try go_simp
  refine hK _ ?_
  clear hK K
  refine wpFk_get rfl (by rfl) (fun K hK => ?_)
  refine ⟨?_, fun w' hS' => ?_, ?_⟩
  rotate_left
  · go_simp
    try (with_reducible rfl)
  try go_simp
  refine hK _ ?_
  clear hK K
  refine wpFk_get rfl (by rfl) (fun K hK => ?_)
  refine ⟨?_, fun w' hS' => ?_, ?_⟩
  rotate_left
  · go_simp
    try (with_reducible rfl)
  try go_simp
  refine hK _ ?_
  clear hK K
  refine wpFk_get rfl (by rfl) (fun K hK => ?_)
  refine ⟨?_, fun w' hS' => ?_, ?_⟩
  rotate_left
  · go_simp
    try (with_reducible rfl)
  try go_simp
  refine hK _ ?_
  clear hK K
  refine wpFk_get rfl (by rfl) (fun K hK => ?_)
  refine ⟨_, fun w' hS' => get_load rfl rfl (RD.out _ hS'.dig).1, ?_⟩
  try go_simp
  refine hK _ ?_
  clear hK K
  refine wpFk_get rfl (by rfl) (fun K hK => ?_)
  refine ⟨_, fun w' hS' => get_loadS rfl rfl (hS'.seal_.readS rfl), ?_⟩
  try go_simp
  refine hK _ ?_
  clear hK K
  refine wpFk_call rfl (by rfl) (fun K hK => ?_)
  go_simp
  go_at_call 10
  (with_reducible refine (XR.out _ _ HS.out.tab HS.out.tree).mono ?_)
  rintro e w2x ⟨rfl, hb⟩
  replace HS := Lib.hid (HS.out.next TS hb)
  clear hb
  refine hK _ _ HS.out ?_
  clear hK K
  refine wpFk_call rfl (by rfl) (fun K hK => ?_)
  go_simp
  go_at_call 15
  (with_reducible refine (P0.out _ HS.out.tab HS.out.lst).mono ?_)
  rintro e w2x ⟨rfl, hb⟩
  replace HS := Lib.hid (HS.out.next TS hb)
  clear hb
  refine hK _ _ HS.out ?_
  clear hK K
  refine wpFk_get rfl (by rfl) (fun K hK => ?_)
  refine ⟨?_, fun w' hS' => ?_, ?_⟩
  rotate_left
  · go_simp
    try (with_reducible rfl)
  try go_simp
  refine hK _ ?_
  clear hK K
  refine wpFk_get rfl (by rfl) (fun K hK => ?_)
  refine ⟨?_, fun w' hS' => ?_, ?_⟩
  rotate_left
  · go_simp
    try (with_reducible rfl)
  try go_simp
  refine hK _ ?_
  clear hK K
  refine wpFk_done ?_
  refine HQ.out _ _ ?_
  clear HQ
  go_upto_region 8 with fail
  obtain ⟨b8, HB8⟩ : ∃ b, Hid (b = decide ((d0 ≠ d1 ∧ v1 = 0) ∨ (d1 ≠ rt ∧ v2 = 0))) := ⟨_, Lib.hid rfl⟩
  have HA := HS
  clear HS H3
  go_cut [86] (fun s86 wx => s86 = .bool b8 ∧ Hid (KbH TR w v seed N DD g9 (sealV (I : Int) E A 3 c) A ps wx))
  case first =>
    have NXt : d0 ≠ d1 → Hid (∀ W, (neqAt (.agg D0) (.agg D1)).run Tryd.prog W = .ok (.bool true) W) := fun h => Lib.hid fun W => by rw [hD0.out, hD1.out, neqAt_hash d0 d1 HD.out.1.1 HD.out.2.1 HD.out.1.2 HD.out.2.2 W, decide_eq_false h]; rfl
    have NXf : d0 = d1 → Hid (∀ W, (neqAt (.agg D0) (.agg D1)).run Tryd.prog W = .ok (.bool false) W) := fun h => Lib.hid fun W => by rw [hD0.out, hD1.out, neqAt_hash d0 d1 HD.out.1.1 HD.out.2.1 HD.out.1.2 HD.out.2.2 W, decide_eq_true h]; rfl
    have NYt : d1 ≠ rt → Hid (∀ W, (neqAt (.agg D1) (.agg R)).run Tryd.prog W = .ok (.bool true) W) := fun h => Lib.hid fun W => by rw [hD1.out, hR.out, neqAt_hash d1 rt HD.out.2.1 rt32.out.1 HD.out.2.2 rt32.out.2 W, decide_eq_false h]; rfl
    have NYf : d1 = rt → Hid (∀ W, (neqAt (.agg D1) (.agg R)).run Tryd.prog W = .ok (.bool false) W) := fun h => Lib.hid fun W => by rw [hD1.out, hR.out, neqAt_hash d1 rt HD.out.2.1 rt32.out.1 HD.out.2.2 rt32.out.2 W, decide_eq_true h]; rfl
    by_cases hx : d0 = d1
    · have NX := NXf hx
      by_cases hy : d1 = rt
      · have NY := NYf hy
        have hb8 : b8 = false := by rw [HB8.out]; simp [hx, hy]
        clear hx hy NXt NXf NYt NYf
        refine wp_region_fk (KbH TR w v seed N DD g9 (sealV (I : Int) E A 3 c) A ps) (.get 0 (.get 1 (.get 2 (.get 3 (.get 4 (.get 5 (.get 6 (.get 7 (.get 8 (.get 9 (.get 10 (.get 11 (.get 12 (.get 13 (.get 14 (.get 15 (.get 16 (.get 17 (.call 18 (.get 19 (.get 20 (.get 21 (.get 22 (.get 23 (.get 24 (.get 25 (.get 26 (.get 27 (.get 28 (.get 29 .done)))))))))))))))))))))))))))))) (by kernel_rfl) rfl (by kernel_rfl) (by kernel_rfl) (by intro c a d v w h; cases d <;> exact h) (HA.out.next TS (Below.refl _ _).drew) (fun Q' hQ => ?_)
        have HS := Lib.hid (HA.out.next TS (Below.refl _ _).drew)
        have HQ := Lib.hid hQ
        clear hQ
        refine wpFk_get rfl (by rfl) (fun K hK => ?_)
        refine ⟨?_, fun w' hS' => ?_, ?_⟩
        rotate_left
        · go_simp
          try (with_reducible rfl)
        try go_simp
        refine hK _ ?_
        clear hK K
        refine wpFk_get rfl (by rfl) (fun K hK => ?_)
        refine ⟨_, fun w' hS' => get_load rfl rfl (RD.out _ hS'.dig).1, ?_⟩
        try go_simp
        refine hK _ ?_
        clear hK K
        refine wpFk_get rfl (by rfl) (fun K hK => ?_)
        refine ⟨?_, fun w' hS' => ?_, ?_⟩
        rotate_left
        · go_simp
          try (with_reducible rfl)
        try go_simp
        refine hK _ ?_
        clear hK K
        refine wpFk_get rfl (by rfl) (fun K hK => ?_)
        refine ⟨_, fun w' hS' => get_load rfl rfl (RD.out _ hS'.dig).2, ?_⟩
        try go_simp
        refine hK _ ?_
        clear hK K
        refine wpFk_get rfl (by rfl) (fun K hK => ?_)
        refine ⟨_, fun w' hS' => get_neqH rfl rfl rfl (NX.out _), ?_⟩
        try go_simp
        refine hK _ ?_
        clear hK K
        refine wpFk_get rfl (by rfl) (fun K hK => ?_)
        refine ⟨?_, fun w' hS' => ?_, ?_⟩
        rotate_left
        · go_simp
          try (with_reducible rfl)
        try go_simp
        refine hK _ ?_
        clear hK K
        refine wpFk_skip rfl (by rfl) (fun K hK => ?_)
        try go_simp
        refine hK _ ?_
        clear hK K
        refine wpFk_skip rfl (by rfl) (fun K hK => ?_)
        try go_simp
        refine hK _ ?_
        clear hK K
        refine wpFk_skip rfl (by rfl) (fun K hK => ?_)
        try go_simp
        refine hK _ ?_
        clear hK K
        refine wpFk_skip rfl (by rfl) (fun K hK => ?_)
        try go_simp
        refine hK _ ?_
        clear hK K
        refine wpFk_skip rfl (by rfl) (fun K hK => ?_)
        try go_simp
        refine hK _ ?_
        clear hK K
        refine wpFk_skip rfl (by rfl) (fun K hK => ?_)
        try go_simp
        refine hK _ ?_
        clear hK K
        refine wpFk_skip rfl (by rfl) (fun K hK => ?_)
        try go_simp
        refine hK _ ?_
        clear hK K
        refine wpFk_get rfl (by rfl) (fun K hK => ?_)
        refine ⟨?_, fun w' hS' => ?_, ?_⟩
        rotate_left
        · go_simp
          try (with_reducible rfl)
        try go_simp
        refine hK _ ?_
        clear hK K
        refine wpFk_get rfl (by rfl) (fun K hK => ?_)
        refine ⟨?_, fun w' hS' => ?_, ?_⟩
        rotate_left
        · go_simp
          try (with_reducible rfl)
        try go_simp
        refine hK _ ?_
        clear hK K
        refine wpFk_get rfl (by rfl) (fun K hK => ?_)
        refine ⟨?_, fun w' hS' => ?_, ?_⟩
        rotate_left
        · go_simp
          try (with_reducible rfl)
        try go_simp
        refine hK _ ?_
        clear hK K
        refine wpFk_get rfl (by rfl) (fun K hK => ?_)
        refine ⟨_, fun w' hS' => get_load rfl rfl (RD.out _ hS'.dig).2, ?_⟩
        try go_simp
        refine hK _ ?_
        clear hK K
        refine wpFk_get rfl (by rfl) (fun K hK => ?_)
        refine ⟨?_, fun w' hS' => ?_, ?_⟩
        rotate_left
        · go_simp
          try (with_reducible rfl)
        try go_simp
        refine hK _ ?_
        clear hK K
        refine wpFk_call rfl (by rfl) (fun K hK => ?_)
        go_simp
        go_at_call 10
        (with_reducible refine (XR.out _ _ HS.out.tab HS.out.tree).mono ?_)
        rintro e w2x ⟨rfl, hb⟩
        replace HS := Lib.hid (HS.out.next TS hb)
        clear hb
        refine hK _ _ HS.out ?_
        clear hK K
        refine wpFk_get rfl (by rfl) (fun K hK => ?_)
        refine ⟨_, fun w' hS' => get_neqH rfl rfl rfl (NY.out _), ?_⟩
        try go_simp
        refine hK _ ?_
        clear hK K
        refine wpFk_get rfl (by rfl) (fun K hK => ?_)
        refine ⟨?_, fun w' hS' => ?_, ?_⟩
        rotate_left
        · go_simp
          try (with_reducible rfl)
        try go_simp
        refine hK _ ?_
        clear hK K
        refine wpFk_skip rfl (by rfl) (fun K hK => ?_)
        try go_simp
        refine hK _ ?_
        clear hK K
        refine wpFk_skip rfl (by rfl) (fun K hK => ?_)
        try go_simp
        refine hK _ ?_
        clear hK K
        refine wpFk_skip rfl (by rfl) (fun K hK => ?_)
        try go_simp
        refine hK _ ?_
        clear hK K
        refine wpFk_skip rfl (by rfl) (fun K hK => ?_)
        try go_simp
        refine hK _ ?_
        clear hK K
        refine wpFk_skip rfl (by rfl) (fun K hK => ?_)
        try go_simp
        refine hK _ ?_
        clear hK K
        refine wpFk_skip rfl (by rfl) (fun K hK => ?_)
        try go_simp
        refine hK _ ?_
        clear hK K
        refine wpFk_skip rfl (by rfl) (fun K hK => ?_)
        try go_simp
        refine hK _ ?_
        clear hK K
        refine wpFk_get rfl (by rfl) (fun K hK => ?_)
        refine ⟨?_, fun w' hS' => ?_, ?_⟩
        rotate_left
        · go_simp
          try (with_reducible rfl)
        try go_simp
        refine hK _ ?_
        clear hK K
        refine wpFk_get rfl (by rfl) (fun K hK => ?_)
        refine ⟨?_, fun w' hS' => ?_, ?_⟩
        rotate_left
        · go_simp
          try (with_reducible rfl)
        try go_simp
        refine hK _ ?_
        clear hK K
        refine wpFk_done ?_
        refine HQ.out _ _ ?_
        go_wp2
        go_meet
        exact ⟨by rw [hb8], HS⟩
      · have NY := NYt hy
        have hb8 : b8 = (v2 == 0) := by rw [HB8.out]; by_cases h2 : v2 = 0 <;> simp [hx, hy, h2]
        clear hx hy NXt NXf NYt NYf
        refine wp_region_fk (KbH TR w v seed N DD g9 (sealV (I : Int) E A 3 c) A ps) (.get 0 (.get 1 (.get 2 (.get 3 (.get 4 (.get 5 (.get 6 (.get 7 (.get 8 (.get 9 (.get 10 (.get 11 (.get 12 (.get 13 (.get 14 (.get 15 (.get 16 (.get 17 (.call 18 (.get 19 (.get 20 (.get 21 (.get 22 (.get 23 (.get 24 (.get 25 (.call 26 (.get 27 (.get 28 (.get 29 .done)))))))))))))))))))))))))))))) (by kernel_rfl) rfl (by kernel_rfl) (by kernel_rfl) (by intro c a d v w h; cases d <;> exact h) (HA.out.next TS (Below.refl _ _).drew) (fun Q' hQ => ?_)
        have HS := Lib.hid (HA.out.next TS (Below.refl _ _).drew)
        have HQ := Lib.hid hQ
        clear hQ
        refine wpFk_get rfl (by rfl) (fun K hK => ?_)
        refine ⟨?_, fun w' hS' => ?_, ?_⟩
        rotate_left
        · go_simp
          try (with_reducible rfl)
        try go_simp
        refine hK _ ?_
        clear hK K
        refine wpFk_get rfl (by rfl) (fun K hK => ?_)
        refine ⟨_, fun w' hS' => get_load rfl rfl (RD.out _ hS'.dig).1, ?_⟩
        try go_simp
        refine hK _ ?_
        clear hK K
        refine wpFk_get rfl (by rfl) (fun K hK => ?_)
        refine ⟨?_, fun w' hS' => ?_, ?_⟩
        rotate_left
        · go_simp
          try (with_reducible rfl)
        try go_simp
        refine hK _ ?_
        clear hK K
        refine wpFk_get rfl (by rfl) (fun K hK => ?_)
        refine ⟨_, fun w' hS' => get_load rfl rfl (RD.out _ hS'.dig).2, ?_⟩
        try go_simp
        refine hK _ ?_
        clear hK K
        refine wpFk_get rfl (by rfl) (fun K hK => ?_)
        refine ⟨_, fun w' hS' => get_neqH rfl rfl rfl (NX.out _), ?_⟩
        try go_simp
        refine hK _ ?_
        clear hK K
        refine wpFk_get rfl (by rfl) (fun K hK => ?_)
        refine ⟨?_, fun w' hS' => ?_, ?_⟩
        rotate_left
        · go_simp
          try (with_reducible rfl)
        try go_simp
        refine hK _ ?_
        clear hK K
        refine wpFk_skip rfl (by rfl) (fun K hK => ?_)
        try go_simp
        refine hK _ ?_
        clear hK K
        refine wpFk_skip rfl (by rfl) (fun K hK => ?_)
        try go_simp
        refine hK _ ?_
        clear hK K
        refine wpFk_skip rfl (by rfl) (fun K hK => ?_)
        try go_simp
        refine hK _ ?_
        clear hK K
        refine wpFk_skip rfl (by rfl) (fun K hK => ?_)
        try go_simp
        refine hK _ ?_
        clear hK K
        refine wpFk_skip rfl (by rfl) (fun K hK => ?_)
        try go_simp
        refine hK _ ?_
        clear hK K
        refine wpFk_skip rfl (by rfl) (fun K hK => ?_)
        try go_simp
        refine hK _ ?_
        clear hK K
        refine wpFk_skip rfl (by rfl) (fun K hK => ?_)
        try go_simp
        refine hK _ ?_
        clear hK K
        refine wpFk_get rfl (by rfl) (fun K hK => ?_)
        refine ⟨?_, fun w' hS' => ?_, ?_⟩
        rotate_left
        · go_simp
          try (with_reducible rfl)
        try go_simp
        refine hK _ ?_
        clear hK K
        refine wpFk_get rfl (by rfl) (fun K hK => ?_)
        refine ⟨?_, fun w' hS' => ?_, ?_⟩
        rotate_left
        · go_simp
          try (with_reducible rfl)
        try go_simp
        refine hK _ ?_
        clear hK K
        refine wpFk_get rfl (by rfl) (fun K hK => ?_)
        refine ⟨?_, fun w' hS' => ?_, ?_⟩
        rotate_left
        · go_simp
          try (with_reducible rfl)
        try go_simp
        refine hK _ ?_
        clear hK K
        refine wpFk_get rfl (by rfl) (fun K hK => ?_)
        refine ⟨_, fun w' hS' => get_load rfl rfl (RD.out _ hS'.dig).2, ?_⟩
        try go_simp
        refine hK _ ?_
        clear hK K
        refine wpFk_get rfl (by rfl) (fun K hK => ?_)
        refine ⟨?_, fun w' hS' => ?_, ?_⟩
        rotate_left
        · go_simp
          try (with_reducible rfl)
        try go_simp
        refine hK _ ?_
        clear hK K
        refine wpFk_call rfl (by rfl) (fun K hK => ?_)
        go_simp
        go_at_call 10
        (with_reducible refine (XR.out _ _ HS.out.tab HS.out.tree).mono ?_)
        rintro e w2x ⟨rfl, hb⟩
        replace HS := Lib.hid (HS.out.next TS hb)
        clear hb
        refine hK _ _ HS.out ?_
        clear hK K
        refine wpFk_get rfl (by rfl) (fun K hK => ?_)
        refine ⟨_, fun w' hS' => get_neqH rfl rfl rfl (NY.out _), ?_⟩
        try go_simp
        refine hK _ ?_
        clear hK K
        refine wpFk_get rfl (by rfl) (fun K hK => ?_)
        refine ⟨?_, fun w' hS' => ?_, ?_⟩
        rotate_left
        · go_simp
          try (with_reducible rfl)
        try go_simp
        refine hK _ ?_
        clear hK K
        refine wpFk_get rfl (by rfl) (fun K hK => ?_)
        refine ⟨?_, fun w' hS' => ?_, ?_⟩
        rotate_left
        · go_simp
          try (with_reducible rfl)
        try go_simp
        refine hK _ ?_
        clear hK K
        refine wpFk_get rfl (by rfl) (fun K hK => ?_)
        refine ⟨_, fun w' hS' => get_load rfl rfl (RD.out _ hS'.dig).2, ?_⟩
        try go_simp
        refine hK _ ?_
        clear hK K
        refine wpFk_get rfl (by rfl) (fun K hK => ?_)
        refine ⟨?_, fun w' hS' => ?_, ?_⟩
        rotate_left
        · go_simp
          try (with_reducible rfl)
        try go_simp
        refine hK _ ?_
        clear hK K
        refine wpFk_get rfl (by rfl) (fun K hK => ?_)
        refine ⟨_, fun w' hS' => get_load rfl rfl (RD.out _ hS'.dig).1, ?_⟩
        try go_simp
        refine hK _ ?_
        clear hK K
        refine wpFk_get rfl (by rfl) (fun K hK => ?_)
        refine ⟨_, fun w' hS' => get_loadS rfl rfl (hS'.seal_.readS rfl), ?_⟩
        try go_simp
        refine hK _ ?_
        clear hK K
        refine wpFk_call rfl (by rfl) (fun K hK => ?_)
        go_simp
        go_at_call 16
        (with_reducible refine (Q2.out _ HS.out.lst).mono ?_)
        rintro e w2x ⟨rfl, hb⟩
        replace HS := Lib.hid (HS.out.next TS hb)
        clear hb
        refine hK _ _ HS.out ?_
        clear hK K
        refine wpFk_get rfl (by rfl) (fun K hK => ?_)
        refine ⟨?_, fun w' hS' => ?_, ?_⟩
        rotate_left
        · go_simp
          try (with_reducible rfl)
        try go_simp
        refine hK _ ?_
        clear hK K
        refine wpFk_get rfl (by rfl) (fun K hK => ?_)
        refine ⟨?_, fun w' hS' => ?_, ?_⟩
        rotate_left
        · go_simp
          try (with_reducible rfl)
        try go_simp
        refine hK _ ?_
        clear hK K
        refine wpFk_get rfl (by rfl) (fun K hK => ?_)
        refine ⟨?_, fun w' hS' => ?_, ?_⟩
        rotate_left
        · go_simp
          try (with_reducible rfl)
        try go_simp
        refine hK _ ?_
        clear hK K
        refine wpFk_done ?_
        refine HQ.out _ _ ?_
        go_wp2
        go_meet
        exact ⟨by rw [hb8], HS⟩
    · have NX := NXt hx
      by_cases hq : v1 = 0
      · have q1 : (v1 == 0) = true := by simpa using hq
        have hb8 : b8 = true := by rw [HB8.out]; simp [hx, hq]
        have NY := NX
        clear hx hq NXt NXf NYt NYf
        refine wp_region_fk (KbH TR w v seed N DD g9 (sealV (I : Int) E A 3 c) A ps) (.get 0 (.get 1 (.get 2 (.get 3 (.get 4 (.get 5 (.get 6 (.get 8 (.get 9 (.get 10 (.call 7 (.call 11 (.get 12 (.get 13 (.get 14 (.get 15 (.get 16 (.get 17 (.get 18 (.get 19 (.get 20 (.get 21 (.get 22 (.get 23 (.get 24 (.get 25 (.get 26 (.get 27 (.get 28 (.get 29 .done)))))))))))))))))))))))))))))) (by kernel_rfl) rfl (by kernel_rfl) (by kernel_rfl) (by intro c a d v w h; cases d <;> exact h) (HA.out.next TS (Below.refl _ _).drew) (fun Q' hQ => ?_)
        have HS := Lib.hid (HA.out.next TS (Below.refl _ _).drew)
        have HQ := Lib.hid hQ
        clear hQ
        refine wpFk_get rfl (by rfl) (fun K hK => ?_)
        refine ⟨?_, fun w' hS' => ?_, ?_⟩
        rotate_left
        · go_simp
          try (with_reducible rfl)
        try go_simp
        refine hK _ ?_
        clear hK K
        refine wpFk_get rfl (by rfl) (fun K hK => ?_)
        refine ⟨_, fun w' hS' => get_load rfl rfl (RD.out _ hS'.dig).1, ?_⟩
        try go_simp
        refine hK _ ?_
        clear hK K
        refine wpFk_get rfl (by rfl) (fun K hK => ?_)
        refine ⟨?_, fun w' hS' => ?_, ?_⟩
        rotate_left
        · go_simp
          try (with_reducible rfl)
        try go_simp
        refine hK _ ?_
        clear hK K
        refine wpFk_get rfl (by rfl) (fun K hK => ?_)
        refine ⟨_, fun w' hS' => get_load rfl rfl (RD.out _ hS'.dig).2, ?_⟩
        try go_simp
        refine hK _ ?_
        clear hK K
        refine wpFk_get rfl (by rfl) (fun K hK => ?_)
        refine ⟨_, fun w' hS' => get_neqH rfl rfl rfl (NX.out _), ?_⟩
        try go_simp
        refine hK _ ?_
        clear hK K
        refine wpFk_get rfl (by rfl) (fun K hK => ?_)
        refine ⟨?_, fun w' hS' => ?_, ?_⟩
        rotate_left
        · go_simp
          try (with_reducible rfl)
        try go_simp
        refine hK _ ?_
        clear hK K
        refine wpFk_get rfl (by rfl) (fun K hK => ?_)
        refine ⟨?_, fun w' hS' => ?_, ?_⟩
        rotate_left
        · go_simp
          try (with_reducible rfl)
        try go_simp
        refine hK _ ?_
        clear hK K
        refine wpFk_get rfl (by rfl) (fun K hK => ?_)
        refine ⟨?_, fun w' hS' => ?_, ?_⟩
        rotate_left
        · go_simp
          try (with_reducible rfl)
        try go_simp
        refine hK _ ?_
        clear hK K
        refine wpFk_get rfl (by rfl) (fun K hK => ?_)
        refine ⟨_, fun w' hS' => get_load rfl rfl (RD.out _ hS'.dig).2, ?_⟩
        try go_simp
        refine hK _ ?_
        clear hK K
        refine wpFk_get rfl (by rfl) (fun K hK => ?_)
        refine ⟨_, fun w' hS' => get_loadS rfl rfl (hS'.seal_.readS rfl), ?_⟩
        try go_simp
        refine hK _ ?_
        clear hK K
        refine wpFk_call rfl (by rfl) (fun K hK => ?_)
        go_simp
        go_at_call 10
        (with_reducible refine (XR.out _ _ HS.out.tab HS.out.tree).mono ?_)
        rintro e w2x ⟨rfl, hb⟩
        replace HS := Lib.hid (HS.out.next TS hb)
        clear hb
        refine hK _ _ HS.out ?_
        clear hK K
        refine wpFk_call rfl (by rfl) (fun K hK => ?_)
        go_simp
        go_at_call 16
        (with_reducible refine (Q1.out _ HS.out.lst).mono ?_)
        rintro e w2x ⟨rfl, hb⟩
        replace HS := Lib.hid (HS.out.next TS hb)
        clear hb
        refine hK _ _ HS.out ?_
        clear hK K
        refine wpFk_get rfl (by rfl) (fun K hK => ?_)
        refine ⟨?_, fun w' hS' => ?_, ?_⟩
        rotate_left
        · go_simp
          try (with_reducible rfl)
        try go_simp
        refine hK _ ?_
        clear hK K
        refine wpFk_get rfl (by rfl) (fun K hK => ?_)
        refine ⟨?_, fun w' hS' => ?_, ?_⟩
        rotate_left
        · go_simp
          try (with_reducible rfl)
        try go_simp
        refine hK _ ?_
        clear hK K
        refine wpFk_get rfl (by rfl) (fun K hK => ?_)
        refine ⟨?_, fun w' hS' => ?_, ?_⟩
        rotate_left
        · go_simp
          try (with_reducible rfl)
        try go_simp
        refine hK _ ?_
        clear hK K
        refine wpFk_skip rfl (by rfl) (fun K hK => ?_)
        try go_simp
        refine hK _ ?_
        clear hK K
        refine wpFk_skip rfl (by rfl) (fun K hK => ?_)
        try go_simp
        refine hK _ ?_
        clear hK K
        refine wpFk_skip rfl (by rfl) (fun K hK => ?_)
        try go_simp
        refine hK _ ?_
        clear hK K
        refine wpFk_skip rfl (by rfl) (fun K hK => ?_)
        try go_simp
        refine hK _ ?_
        clear hK K
        refine wpFk_skip rfl (by rfl) (fun K hK => ?_)
        try go_simp
        refine hK _ ?_
        clear hK K
        refine wpFk_skip rfl (by rfl) (fun K hK => ?_)
        try go_simp
        refine hK _ ?_
        clear hK K
        refine wpFk_skip rfl (by rfl) (fun K hK => ?_)
        try go_simp
        refine hK _ ?_
        clear hK K
        refine wpFk_skip rfl (by rfl) (fun K hK => ?_)
        try go_simp
        refine hK _ ?_
        clear hK K
        refine wpFk_skip rfl (by rfl) (fun K hK => ?_)
        try go_simp
        refine hK _ ?_
        clear hK K
        refine wpFk_skip rfl (by rfl) (fun K hK => ?_)
        try go_simp
        refine hK _ ?_
        clear hK K
        refine wpFk_skip rfl (by rfl) (fun K hK => ?_)
        try go_simp
        refine hK _ ?_
        clear hK K
        refine wpFk_skip rfl (by rfl) (fun K hK => ?_)
        try go_simp
        refine hK _ ?_
        clear hK K
        refine wpFk_skip rfl (by rfl) (fun K hK => ?_)
        try go_simp
        refine hK _ ?_
        clear hK K
        refine wpFk_skip rfl (by rfl) (fun K hK => ?_)
        try go_simp
        refine hK _ ?_
        clear hK K
        refine wpFk_get rfl (by rfl) (fun K hK => ?_)
        refine ⟨?_, fun w' hS' => ?_, ?_⟩
        rotate_left
        · go_simp
          try (with_reducible rfl)
        try go_simp
        refine hK _ ?_
        clear hK K
        refine wpFk_done ?_
        refine HQ.out _ _ ?_
        go_wp2
        go_meet
        exact ⟨by rw [hb8], HS⟩
      · have q1 : (v1 == 0) = false := by simpa using hq
        by_cases hy : d1 = rt
        · have NY := NYf hy
          have hb8 : b8 = false := by rw [HB8.out]; simp [hq, hy]
          clear hx hy hq NXt NXf NYt NYf
          refine wp_region_fk (KbH TR w v seed N DD g9 (sealV (I : Int) E A 3 c) A ps) (.get 0 (.get 1 (.get 2 (.get 3 (.get 4 (.get 5 (.get 6 (.get 8 (.get 9 (.get 10 (.call 7 (.call 11 (.get 12 (.get 13 (.get 14 (.get 15 (.get 16 (.get 17 (.call 18 (.get 19 (.get 20 (.get 21 (.get 22 (.get 23 (.get 24 (.get 25 (.get 26 (.get 27 (.get 28 (.get 29 .done)))))))))))))))))))))))))))))) (by kernel_rfl) rfl (by kernel_rfl) (by kernel_rfl) (by intro c a d v w h; cases d <;> exact h) (HA.out.next TS (Below.refl _ _).drew) (fun Q' hQ => ?_)
          have HS := Lib.hid (HA.out.next TS (Below.refl _ _).drew)
          have HQ := Lib.hid hQ
          clear hQ
          refine wpFk_get rfl (by rfl) (fun K hK => ?_)
          refine ⟨?_, fun w' hS' => ?_, ?_⟩
          rotate_left
          · go_simp
            try (with_reducible rfl)
          try go_simp
          refine hK _ ?_
          clear hK K
          refine wpFk_get rfl (by rfl) (fun K hK => ?_)
          refine ⟨_, fun w' hS' => get_load rfl rfl (RD.out _ hS'.dig).1, ?_⟩
          try go_simp
          refine hK _ ?_
          clear hK K
          refine wpFk_get rfl (by rfl) (fun K hK => ?_)
          refine ⟨?_, fun w' hS' => ?_, ?_⟩
          rotate_left
          · go_simp
            try (with_reducible rfl)
          try go_simp
          refine hK _ ?_
          clear hK K
          refine wpFk_get rfl (by rfl) (fun K hK => ?_)
          refine ⟨_, fun w' hS' => get_load rfl rfl (RD.out _ hS'.dig).2, ?_⟩
          try go_simp
          refine hK _ ?_
          clear hK K
          refine wpFk_get rfl (by rfl) (fun K hK => ?_)
          refine ⟨_, fun w' hS' => get_neqH rfl rfl rfl (NX.out _), ?_⟩
          try go_simp
          refine hK _ ?_
          clear hK K
          refine wpFk_get rfl (by rfl) (fun K hK => ?_)
          refine ⟨?_, fun w' hS' => ?_, ?_⟩
          rotate_left
          · go_simp
            try (with_reducible rfl)
          try go_simp
          refine hK _ ?_
          clear hK K
          refine wpFk_get rfl (by rfl) (fun K hK => ?_)
          refine ⟨?_, fun w' hS' => ?_, ?_⟩
          rotate_left
          · go_simp
            try (with_reducible rfl)
          try go_simp
          refine hK _ ?_
          clear hK K
          refine wpFk_get rfl (by rfl) (fun K hK => ?_)
          refine ⟨?_, fun w' hS' => ?_, ?_⟩
          rotate_left
          · go_simp
            try (with_reducible rfl)
          try go_simp
          refine hK _ ?_
          clear hK K
          refine wpFk_get rfl (by rfl) (fun K hK => ?_)
          refine ⟨_, fun w' hS' => get_load rfl rfl (RD.out _ hS'.dig).2, ?_⟩
          try go_simp
          refine hK _ ?_
          clear hK K
          refine wpFk_get rfl (by rfl) (fun K hK => ?_)
          refine ⟨_, fun w' hS' => get_loadS rfl rfl (hS'.seal_.readS rfl), ?_⟩
          try go_simp
          refine hK _ ?_
          clear hK K
          refine wpFk_call rfl (by rfl) (fun K hK => ?_)
          go_simp
          go_at_call 10
          (with_reducible refine (XR.out _ _ HS.out.tab HS.out.tree).mono ?_)
          rintro e w2x ⟨rfl, hb⟩
          replace HS := Lib.hid (HS.out.next TS hb)
          clear hb
          refine hK _ _ HS.out ?_
          clear hK K
          refine wpFk_call rfl (by rfl) (fun K hK => ?_)
          go_simp
          go_at_call 16
          (with_reducible refine (Q1.out _ HS.out.lst).mono ?_)
          rintro e w2x ⟨rfl, hb⟩
          replace HS := Lib.hid (HS.out.next TS hb)
          clear hb
          refine hK _ _ HS.out ?_
          clear hK K
          refine wpFk_get rfl (by rfl) (fun K hK => ?_)
          refine ⟨?_, fun w' hS' => ?_, ?_⟩
          rotate_left
          · go_simp
            try (with_reducible rfl)
          try go_simp
          refine hK _ ?_
          clear hK K
          refine wpFk_get rfl (by rfl) (fun K hK => ?_)
          refine ⟨?_, fun w' hS' => ?_, ?_⟩
          rotate_left
          · go_simp
            try (with_reducible rfl)
          try go_simp
          refine hK _ ?_
          clear hK K
          refine wpFk_get rfl (by rfl) (fun K hK => ?_)
          refine ⟨?_, fun w' hS' => ?_, ?_⟩
          rotate_left
          · go_simp
            try (with_reducible rfl)
          try go_simp
          refine hK _ ?_
          clear hK K
          refine wpFk_get rfl (by rfl) (fun K hK => ?_)
          refine ⟨?_, fun w' hS' => ?_, ?_⟩
          rotate_left
          · go_simp
            try (with_reducible rfl)
          try go_simp
          refine hK _ ?_
          clear hK K
          refine wpFk_get rfl (by rfl) (fun K hK => ?_)
          refine ⟨_, fun w' hS' => get_load rfl rfl (RD.out _ hS'.dig).2, ?_⟩
          try go_simp
          refine hK _ ?_
          clear hK K
          refine wpFk_get rfl (by rfl) (fun K hK => ?_)
          refine ⟨?_, fun w' hS' => ?_, ?_⟩
          rotate_left
          · go_simp
            try (with_reducible rfl)
          try go_simp
          refine hK _ ?_
          clear hK K
          refine wpFk_call rfl (by rfl) (fun K hK => ?_)
          go_simp
          go_at_call 10
          (with_reducible refine (XR.out _ _ HS.out.tab HS.out.tree).mono ?_)
          rintro e w2x ⟨rfl, hb⟩
          replace HS := Lib.hid (HS.out.next TS hb)
          clear hb
          refine hK _ _ HS.out ?_
          clear hK K
          refine wpFk_get rfl (by rfl) (fun K hK => ?_)
          refine ⟨_, fun w' hS' => get_neqH rfl rfl rfl (NY.out _), ?_⟩
          try go_simp
          refine hK _ ?_
          clear hK K
          refine wpFk_get rfl (by rfl) (fun K hK => ?_)
          refine ⟨?_, fun w' hS' => ?_, ?_⟩
          rotate_left
          · go_simp
            try (with_reducible rfl)
          try go_simp
          refine hK _ ?_
          clear hK K
          refine wpFk_skip rfl (by rfl) (fun K hK => ?_)
          try go_simp
          refine hK _ ?_
          clear hK K
          refine wpFk_skip rfl (by rfl) (fun K hK => ?_)
          try go_simp
          refine hK _ ?_
          clear hK K
          refine wpFk_skip rfl (by rfl) (fun K hK => ?_)
          try go_simp
          refine hK _ ?_
          clear hK K
          refine wpFk_skip rfl (by rfl) (fun K hK => ?_)
          try go_simp
          refine hK _ ?_
          clear hK K
          refine wpFk_skip rfl (by rfl) (fun K hK => ?_)
          try go_simp
          refine hK _ ?_
          clear hK K
          refine wpFk_skip rfl (by rfl) (fun K hK => ?_)
          try go_simp
          refine hK _ ?_
          clear hK K
          refine wpFk_skip rfl (by rfl) (fun K hK => ?_)
          try go_simp
          refine hK _ ?_
          clear hK K
          refine wpFk_get rfl (by rfl) (fun K hK => ?_)
          refine ⟨?_, fun w' hS' => ?_, ?_⟩
          rotate_left
          · go_simp
            try (with_reducible rfl)
          try go_simp
          refine hK _ ?_
          clear hK K
          refine wpFk_get rfl (by rfl) (fun K hK => ?_)
          refine ⟨?_, fun w' hS' => ?_, ?_⟩
          rotate_left
          · go_simp
            try (with_reducible rfl)
          try go_simp
          refine hK _ ?_
          clear hK K
          refine wpFk_done ?_
          refine HQ.out _ _ ?_
          go_wp2
          go_meet
          exact ⟨by rw [hb8], HS⟩
        · have NY := NYt hy
          have hb8 : b8 = (v2 == 0) := by rw [HB8.out]; by_cases h2 : v2 = 0 <;> simp [hx, hq, hy, h2]
          clear hx hy hq NXt NXf NYt NYf
          refine wp_region_fk (KbH TR w v seed N DD g9 (sealV (I : Int) E A 3 c) A ps) (.get 0 (.get 1 (.get 2 (.get 3 (.get 4 (.get 5 (.get 6 (.get 8 (.get 9 (.get 10 (.call 7 (.call 11 (.get 12 (.get 13 (.get 14 (.get 15 (.get 16 (.get 17 (.call 18 (.get 19 (.get 20 (.get 21 (.get 22 (.get 23 (.get 24 (.get 25 (.call 26 (.get 27 (.get 28 (.get 29 .done)))))))))))))))))))))))))))))) (by kernel_rfl) rfl (by kernel_rfl) (by kernel_rfl) (by intro c a d v w h; cases d <;> exact h) (HA.out.next TS (Below.refl _ _).drew) (fun Q' hQ => ?_)
          have HS := Lib.hid (HA.out.next TS (Below.refl _ _).drew)
          have HQ := Lib.hid hQ
          clear hQ
          refine wpFk_get rfl (by rfl) (fun K hK => ?_)
          refine ⟨?_, fun w' hS' => ?_, ?_⟩
          rotate_left
          · go_simp
            try (with_reducible rfl)
          try go_simp
          refine hK _ ?_
          clear hK K
          refine wpFk_get rfl (by rfl) (fun K hK => ?_)
          refine ⟨_, fun w' hS' => get_load rfl rfl (RD.out _ hS'.dig).1, ?_⟩
          try go_simp
          refine hK _ ?_
          clear hK K
          refine wpFk_get rfl (by rfl) (fun K hK => ?_)
          refine ⟨?_, fun w' hS' => ?_, ?_⟩
          rotate_left
          · go_simp
            try (with_reducible rfl)
          try go_simp
          refine hK _ ?_
          clear hK K
          refine wpFk_get rfl (by rfl) (fun K hK => ?_)
          refine ⟨_, fun w' hS' => get_load rfl rfl (RD.out _ hS'.dig).2, ?_⟩
          try go_simp
          refine hK _ ?_
          clear hK K
          refine wpFk_get rfl (by rfl) (fun K hK => ?_)
          refine ⟨_, fun w' hS' => get_neqH rfl rfl rfl (NX.out _), ?_⟩
          try go_simp
          refine hK _ ?_
          clear hK K
          refine wpFk_get rfl (by rfl) (fun K hK => ?_)
          refine ⟨?_, fun w' hS' => ?_, ?_⟩
          rotate_left
          · go_simp
            try (with_reducible rfl)
          try go_simp
          refine hK _ ?_
          clear hK K
          refine wpFk_get rfl (by rfl) (fun K hK => ?_)
          refine ⟨?_, fun w' hS' => ?_, ?_⟩
          rotate_left
          · go_simp
            try (with_reducible rfl)
          try go_simp
          refine hK _ ?_
          clear hK K
          refine wpFk_get rfl (by rfl) (fun K hK => ?_)
          refine ⟨?_, fun w' hS' => ?_, ?_⟩
          rotate_left
          · go_simp
            try (with_reducible rfl)
          try go_simp
          refine hK _ ?_
          clear hK K
          refine wpFk_get rfl (by rfl) (fun K hK => ?_)
          refine ⟨_, fun w' hS' => get_load rfl rfl (RD.out _ hS'.dig).2, ?_⟩
          try go_simp
          refine hK _ ?_
          clear hK K
          refine wpFk_get rfl (by rfl) (fun K hK => ?_)
          refine ⟨_, fun w' hS' => get_loadS rfl rfl (hS'.seal_.readS rfl), ?_⟩
          try go_simp
          refine hK _ ?_
          clear hK K
          refine wpFk_call rfl (by rfl) (fun K hK => ?_)
          go_simp
          go_at_call 10
          (with_reducible refine (XR.out _ _ HS.out.tab HS.out.tree).mono ?_)
          rintro e w2x ⟨rfl, hb⟩
          replace HS := Lib.hid (HS.out.next TS hb)
          clear hb
          refine hK _ _ HS.out ?_
          clear hK K
          refine wpFk_call rfl (by rfl) (fun K hK => ?_)
          go_simp
          go_at_call 16
          (with_reducible refine (Q1.out _ HS.out.lst).mono ?_)
          rintro e w2x ⟨rfl, hb⟩
          replace HS := Lib.hid (HS.out.next TS hb)
          clear hb
          refine hK _ _ HS.out ?_
          clear hK K
          refine wpFk_get rfl (by rfl) (fun K hK => ?_)
          refine ⟨?_, fun w' hS' => ?_, ?_⟩
          rotate_left
          · go_simp
            try (with_reducible rfl)
          try go_simp
          refine hK _ ?_
          clear hK K
          refine wpFk_get rfl (by rfl) (fun K hK => ?_)
          refine ⟨?_, fun w' hS' => ?_, ?_⟩
          rotate_left
          · go_simp
            try (with_reducible rfl)
          try go_simp
          refine hK _ ?_
          clear hK K
          refine wpFk_get rfl (by rfl) (fun K hK => ?_)
          refine ⟨?_, fun w' hS' => ?_, ?_⟩
          rotate_left
          · go_simp
            try (with_reducible rfl)
          try go_simp
          refine hK _ ?_
          clear hK K
          refine wpFk_get rfl (by rfl) (fun K hK => ?_)
          refine ⟨?_, fun w' hS' => ?_, ?_⟩
          rotate_left
          · go_simp
            try (with_reducible rfl)
          try go_simp
          refine hK _ ?_
          clear hK K
          refine wpFk_get rfl (by rfl) (fun K hK => ?_)
          refine ⟨_, fun w' hS' => get_load rfl rfl (RD.out _ hS'.dig).2, ?_⟩
          try go_simp
          refine hK _ ?_
          clear hK K
          refine wpFk_get rfl (by rfl) (fun K hK => ?_)
          refine ⟨?_, fun w' hS' => ?_, ?_⟩
          rotate_left
          · go_simp
            try (with_reducible rfl)
          try go_simp
          refine hK _ ?_
          clear hK K
          refine wpFk_call rfl (by rfl) (fun K hK => ?_)
          go_simp
          go_at_call 10
          (with_reducible refine (XR.out _ _ HS.out.tab HS.out.tree).mono ?_)
          rintro e w2x ⟨rfl, hb⟩
          replace HS := Lib.hid (HS.out.next TS hb)
          clear hb
          refine hK _ _ HS.out ?_
          clear hK K
          refine wpFk_get rfl (by rfl) (fun K hK => ?_)
          refine ⟨_, fun w' hS' => get_neqH rfl rfl rfl (NY.out _), ?_⟩
          try go_simp
          refine hK _ ?_
          clear hK K
          refine wpFk_get rfl (by rfl) (fun K hK => ?_)
          refine ⟨?_, fun w' hS' => ?_, ?_⟩
          rotate_left
          · go_simp
            try (with_reducible rfl)
          try go_simp
          refine hK _ ?_
          clear hK K
          refine wpFk_get rfl (by rfl) (fun K hK => ?_)
          refine ⟨?_, fun w' hS' => ?_, ?_⟩
          rotate_left
          · go_simp
            try (with_reducible rfl)
          try go_simp
          refine hK _ ?_
          clear hK K
          refine wpFk_get rfl (by rfl) (fun K hK => ?_)
          refine ⟨_, fun w' hS' => get_load rfl rfl (RD.out _ hS'.dig).2, ?_⟩
          try go_simp
          refine hK _ ?_
          clear hK K
          refine wpFk_get rfl (by rfl) (fun K hK => ?_)
          refine ⟨?_, fun w' hS' => ?_, ?_⟩
          rotate_left
          · go_simp
            try (with_reducible rfl)
          try go_simp
          refine hK _ ?_
          clear hK K
          refine wpFk_get rfl (by rfl) (fun K hK => ?_)
          refine ⟨_, fun w' hS' => get_load rfl rfl (RD.out _ hS'.dig).1, ?_⟩
          try go_simp
          refine hK _ ?_
          clear hK K
          refine wpFk_get rfl (by rfl) (fun K hK => ?_)
          refine ⟨_, fun w' hS' => get_loadS rfl rfl (hS'.seal_.readS rfl), ?_⟩
          try go_simp
          refine hK _ ?_
          clear hK K
          refine wpFk_call rfl (by rfl) (fun K hK => ?_)
          go_simp
          go_at_call 16
          (with_reducible refine (Q2.out _ HS.out.lst).mono ?_)
          rintro e w2x ⟨rfl, hb⟩
          replace HS := Lib.hid (HS.out.next TS hb)
          clear hb
          refine hK _ _ HS.out ?_
          clear hK K
          refine wpFk_get rfl (by rfl) (fun K hK => ?_)
          refine ⟨?_, fun w' hS' => ?_, ?_⟩
          rotate_left
          · go_simp
            try (with_reducible rfl)
          try go_simp
          refine hK _ ?_
          clear hK K
          refine wpFk_get rfl (by rfl) (fun K hK => ?_)
          refine ⟨?_, fun w' hS' => ?_, ?_⟩
          rotate_left
          · go_simp
            try (with_reducible rfl)
          try go_simp
          refine hK _ ?_
          clear hK K
          refine wpFk_get rfl (by rfl) (fun K hK => ?_)
          refine ⟨?_, fun w' hS' => ?_, ?_⟩
          rotate_left
          · go_simp
            try (with_reducible rfl)
          try go_simp
          refine hK _ ?_
          clear hK K
          refine wpFk_done ?_
          refine HQ.out _ _ ?_
          go_wp2
          go_meet
          exact ⟨by rw [hb8], HS⟩
  case rest =>
  obtain ⟨rfl, HC8⟩ := hcut
  clear HA
  go_step
  go_cut [6, 86] (fun s6 s86 wx => ((s6 = .bool false ∧ s86 = .bool b8) ∧ b8 = false) ∧ Hid (KbH TR w v seed N DD g9 (sealV (I : Int) E A 3 c) A ps wx))
  case first =>
    by_cases hb8 : b8 = true
    · subst hb8
      go_wp2_with (go_at_call 7; (with_reducible refine (KED.out _ HC8.out.tab).mono ?_); rintro e w9 ⟨rfl, hb⟩; have HZ := Lib.hid (below_new HC8.out.below hb); clear hb)
      go_ret
      exact ⟨rfl, HZ.out⟩
    · obtain rfl : b8 = false := by simpa using hb8
      go_wp2
      go_meet
      exact ⟨⟨⟨rfl, rfl⟩, rfl⟩, HC8⟩
  case rest =>
  obtain ⟨⟨⟨rfl, rfl⟩, rfl⟩, HC9⟩ := hcut
  have NB : ¬ ((d0 ≠ d1 ∧ v1 = 0) ∨ (d1 ≠ rt ∧ v2 = 0)) := fun h => by have := HB8.out; rw [decide_eq_true h] at this; cases this
  go_step
  exact keyback_two HBK.out g9 c v A _ HC.out HC9.out (by rw [← hv1.out, ← hv2.out]; exact NB) _ _ _ _ _ _ _ _ _ _ _ _ _ _ _ _ _ _ _ _ _ _ _ _ _ _ _ _ _ _ _ _ _ _ _ _ _ _ _ _ _ _ _ _ _ _ _ _ _ _ _ _ _ _ _ _ _ _ _ _ _ _ _ _ _ _ _ _ _ _ _ _ _ _ _ _ _ _ _ _ _ _ _ _ _ _ _ _ _ _ _ _ _ _ _ _ _ _ _ _ _ _ _ _ _ _ _ _ _ _ _ _ _ _ _ _ _ _ _ _ _ _ _ _ _ _ _ _ _ _ _ _ _ _ _ _ _ _ _ _ _ _ _ _ _ _ _ _ _ _ _ _ _ _ _ _ _ _ _ _ _ _ _ _ _ _ _ _ _ _ _ _ _ _ _ _ _ _ _ _ _ _ _ _ _ _ _ _ _ _ _ _ _ _ _ _ _ _ _ _ _ _ _ _ _ _ _ _ _ _ _ _ _ _ _ _ _ _ _ _ _ _ _ _ _ _ _ _ _ _ _ _ _
end Go.Proofs.YtgnkdkehooagpaaDoor
namespace Go.Proofs.YtgnkdkehooagpaaDoor.back
open Go.ChangeShapes Go.WideShapes Go.ChangeAt Go.RowKit
open Go.ChangeMaps (open_string)
set_option linter.unusedVariables false

set_option maxRecDepth 100000 in
theorem lifted (os : Os) (started : os.Started) (H : Type) (enc : TypeId × Value → H) :
    ReturnsInHanded {} Tryd.checked os 6 .any (fun w args => (Rows.keytreeBackSpec.pre enc Tryd.prog Tryd.f6 [] false w args ∧ laidMetH Tryd.prog laid2 w) ∧ sizedMet enc Tryd.prog Tryd.f6 (OpenSpec.ofChange Rows.keytreeBackSpec) false w args)
      (Rows.keytreeBackSpec.post enc Tryd.prog Tryd.f6 false true false false) := by
  refine returnsInHanded_of_change_and (C := Tryd.checked) (X := fun w _ => laidMetH Tryd.prog laid2 w) (fun _ _ _ hh h => h.of_heap hh) own started (by kernel_rfl) Tryd.func6
    (ChangeSpec.witness_shaped (enc := enc) (C := Tryd.checked) (os := os) (X := fun w _ => laidMetH Tryd.prog laid2 w) false (World.doorLaid Tryd.prog 400 os) #[.string ⟨#[]⟩, .agg (nums .u16 [0, 0, 0]), .agg (nums .u8 (zero32 ++ zero32))] 8 rfl (World.shaped_of_RefB (by kernel_rfl) (by kernel_rfl)) (by kernel_rfl) (by kernel_rfl) (by kernel_rfl) (door_met os _)) ?_
  intro W base args ds gs before hval0 hW _ _ hL _
  have hval : ∀ (j : Nat) t v, Tryd.f6.params[j]? = some t → args[j]? = some v → Value.okWide Tryd.prog W .any base t v := hval0
  have hW' := hW
  obtain ⟨p, q, hA0, hV, rfl, hfz, hnd⟩ := hW
  have hA : DataW.TrodAll enc Tryd.prog W 0 (fun _ => true) true Tryd.f6.params.toList args.toList ds p := hA0
  rw [Tryd.params6] at hA hval
  obtain ⟨v0, vs0, d0, ds0, p0, q0, hargs, rfl, rfl, h0, r0⟩ := trodAll_cons hA
  obtain ⟨v1, vs1, d1, ds1, p1, q1, rfl, rfl, rfl, h1, r1⟩ := trodAll_cons r0
  obtain ⟨v2, vs2, d2, ds2, p2, q2, rfl, rfl, rfl, h2, r2⟩ := trodAll_cons r1
  obtain ⟨rfl, rfl, rfl⟩ := trodAll_nil r2
  obtain rfl : args = #[v0, v1, v2] := by cases args; simp_all
  obtain ⟨rfl, rfl⟩ := trodVars_none hV
  have k0 := h0
  have lt0 : ∀ x ∈ p0, x.block < W.heap.size := by obtain ⟨m, hm⟩ := k0; exact DataW.trod_lt m _ _ _ hm
  have k1 := h1
  have lt1 : ∀ x ∈ p1, x.block < W.heap.size := by obtain ⟨m, hm⟩ := k1; exact DataW.trod_lt m _ _ _ hm
  have k2 := h2
  have lt2 : ∀ x ∈ p2, x.block < W.heap.size := by obtain ⟨m, hm⟩ := k2; exact DataW.trod_lt m _ _ _ hm
  obtain ⟨s0, rfl, hd0, _, w0⟩ := open_string Tryd.underlying9 (hval 0 9 v0 rfl rfl) h0
  obtain ⟨l1, rfl, hl1, hw1⟩ := open_nums (k := .u16) (n := 3) Tryd.underlying49 Tryd.underlying39 (by kernel_rfl) (by kernel_rfl) (hval 1 49 v1 rfl rfl) h1
  obtain ⟨a1, b1, c1, rfl⟩ := of_three hl1
  have b_a1 := bounds_u16 (hw1 a1 (by simp))
  have b_b1 := bounds_u16 (hw1 b1 (by simp))
  have b_c1 := bounds_u16 (hw1 c1 (by simp))
  obtain ⟨a2, b2, rfl, ha2, hb2⟩ := open_pair (hval 2 50 v2 rfl rfl) h2
  clear hA0 hval0
  refine (keybacklaw_any treeR tree_says s0 w0 a1 b1 c1 (by omega) a2 b2 ha2 hb2 W (of_laid hL)).mono fun e W' ⟨he, bel⟩ => ?_
  subst he
  exact ⟨_, rfl, _, _, _, [], _, [], hW', trodAll_mk1 (shut_bool Tryd.underlying4 _), (trodAll_cons_mk (Below.trod laidOut (by kernel_rfl) (of_decide_eq_true (by kernel_rfl)) k0 bel lt0) (trodAll_cons_mk (Below.trod laidOut (by kernel_rfl) (of_decide_eq_true (by kernel_rfl)) k1 bel lt1) (trodAll_cons_mk (Below.trod laidOut (by kernel_rfl) (of_decide_eq_true (by kernel_rfl)) k2 bel lt2) trodAll_mk0))), rfl, bel.frame _, fun h => by cases h⟩

theorem over : Rows.KeytreeBackSaid :=
  OpenClaim.holds_of_wide 6 Tryd.f6 rfl rfl rfl rfl rfl rfl rfl ⟨rfl, rfl, rfl, rfl, rfl⟩ rfl rfl rfl rfl rfl (by kernel_rfl) Tryd.func6 (by kernel_rfl)
    (of_decide_eq_true (by kernel_rfl)) (by unfold Func.isWrapper; first | (rw [if_pos (by decide +kernel)]; kernel_rfl) | (rw [if_neg (by decide +kernel)]; exact ⟨rfl, rfl⟩))
    (fun os started H enc _ => lifted os started H enc)

/-- The statement. -/
theorem proved : Rows.KeytreeBackCardSaid :=
  Claim7.holds_tied_plain_at .later [] [.data, .data] true _ false
    over (fun _ h => by cases h) (by kernel_rfl) (fun _ h => by cases h) keytreeBack_row_tie rfl ⟨rfl, rfl⟩ (by kernel_rfl) rfl
    (fun f fn hf hfn => by
      obtain rfl : f = 6 := Option.some.inj ((show Tryd.prog.funcNamed "speculum/speculumlaw09.KeytreeBack" = some 6 by kernel_rfl).symm.trans hf) |>.symm
      obtain rfl : fn = Tryd.f6 := (Option.some.inj (Tryd.func6.symm.trans hfn)).symm
      exact ⟨by kernel_rfl, fun j t ht => by
        rw [Tryd.params6] at ht
        have hm : t ∈ [9, 49, 50] := by simpa using Array.mem_of_getElem? ht
        have hall : ([9, 49, 50].all fun u => !Tryd.prog.wantsStandIn u) = true := by kernel_rfl
        exact (show Tryd.prog.wantsStandIn t = false by simpa using List.all_eq_true.1 hall t hm)⟩)
    (by kernel_rfl)
#print axioms proved
end Go.Proofs.YtgnkdkehooagpaaDoor.back
