/-
  Several texts in one (a claim has room for 60 files): KeyBackB.
-/
import Derived.Test.YtgnkdkehooagpaaDoorPk92
namespace Go.Proofs.YtgnkdkehooagpaaDoor
open Go.RowKit Go.Great
set_option linter.unusedVariables false
set_option maxRecDepth 100000

attribute [local go_sem ↓ high] read_at write_at read_s write_s eq_at neq_at
set_option maxHeartbeats 16000000 in
theorem keyback_two {TR : World → Value → ByteArray → Prop} {w : World} {seed : ByteArray} {n0 n1 n2 : Int} {d0 d1 : List Int} {I : Nat} {N DD D0 D1 : Array Value} {E : ByteArray} {ps : List (List Int)} {rt : List Int} {R : Array Value} (HB : BackH TR w seed n0 n1 n2 d0 d1 I N DD D0 D1 E ps rt R) (g9 c : Nat) (v : Value) (A : Option Addr) (wx : World) (HC0 : 3 ≤ c ∧ c ≤ maxLen) (HK0 : KbH TR w v seed N DD g9 (sealV (I : Int) E A 3 c) A ps wx)
    (NB : ¬ ((d0 ≠ d1 ∧ verF rt d1 (I : Int) E ps = 0) ∨ (d1 ≠ rt ∧ verF d1 d0 (I : Int) E ps = 0))) (u3 u11 u12 u13 u14 u15 u16 u17 u18 u19 u20 u21 u22 u23 u24 u25 u26 u27 u28 u29 u30 u31 u32 u33 u34 u35 u36 u37 u38 u39 u40 u41 u42 u43 u44 u45 u46 u47 u48 u49 u50 u51 u52 u53 u54 u55 u56 u57 u58 u59 u60 u61 u62 u63 u64 u65 u66 u67 u68 u69 u70 u71 u72 u73 u74 u75 u76 u77 u78 u79 u80 u81 u82 u83 u84 u85 u86 u87 u88 u89 u90 u91 u92 u93 u94 u95 u96 u97 u98 u99 u100 u101 u102 u103 u104 u105 u106 u107 u108 u109 u110 u111 u112 u113 u114 u115 u116 u117 u118 u119 u120 u121 u122 u123 u124 u125 u126 u127 u128 u129 u130 u131 u132 u133 u134 u135 u136 u137 u138 u139 u140 u141 u142 u143 u144 u145 u146 u147 u148 u149 u150 u151 u152 u153 u154 u155 u156 u157 u158 u159 u160 u161 u162 u163 u164 u165 u166 u167 u168 u169 u170 u171 u172 u173 u174 u175 u176 u177 u178 u179 u180 u181 u182 u183 u184 u185 u186 u187 u188 u189 u190 u191 u192 u193 u194 u195 u196 u197 u198 u199 u200 u201 u202 u203 u204 u205 u206 u207 u208 u209 u210 u211 u212 u213 u214 u215 u216 u217 u218 u219 u220 u221 u222 u223 u224 u225 u226 u227 u228 u229 u230 u231 u232 u233 u234 u235 u236 u237 u238 u239 u240 u241 u242 : Value) :
    Code.wp Tryd.prog (codeTail Tryd.f6.body 7) (bodyPost Tryd.prog Tryd.f6 fun e w' => e = .returned (.bool true) ∧ Below w.heap.size w w') ⟨(.string seed :: .agg N :: .agg DD :: u3 :: .pointer (some ⟨w.heap.size, 0, none⟩) :: .pointer (some ⟨w.heap.size + 1, 0, none⟩) :: .bool false :: v :: .int .i64 (I : Int) :: .pointer (some ⟨g9, 0, none⟩) :: .int .i64 0 :: u11 :: u12 :: u13 :: u14 :: u15 :: u16 :: u17 :: u18 :: u19 :: u20 :: u21 :: u22 :: u23 :: u24 :: u25 :: u26 :: u27 :: u28 :: u29 :: u30 :: u31 :: u32 :: u33 :: u34 :: u35 :: u36 :: u37 :: u38 :: u39 :: u40 :: u41 :: u42 :: u43 :: u44 :: u45 :: u46 :: u47 :: u48 :: u49 :: u50 :: u51 :: u52 :: u53 :: u54 :: u55 :: u56 :: u57 :: u58 :: u59 :: u60 :: u61 :: u62 :: u63 :: u64 :: u65 :: u66 :: u67 :: u68 :: u69 :: u70 :: u71 :: u72 :: u73 :: u74 :: u75 :: u76 :: u77 :: u78 :: u79 :: u80 :: u81 :: u82 :: u83 :: u84 :: u85 :: u86 :: u87 :: u88 :: u89 :: u90 :: u91 :: u92 :: u93 :: u94 :: u95 :: u96 :: u97 :: u98 :: u99 :: u100 :: u101 :: u102 :: u103 :: u104 :: u105 :: u106 :: u107 :: u108 :: u109 :: u110 :: u111 :: u112 :: u113 :: u114 :: u115 :: u116 :: u117 :: u118 :: u119 :: u120 :: u121 :: u122 :: u123 :: u124 :: u125 :: u126 :: u127 :: u128 :: u129 :: u130 :: u131 :: u132 :: u133 :: u134 :: u135 :: u136 :: u137 :: u138 :: u139 :: u140 :: u141 :: u142 :: u143 :: u144 :: u145 :: u146 :: u147 :: u148 :: u149 :: u150 :: u151 :: u152 :: u153 :: u154 :: u155 :: u156 :: u157 :: u158 :: u159 :: u160 :: u161 :: u162 :: u163 :: u164 :: u165 :: u166 :: u167 :: u168 :: u169 :: u170 :: u171 :: u172 :: u173 :: u174 :: u175 :: u176 :: u177 :: u178 :: u179 :: u180 :: u181 :: u182 :: u183 :: u184 :: u185 :: u186 :: u187 :: u188 :: u189 :: u190 :: u191 :: u192 :: u193 :: u194 :: u195 :: u196 :: u197 :: u198 :: u199 :: u200 :: u201 :: u202 :: u203 :: u204 :: u205 :: u206 :: u207 :: u208 :: u209 :: u210 :: u211 :: u212 :: u213 :: u214 :: u215 :: u216 :: u217 :: u218 :: u219 :: u220 :: u221 :: u222 :: u223 :: u224 :: u225 :: u226 :: u227 :: u228 :: u229 :: u230 :: u231 :: u232 :: u233 :: u234 :: u235 :: u236 :: u237 :: u238 :: u239 :: u240 :: u241 :: u242 :: ([] : List Value)).toArray, []⟩ wx := by
  have TS := HB.ts
  have KED := Lib.hid HB.ked
  have CL := Lib.hid HB.cl
  have RD := Lib.hid HB.rd
  have hD0 := Lib.hid HB.eD0
  have hD1 := Lib.hid HB.eD1
  have HD := Lib.hid HB.hd
  have hR := Lib.hid HB.eR
  have rt32 := Lib.hid HB.rt32
  have HI8 := Lib.hid HB.hI8
  have EZ := Lib.hid HB.ez
  have lps := Lib.hid HB.lps
  have hhp := Lib.hid HB.hhp
  have XR := Lib.hid HB.xr
  have VOWN := Lib.hid HB.vown
  have HN := Lib.hid HB.hn
  have VP := Lib.hid (ver_three TS)
  have VQ := Lib.hid ref_three
  have NI : Hid (num64 (I : Int)) := Lib.hid (by have := HI8.out; unfold num64; omega)
  have EM : Hid (E.size ≤ maxLen) := Lib.hid (by rw [EZ.out]; decide)
  have hw1 : IntKind.i64.wrap n1 = n1 := by have := HN.out.2.1; rw [IntKind.wrap_i64]; omega
  have hw2 : IntKind.i64.wrap n2 = n2 := by have := HN.out.2.2; rw [IntKind.wrap_i64]; omega
  have HC := Lib.hid HC0
  have HC8 := Lib.hid HK0
  have HBK := Lib.hid HB
  obtain ⟨v1, hv1⟩ : ∃ x, Hid (x = verF rt d1 (I : Int) E ps) := ⟨_, Lib.hid rfl⟩
  obtain ⟨v2, hv2⟩ : ∃ x, Hid (x = verF d1 d0 (I : Int) E ps) := ⟨_, Lib.hid rfl⟩
  rw [← hv1.out, ← hv2.out] at NB
  obtain ⟨x, hx⟩ : ∃ x, Hid (x = decide (d0 = d1)) := ⟨_, Lib.hid rfl⟩
  obtain ⟨y, hy⟩ : ∃ y, Hid (y = decide (d1 = rt)) := ⟨_, Lib.hid rfl⟩
  have EX : Hid (∀ W, (eqAt (.agg D0) (.agg D1)).run Tryd.prog W = .ok (.bool x) W) := Lib.hid fun W => by rw [hx.out, hD0.out, hD1.out, eqAt_hash d0 d1 HD.out.1.1 HD.out.2.1 HD.out.1.2 HD.out.2.2 W]
  have EY : Hid (∀ W, (eqAt (.agg D1) (.agg R)).run Tryd.prog W = .ok (.bool y) W) := Lib.hid fun W => by rw [hy.out, hD1.out, hR.out, eqAt_hash d1 rt HD.out.2.1 rt32.out.1 HD.out.2.2 rt32.out.2 W]
  have F1 : (v1 == 0) = x := by
    rw [hx.out]
    by_cases h : d0 = d1
    · rw [decide_eq_true h, hv1.out, ← h, VOWN.out]; rfl
    · rw [decide_eq_false h]; simpa using fun hq => NB (.inl ⟨h, hq⟩)
  have F2 : (v2 == 0) = y := by
    rw [hy.out]
    by_cases h : d1 = rt
    · rw [decide_eq_true h, hv2.out, h, VOWN.out]; rfl
    · rw [decide_eq_false h]; simpa using fun hq => NB (.inr ⟨h, hq⟩)
  have P1 : Hid (∀ W, Tab W → HW W A ps → Calls Tryd.prog 15 #[.agg R, .agg D1, .agg (sealV (I : Int) E A 3 c)] W fun e w' => e = .returned (.int .i64 v1) ∧ Below W.heap.size W w') := Lib.hid fun W h hA => by
    rw [hR.out, hD1.out, hv1.out]; exact VP.out rt d1 (I : Int) E ps A c W rt32.out HD.out.2 NI.out EM.out hhp.out lps.out HC.out h hA
  have P2 : Hid (∀ W, Tab W → HW W A ps → Calls Tryd.prog 15 #[.agg D1, .agg D0, .agg (sealV (I : Int) E A 3 c)] W fun e w' => e = .returned (.int .i64 v2) ∧ Below W.heap.size W w') := Lib.hid fun W h hA => by
    rw [hD0.out, hD1.out, hv2.out]; exact VP.out d1 d0 (I : Int) E ps A c W HD.out.2 HD.out.1 NI.out EM.out hhp.out lps.out HC.out h hA
  clear NB HB HC0 HK0
  refine tail_wp rfl ?_
  go_upto_region 10 with fail
  refine wp_region_fk (KbH TR w v seed N DD g9 (sealV (I : Int) E A 3 c) A ps) (.get 0 (.get 2 (.get 3 (.get 4 (.get 7 (.get 8 (.get 9 (.get 10 (.get 11 (.call 1 (.call 5 (.get 6 (.get 12 (.get 13 (.get 14 (.get 15 (.get 16 (.get 17 (.get 18 (.get 21 (.get 22 (.get 23 (.call 19 (.get 20 (.call 24 (.get 25 (.get 26 (.get 27 .done)))))))))))))))))))))))))))) (by kernel_rfl) rfl (by kernel_rfl) (by kernel_rfl) (by intro c a d v w h; cases d <;> exact h) (HC8.out.next TS (Below.refl _ _).drew) (fun Q' hQ => ?_)
  have HS := Lib.hid (HC8.out.next TS (Below.refl _ _).drew)
  have HQ := Lib.hid hQ
  clear hQ
  refine wpFk_get rfl (by rfl) (fun K hK => ?_)
  refine ⟨?_, fun w' hS' => ?_, ?_⟩
  rotate_left
  · go_simp
    try (with_reducible rfl)
  try go_simp
  refine hK _ ?_
  clear hK K
  refine wpFk_get rfl (by rfl) (fun K hK => ?_)
  refine ⟨?_, fun w' hS' => ?_, ?_⟩
  rotate_left
  · go_simp
    try (with_reducible rfl)
  try go_simp
  refine hK _ ?_
  clear hK K
  refine wpFk_get rfl (by rfl) (fun K hK => ?_)
  refine ⟨_, fun w' hS' => get_load rfl rfl (RD.out _ hS'.dig).2, ?_⟩
  try go_simp
  refine hK _ ?_
  clear hK K
  refine wpFk_get rfl (by rfl) (fun K hK => ?_)
  refine ⟨_, fun w' hS' => get_loadS rfl rfl (hS'.seal_.readS rfl), ?_⟩
  try go_simp
  refine hK _ ?_
  clear hK K
  refine wpFk_get rfl (by rfl) (fun K hK => ?_)
  refine ⟨?_, fun w' hS' => ?_, ?_⟩
  rotate_left
  · go_simp
    try (with_reducible rfl)
  try go_simp
  refine hK _ ?_
  clear hK K
  refine wpFk_get rfl (by rfl) (fun K hK => ?_)
  refine ⟨_, fun w' hS' => get_load rfl rfl (RD.out _ hS'.dig).1, ?_⟩
  try go_simp
  refine hK _ ?_
  clear hK K
  refine wpFk_get rfl (by rfl) (fun K hK => ?_)
  refine ⟨?_, fun w' hS' => ?_, ?_⟩
  rotate_left
  · go_simp
    try (with_reducible rfl)
  try go_simp
  refine hK _ ?_
  clear hK K
  refine wpFk_get rfl (by rfl) (fun K hK => ?_)
  refine ⟨_, fun w' hS' => get_load rfl rfl (RD.out _ hS'.dig).2, ?_⟩
  try go_simp
  refine hK _ ?_
  clear hK K
  refine wpFk_get rfl (by rfl) (fun K hK => ?_)
  refine ⟨_, fun w' hS' => get_eqH rfl rfl rfl (EX.out _), ?_⟩
  try go_simp
  refine hK _ ?_
  clear hK K
  refine wpFk_call rfl (by rfl) (fun K hK => ?_)
  go_simp
  go_at_call 10
  (with_reducible refine (XR.out _ _ HS.out.tab HS.out.tree).mono ?_)
  rintro e w2x ⟨rfl, hb⟩
  replace HS := Lib.hid (HS.out.next TS hb)
  clear hb
  refine hK _ _ HS.out ?_
  clear hK K
  refine wpFk_call rfl (by rfl) (fun K hK => ?_)
  go_simp
  go_at_call 15
  (with_reducible refine (P1.out _ HS.out.tab HS.out.lst).mono ?_)
  rintro e w2x ⟨rfl, hb⟩
  replace HS := Lib.hid (HS.out.next TS hb)
  clear hb
  refine hK _ _ HS.out ?_
  clear hK K
  refine wpFk_get rfl (by rfl) (fun K hK => ?_)
  refine ⟨?_, fun w' hS' => ?_, ?_⟩
  rotate_left
  · go_simp
    try (with_reducible rfl)
  try go_simp
  refine hK _ ?_
  clear hK K
  refine wpFk_get rfl (by rfl) (fun K hK => ?_)
  refine ⟨?_, fun w' hS' => ?_, ?_⟩
  rotate_left
  · go_simp
    try (with_reducible rfl)
  try go_simp
  refine hK _ ?_
  clear hK K
  refine wpFk_get rfl (by rfl) (fun K hK => ?_)
  refine ⟨?_, fun w' hS' => ?_, ?_⟩
  rotate_left
  · go_simp
    try (with_reducible rfl)
  try go_simp
  refine hK _ ?_
  clear hK K
  refine wpFk_get rfl (by rfl) (fun K hK => ?_)
  refine ⟨?_, fun w' hS' => ?_, ?_⟩
  rotate_left
  · go_simp
    try (with_reducible rfl)
  try go_simp
  refine hK _ ?_
  clear hK K
  refine wpFk_get rfl (by rfl) (fun K hK => ?_)
  refine ⟨_, fun w' hS' => get_load rfl rfl (RD.out _ hS'.dig).2, ?_⟩
  try go_simp
  refine hK _ ?_
  clear hK K
  refine wpFk_get rfl (by rfl) (fun K hK => ?_)
  refine ⟨?_, fun w' hS' => ?_, ?_⟩
  rotate_left
  · go_simp
    try (with_reducible rfl)
  try go_simp
  refine hK _ ?_
  clear hK K
  refine wpFk_get rfl (by rfl) (fun K hK => ?_)
  refine ⟨_, fun w' hS' => get_load rfl rfl (RD.out _ hS'.dig).1, ?_⟩
  try go_simp
  refine hK _ ?_
  clear hK K
  refine wpFk_get rfl (by rfl) (fun K hK => ?_)
  refine ⟨_, fun w' hS' => get_loadS rfl rfl (hS'.seal_.readS rfl), ?_⟩
  try go_simp
  refine hK _ ?_
  clear hK K
  refine wpFk_get rfl (by rfl) (fun K hK => ?_)
  refine ⟨?_, fun w' hS' => ?_, ?_⟩
  rotate_left
  · go_simp
    try (with_reducible rfl)
  try go_simp
  refine hK _ ?_
  clear hK K
  refine wpFk_get rfl (by rfl) (fun K hK => ?_)
  refine ⟨_, fun w' hS' => get_load rfl rfl (RD.out _ hS'.dig).2, ?_⟩
  try go_simp
  refine hK _ ?_
  clear hK K
  refine wpFk_get rfl (by rfl) (fun K hK => ?_)
  refine ⟨?_, fun w' hS' => ?_, ?_⟩
  rotate_left
  · go_simp
    try (with_reducible rfl)
  try go_simp
  refine hK _ ?_
  clear hK K
  refine wpFk_call rfl (by rfl) (fun K hK => ?_)
  go_simp
  go_at_call 15
  (with_reducible refine (P2.out _ HS.out.tab HS.out.lst).mono ?_)
  rintro e w2x ⟨rfl, hb⟩
  replace HS := Lib.hid (HS.out.next TS hb)
  clear hb
  refine hK _ _ HS.out ?_
  clear hK K
  refine wpFk_get rfl (by rfl) (fun K hK => ?_)
  refine ⟨?_, fun w' hS' => ?_, ?_⟩
  rotate_left
  · go_simp
    try (with_reducible rfl)
  try go_simp
  refine hK _ ?_
  clear hK K
  refine wpFk_call rfl (by rfl) (fun K hK => ?_)
  go_simp
  go_at_call 10
  (with_reducible refine (XR.out _ _ HS.out.tab HS.out.tree).mono ?_)
  rintro e w2x ⟨rfl, hb⟩
  replace HS := Lib.hid (HS.out.next TS hb)
  clear hb
  refine hK _ _ HS.out ?_
  clear hK K
  refine wpFk_get rfl (by rfl) (fun K hK => ?_)
  refine ⟨_, fun w' hS' => get_eqH rfl rfl rfl (EY.out _), ?_⟩
  try go_simp
  refine hK _ ?_
  clear hK K
  refine wpFk_get rfl (by rfl) (fun K hK => ?_)
  refine ⟨?_, fun w' hS' => ?_, ?_⟩
  rotate_left
  · go_simp
    try (with_reducible rfl)
  try go_simp
  refine hK _ ?_
  clear hK K
  refine wpFk_get rfl (by rfl) (fun K hK => ?_)
  refine ⟨?_, fun w' hS' => ?_, ?_⟩
  rotate_left
  · go_simp
    try (with_reducible rfl)
  try go_simp
  refine hK _ ?_
  clear hK K
  refine wpFk_done ?_
  refine HQ.out _ _ ?_
  clear HQ
  go_upto_region 12 with fail
  refine world_gen (fun X => KbH TR w v seed N DD g9 (sealV (I : Int) E A 3 c) A ps X) HS.out (fun wd HX => ?_)
  have HX := Lib.hid HX
  have K0' := Lib.hid (HX.out.next TS (Below.refl _ _).drew)
  clear HS HC8
  go_cut [11, 12, 13] (fun s11 s12 s13 wx => ∃ a b c' W0, s11 = .pointer (some ⟨a, 0, none⟩) ∧ s12 = .pointer (some ⟨b, 0, none⟩) ∧ s13 = .pointer (some ⟨c', 0, none⟩) ∧ Hid (KcH TR w v seed N DD g9 (sealV (I : Int) E A 3 c) A ps W0 a b c' (sealV (I : Int) E A 3 c) (sealV (I : Int) E A 3 c) (sealV (I : Int) E A 3 c) wx))
  case first =>
    refine wp_region_fk (KbH TR w v seed N DD g9 (sealV (I : Int) E A 3 c) A ps) (.get 0 (.get 1 (.get 2 (.fork3 3 4 5 (.fork 4 5 (.call 5 (.call 6 (.call 7 (.call 8 .done)))) (.call 4 (.call 6 (.call 7 (.call 8 .done))))) (.fork 3 5 (.call 5 (.call 6 (.call 7 (.call 8 .done)))) (.call 3 (.call 6 (.call 7 (.call 8 .done))))) (.fork 3 4 (.call 4 (.call 6 (.call 7 (.call 8 .done)))) (.call 3 (.call 6 (.call 7 (.call 8 .done))))))))) (by kernel_rfl) rfl (by kernel_rfl) (by kernel_rfl) (by intro c a d v w h; cases d <;> exact h) K0'.out (fun Q' hQ => ?_)
    have HS := K0'
    have HQ := Lib.hid hQ
    clear hQ
    obtain ⟨W0, hW0⟩ : ∃ X, X = wd.drew := ⟨_, rfl⟩
    rw [← hW0] at HS ⊢
    have K0 := HS
    clear hW0
    refine wpFk_get rfl (by rfl) (fun K hK => ?_)
    refine ⟨_, fun w' hS' => get_loadS rfl rfl (hS'.seal_.readS rfl), ?_⟩
    try go_simp
    refine hK _ ?_
    clear hK K
    refine wpFk_get rfl (by rfl) (fun K hK => ?_)
    refine ⟨_, fun w' hS' => get_loadS rfl rfl (hS'.seal_.readS rfl), ?_⟩
    try go_simp
    refine hK _ ?_
    clear hK K
    refine wpFk_get rfl (by rfl) (fun K hK => ?_)
    refine ⟨_, fun w' hS' => get_loadS rfl rfl (hS'.seal_.readS rfl), ?_⟩
    try go_simp
    refine hK _ ?_
    clear hK K
    refine wpFk_fork3 ?_ ?_ ?_
    · refine wpFk_call rfl (by rfl) (fun K hK => ?_)
      go_simp
      have HS : Hid (KbH TR w v seed N DD g9 (sealV (I : Int) E A 3 c) A ps (W0.alloc (.cells #[.int .i64 0, .string ⟨#[]⟩, .slice none 0 0] 32))) := Lib.hid (K0.out.next TS ((Below.refl _ _).alloc (Nat.le_refl _) _))
      refine hK _ _ HS.out ?_
      clear hK K
      refine wpFk_fork ?_ ?_
      · refine wpFk_call rfl (by rfl) (fun K hK => ?_)
        go_simp
        have HS : Hid (KbH TR w v seed N DD g9 (sealV (I : Int) E A 3 c) A ps ((W0.alloc (.cells #[.int .i64 0, .string ⟨#[]⟩, .slice none 0 0] 32)).alloc (.cells #[.int .i64 0, .string ⟨#[]⟩, .slice none 0 0] 32))) := Lib.hid (K0.out.next TS (((Below.refl _ _).alloc (Nat.le_refl _) _).alloc (by simp) _))
        refine hK _ _ HS.out ?_
        clear hK K
        refine wpFk_call rfl (by rfl) (fun K hK => ?_)
        go_simp
        have HS : Hid (KbH TR w v seed N DD g9 (sealV (I : Int) E A 3 c) A ps (((W0.alloc (.cells #[.int .i64 0, .string ⟨#[]⟩, .slice none 0 0] 32)).alloc (.cells #[.int .i64 0, .string ⟨#[]⟩, .slice none 0 0] 32)).alloc (.cells #[.int .i64 0, .string ⟨#[]⟩, .slice none 0 0] 32))) := Lib.hid (K0.out.next TS ((((Below.refl _ _).alloc (Nat.le_refl _) _).alloc (by simp) _).alloc (by simp; omega) _))
        refine hK _ _ HS.out ?_
        clear hK K
        refine wpFk_call rfl (by rfl) (fun K hK => ?_)
        have s6 : (writeS (.pointer (some ⟨(W0.heap.size), 0, none⟩)) (.agg (sealV (I : Int) E A 3 c))).run Tryd.prog (((W0.alloc (.cells #[.int .i64 0, .string ⟨#[]⟩, .slice none 0 0] 32)).alloc (.cells #[.int .i64 0, .string ⟨#[]⟩, .slice none 0 0] 32)).alloc (.cells #[.int .i64 0, .string ⟨#[]⟩, .slice none 0 0] 32)) = .ok () ((((W0.alloc (.cells #[.int .i64 0, .string ⟨#[]⟩, .slice none 0 0] 32)).alloc (.cells #[.int .i64 0, .string ⟨#[]⟩, .slice none 0 0] 32)).alloc (.cells #[.int .i64 0, .string ⟨#[]⟩, .slice none 0 0] 32)).setRow (W0.heap.size) (sealV (I : Int) E A 3 c)) := Row.writeS (D := (sealV (I : Int) E A 3 c)) (seal3_rows W0 0 (by decide)) rfl rfl (sealV_one _ _ _ _ _)
        go_simp
        clear s6
        have HS : Hid (KbH TR w v seed N DD g9 (sealV (I : Int) E A 3 c) A ps ((((W0.alloc (.cells #[.int .i64 0, .string ⟨#[]⟩, .slice none 0 0] 32)).alloc (.cells #[.int .i64 0, .string ⟨#[]⟩, .slice none 0 0] 32)).alloc (.cells #[.int .i64 0, .string ⟨#[]⟩, .slice none 0 0] 32)).setRow (W0.heap.size) (sealV (I : Int) E A 3 c))) := Lib.hid (K0.out.next TS (below_setRow ((((Below.refl _ _).alloc (Nat.le_refl _) _).alloc (by simp) _).alloc (by simp; omega) _) (by omega)))
        refine hK _ _ HS.out ?_
        clear hK K
        refine wpFk_call rfl (by rfl) (fun K hK => ?_)
        have s6 : (writeS (.pointer (some ⟨(W0.heap.size + 1), 0, none⟩)) (.agg (sealV (I : Int) E A 3 c))).run Tryd.prog ((((W0.alloc (.cells #[.int .i64 0, .string ⟨#[]⟩, .slice none 0 0] 32)).alloc (.cells #[.int .i64 0, .string ⟨#[]⟩, .slice none 0 0] 32)).alloc (.cells #[.int .i64 0, .string ⟨#[]⟩, .slice none 0 0] 32)).setRow (W0.heap.size) (sealV (I : Int) E A 3 c)) = .ok () (((((W0.alloc (.cells #[.int .i64 0, .string ⟨#[]⟩, .slice none 0 0] 32)).alloc (.cells #[.int .i64 0, .string ⟨#[]⟩, .slice none 0 0] 32)).alloc (.cells #[.int .i64 0, .string ⟨#[]⟩, .slice none 0 0] 32)).setRow (W0.heap.size) (sealV (I : Int) E A 3 c)).setRow (W0.heap.size + 1) (sealV (I : Int) E A 3 c)) := Row.writeS (D := (sealV (I : Int) E A 3 c)) ((seal3_rows W0 1 (by decide)).wfar (by omega) (sealV (I : Int) E A 3 c)) rfl rfl (sealV_one _ _ _ _ _)
        go_simp
        clear s6
        have HS : Hid (KbH TR w v seed N DD g9 (sealV (I : Int) E A 3 c) A ps (((((W0.alloc (.cells #[.int .i64 0, .string ⟨#[]⟩, .slice none 0 0] 32)).alloc (.cells #[.int .i64 0, .string ⟨#[]⟩, .slice none 0 0] 32)).alloc (.cells #[.int .i64 0, .string ⟨#[]⟩, .slice none 0 0] 32)).setRow (W0.heap.size) (sealV (I : Int) E A 3 c)).setRow (W0.heap.size + 1) (sealV (I : Int) E A 3 c))) := Lib.hid (K0.out.next TS (below_setRow (below_setRow ((((Below.refl _ _).alloc (Nat.le_refl _) _).alloc (by simp) _).alloc (by simp; omega) _) (by omega)) (by omega)))
        refine hK _ _ HS.out ?_
        clear hK K
        refine wpFk_call rfl (by rfl) (fun K hK => ?_)
        have s6 : (writeS (.pointer (some ⟨(W0.heap.size + 1 + 1), 0, none⟩)) (.agg (sealV (I : Int) E A 3 c))).run Tryd.prog (((((W0.alloc (.cells #[.int .i64 0, .string ⟨#[]⟩, .slice none 0 0] 32)).alloc (.cells #[.int .i64 0, .string ⟨#[]⟩, .slice none 0 0] 32)).alloc (.cells #[.int .i64 0, .string ⟨#[]⟩, .slice none 0 0] 32)).setRow (W0.heap.size) (sealV (I : Int) E A 3 c)).setRow (W0.heap.size + 1) (sealV (I : Int) E A 3 c)) = .ok () ((((((W0.alloc (.cells #[.int .i64 0, .string ⟨#[]⟩, .slice none 0 0] 32)).alloc (.cells #[.int .i64 0, .string ⟨#[]⟩, .slice none 0 0] 32)).alloc (.cells #[.int .i64 0, .string ⟨#[]⟩, .slice none 0 0] 32)).setRow (W0.heap.size) (sealV (I : Int) E A 3 c)).setRow (W0.heap.size + 1) (sealV (I : Int) E A 3 c)).setRow (W0.heap.size + 1 + 1) (sealV (I : Int) E A 3 c)) := Row.writeS (D := (sealV (I : Int) E A 3 c)) (((seal3_rows W0 2 (by decide)).wfar (by omega) (sealV (I : Int) E A 3 c)).wfar (by omega) (sealV (I : Int) E A 3 c)) rfl rfl (sealV_one _ _ _ _ _)
        go_simp
        clear s6
        have HS : Hid (KbH TR w v seed N DD g9 (sealV (I : Int) E A 3 c) A ps ((((((W0.alloc (.cells #[.int .i64 0, .string ⟨#[]⟩, .slice none 0 0] 32)).alloc (.cells #[.int .i64 0, .string ⟨#[]⟩, .slice none 0 0] 32)).alloc (.cells #[.int .i64 0, .string ⟨#[]⟩, .slice none 0 0] 32)).setRow (W0.heap.size) (sealV (I : Int) E A 3 c)).setRow (W0.heap.size + 1) (sealV (I : Int) E A 3 c)).setRow (W0.heap.size + 1 + 1) (sealV (I : Int) E A 3 c))) := Lib.hid (K0.out.next TS (below_setRow (below_setRow (below_setRow ((((Below.refl _ _).alloc (Nat.le_refl _) _).alloc (by simp) _).alloc (by simp; omega) _) (by omega)) (by omega)) (by omega)))
        refine hK _ _ HS.out ?_
        clear hK K
        refine wpFk_done ?_
        refine HQ.out _ _ ?_
        go_wp2
        go_meet
        exact ⟨_, _, _, _, rfl, rfl, rfl, Lib.hid (kc_made K0.out 0 1 2 (by decide) (by decide) (by decide) (by decide) (by decide) (by decide))⟩
      · refine wpFk_call rfl (by rfl) (fun K hK => ?_)
        go_simp
        have HS : Hid (KbH TR w v seed N DD g9 (sealV (I : Int) E A 3 c) A ps ((W0.alloc (.cells #[.int .i64 0, .string ⟨#[]⟩, .slice none 0 0] 32)).alloc (.cells #[.int .i64 0, .string ⟨#[]⟩, .slice none 0 0] 32))) := Lib.hid (K0.out.next TS (((Below.refl _ _).alloc (Nat.le_refl _) _).alloc (by simp) _))
        refine hK _ _ HS.out ?_
        clear hK K
        refine wpFk_call rfl (by rfl) (fun K hK => ?_)
        go_simp
        have HS : Hid (KbH TR w v seed N DD g9 (sealV (I : Int) E A 3 c) A ps (((W0.alloc (.cells #[.int .i64 0, .string ⟨#[]⟩, .slice none 0 0] 32)).alloc (.cells #[.int .i64 0, .string ⟨#[]⟩, .slice none 0 0] 32)).alloc (.cells #[.int .i64 0, .string ⟨#[]⟩, .slice none 0 0] 32))) := Lib.hid (K0.out.next TS ((((Below.refl _ _).alloc (Nat.le_refl _) _).alloc (by simp) _).alloc (by simp; omega) _))
        refine hK _ _ HS.out ?_
        clear hK K
        refine wpFk_call rfl (by rfl) (fun K hK => ?_)
        have s6 : (writeS (.pointer (some ⟨(W0.heap.size), 0, none⟩)) (.agg (sealV (I : Int) E A 3 c))).run Tryd.prog (((W0.alloc (.cells #[.int .i64 0, .string ⟨#[]⟩, .slice none 0 0] 32)).alloc (.cells #[.int .i64 0, .string ⟨#[]⟩, .slice none 0 0] 32)).alloc (.cells #[.int .i64 0, .string ⟨#[]⟩, .slice none 0 0] 32)) = .ok () ((((W0.alloc (.cells #[.int .i64 0, .string ⟨#[]⟩, .slice none 0 0] 32)).alloc (.cells #[.int .i64 0, .string ⟨#[]⟩, .slice none 0 0] 32)).alloc (.cells #[.int .i64 0, .string ⟨#[]⟩, .slice none 0 0] 32)).setRow (W0.heap.size) (sealV (I : Int) E A 3 c)) := Row.writeS (D := (sealV (I : Int) E A 3 c)) (seal3_rows W0 0 (by decide)) rfl rfl (sealV_one _ _ _ _ _)
        go_simp
        clear s6
        have HS : Hid (KbH TR w v seed N DD g9 (sealV (I : Int) E A 3 c) A ps ((((W0.alloc (.cells #[.int .i64 0, .string ⟨#[]⟩, .slice none 0 0] 32)).alloc (.cells #[.int .i64 0, .string ⟨#[]⟩, .slice none 0 0] 32)).alloc (.cells #[.int .i64 0, .string ⟨#[]⟩, .slice none 0 0] 32)).setRow (W0.heap.size) (sealV (I : Int) E A 3 c))) := Lib.hid (K0.out.next TS (below_setRow ((((Below.refl _ _).alloc (Nat.le_refl _) _).alloc (by simp) _).alloc (by simp; omega) _) (by omega)))
        refine hK _ _ HS.out ?_
        clear hK K
        refine wpFk_call rfl (by rfl) (fun K hK => ?_)
        have s6 : (writeS (.pointer (some ⟨(W0.heap.size + 1 + 1), 0, none⟩)) (.agg (sealV (I : Int) E A 3 c))).run Tryd.prog ((((W0.alloc (.cells #[.int .i64 0, .string ⟨#[]⟩, .slice none 0 0] 32)).alloc (.cells #[.int .i64 0, .string ⟨#[]⟩, .slice none 0 0] 32)).alloc (.cells #[.int .i64 0, .string ⟨#[]⟩, .slice none 0 0] 32)).setRow (W0.heap.size) (sealV (I : Int) E A 3 c)) = .ok () (((((W0.alloc (.cells #[.int .i64 0, .string ⟨#[]⟩, .slice none 0 0] 32)).alloc (.cells #[.int .i64 0, .string ⟨#[]⟩, .slice none 0 0] 32)).alloc (.cells #[.int .i64 0, .string ⟨#[]⟩, .slice none 0 0] 32)).setRow (W0.heap.size) (sealV (I : Int) E A 3 c)).setRow (W0.heap.size + 1 + 1) (sealV (I : Int) E A 3 c)) := Row.writeS (D := (sealV (I : Int) E A 3 c)) ((seal3_rows W0 2 (by decide)).wfar (by omega) (sealV (I : Int) E A 3 c)) rfl rfl (sealV_one _ _ _ _ _)
        go_simp
        clear s6
        have HS : Hid (KbH TR w v seed N DD g9 (sealV (I : Int) E A 3 c) A ps (((((W0.alloc (.cells #[.int .i64 0, .string ⟨#[]⟩, .slice none 0 0] 32)).alloc (.cells #[.int .i64 0, .string ⟨#[]⟩, .slice none 0 0] 32)).alloc (.cells #[.int .i64 0, .string ⟨#[]⟩, .slice none 0 0] 32)).setRow (W0.heap.size) (sealV (I : Int) E A 3 c)).setRow (W0.heap.size + 1 + 1) (sealV (I : Int) E A 3 c))) := Lib.hid (K0.out.next TS (below_setRow (below_setRow ((((Below.refl _ _).alloc (Nat.le_refl _) _).alloc (by simp) _).alloc (by simp; omega) _) (by omega)) (by omega)))
        refine hK _ _ HS.out ?_
        clear hK K
        refine wpFk_call rfl (by rfl) (fun K hK => ?_)
        have s6 : (writeS (.pointer (some ⟨(W0.heap.size + 1), 0, none⟩)) (.agg (sealV (I : Int) E A 3 c))).run Tryd.prog (((((W0.alloc (.cells #[.int .i64 0, .string ⟨#[]⟩, .slice none 0 0] 32)).alloc (.cells #[.int .i64 0, .string ⟨#[]⟩, .slice none 0 0] 32)).alloc (.cells #[.int .i64 0, .string ⟨#[]⟩, .slice none 0 0] 32)).setRow (W0.heap.size) (sealV (I : Int) E A 3 c)).setRow (W0.heap.size + 1 + 1) (sealV (I : Int) E A 3 c)) = .ok () ((((((W0.alloc (.cells #[.int .i64 0, .string ⟨#[]⟩, .slice none 0 0] 32)).alloc (.cells #[.int .i64 0, .string ⟨#[]⟩, .slice none 0 0] 32)).alloc (.cells #[.int .i64 0, .string ⟨#[]⟩, .slice none 0 0] 32)).setRow (W0.heap.size) (sealV (I : Int) E A 3 c)).setRow (W0.heap.size + 1 + 1) (sealV (I : Int) E A 3 c)).setRow (W0.heap.size + 1) (sealV (I : Int) E A 3 c)) := Row.writeS (D := (sealV (I : Int) E A 3 c)) (((seal3_rows W0 1 (by decide)).wfar (by omega) (sealV (I : Int) E A 3 c)).wfar (by omega) (sealV (I : Int) E A 3 c)) rfl rfl (sealV_one _ _ _ _ _)
        go_simp
        clear s6
        have HS : Hid (KbH TR w v seed N DD g9 (sealV (I : Int) E A 3 c) A ps ((((((W0.alloc (.cells #[.int .i64 0, .string ⟨#[]⟩, .slice none 0 0] 32)).alloc (.cells #[.int .i64 0, .string ⟨#[]⟩, .slice none 0 0] 32)).alloc (.cells #[.int .i64 0, .string ⟨#[]⟩, .slice none 0 0] 32)).setRow (W0.heap.size) (sealV (I : Int) E A 3 c)).setRow (W0.heap.size + 1 + 1) (sealV (I : Int) E A 3 c)).setRow (W0.heap.size + 1) (sealV (I : Int) E A 3 c))) := Lib.hid (K0.out.next TS (below_setRow (below_setRow (below_setRow ((((Below.refl _ _).alloc (Nat.le_refl _) _).alloc (by simp) _).alloc (by simp; omega) _) (by omega)) (by omega)) (by omega)))
        refine hK _ _ HS.out ?_
        clear hK K
        refine wpFk_done ?_
        refine HQ.out _ _ ?_
        go_wp2
        go_meet
        exact ⟨_, _, _, _, rfl, rfl, rfl, Lib.hid (kc_made K0.out 0 2 1 (by decide) (by decide) (by decide) (by decide) (by decide) (by decide))⟩
    · refine wpFk_call rfl (by rfl) (fun K hK => ?_)
      go_simp
      have HS : Hid (KbH TR w v seed N DD g9 (sealV (I : Int) E A 3 c) A ps (W0.alloc (.cells #[.int .i64 0, .string ⟨#[]⟩, .slice none 0 0] 32))) := Lib.hid (K0.out.next TS ((Below.refl _ _).alloc (Nat.le_refl _) _))
      refine hK _ _ HS.out ?_
      clear hK K
      refine wpFk_fork ?_ ?_
      · refine wpFk_call rfl (by rfl) (fun K hK => ?_)
        go_simp
        have HS : Hid (KbH TR w v seed N DD g9 (sealV (I : Int) E A 3 c) A ps ((W0.alloc (.cells #[.int .i64 0, .string ⟨#[]⟩, .slice none 0 0] 32)).alloc (.cells #[.int .i64 0, .string ⟨#[]⟩, .slice none 0 0] 32))) := Lib.hid (K0.out.next TS (((Below.refl _ _).alloc (Nat.le_refl _) _).alloc (by simp) _))
        refine hK _ _ HS.out ?_
        clear hK K
        refine wpFk_call rfl (by rfl) (fun K hK => ?_)
        go_simp
        have HS : Hid (KbH TR w v seed N DD g9 (sealV (I : Int) E A 3 c) A ps (((W0.alloc (.cells #[.int .i64 0, .string ⟨#[]⟩, .slice none 0 0] 32)).alloc (.cells #[.int .i64 0, .string ⟨#[]⟩, .slice none 0 0] 32)).alloc (.cells #[.int .i64 0, .string ⟨#[]⟩, .slice none 0 0] 32))) := Lib.hid (K0.out.next TS ((((Below.refl _ _).alloc (Nat.le_refl _) _).alloc (by simp) _).alloc (by simp; omega) _))
        refine hK _ _ HS.out ?_
        clear hK K
        refine wpFk_call rfl (by rfl) (fun K hK => ?_)
        have s6 : (writeS (.pointer (some ⟨(W0.heap.size + 1), 0, none⟩)) (.agg (sealV (I : Int) E A 3 c))).run Tryd.prog (((W0.alloc (.cells #[.int .i64 0, .string ⟨#[]⟩, .slice none 0 0] 32)).alloc (.cells #[.int .i64 0, .string ⟨#[]⟩, .slice none 0 0] 32)).alloc (.cells #[.int .i64 0, .string ⟨#[]⟩, .slice none 0 0] 32)) = .ok () ((((W0.alloc (.cells #[.int .i64 0, .string ⟨#[]⟩, .slice none 0 0] 32)).alloc (.cells #[.int .i64 0, .string ⟨#[]⟩, .slice none 0 0] 32)).alloc (.cells #[.int .i64 0, .string ⟨#[]⟩, .slice none 0 0] 32)).setRow (W0.heap.size + 1) (sealV (I : Int) E A 3 c)) := Row.writeS (D := (sealV (I : Int) E A 3 c)) (seal3_rows W0 1 (by decide)) rfl rfl (sealV_one _ _ _ _ _)
        go_simp
        clear s6
        have HS : Hid (KbH TR w v seed N DD g9 (sealV (I : Int) E A 3 c) A ps ((((W0.alloc (.cells #[.int .i64 0, .string ⟨#[]⟩, .slice none 0 0] 32)).alloc (.cells #[.int .i64 0, .string ⟨#[]⟩, .slice none 0 0] 32)).alloc (.cells #[.int .i64 0, .string ⟨#[]⟩, .slice none 0 0] 32)).setRow (W0.heap.size + 1) (sealV (I : Int) E A 3 c))) := Lib.hid (K0.out.next TS (below_setRow ((((Below.refl _ _).alloc (Nat.le_refl _) _).alloc (by simp) _).alloc (by simp; omega) _) (by omega)))
        refine hK _ _ HS.out ?_
        clear hK K
        refine wpFk_call rfl (by rfl) (fun K hK => ?_)
        have s6 : (writeS (.pointer (some ⟨(W0.heap.size), 0, none⟩)) (.agg (sealV (I : Int) E A 3 c))).run Tryd.prog ((((W0.alloc (.cells #[.int .i64 0, .string ⟨#[]⟩, .slice none 0 0] 32)).alloc (.cells #[.int .i64 0, .string ⟨#[]⟩, .slice none 0 0] 32)).alloc (.cells #[.int .i64 0, .string ⟨#[]⟩, .slice none 0 0] 32)).setRow (W0.heap.size + 1) (sealV (I : Int) E A 3 c)) = .ok () (((((W0.alloc (.cells #[.int .i64 0, .string ⟨#[]⟩, .slice none 0 0] 32)).alloc (.cells #[.int .i64 0, .string ⟨#[]⟩, .slice none 0 0] 32)).alloc (.cells #[.int .i64 0, .string ⟨#[]⟩, .slice none 0 0] 32)).setRow (W0.heap.size + 1) (sealV (I : Int) E A 3 c)).setRow (W0.heap.size) (sealV (I : Int) E A 3 c)) := Row.writeS (D := (sealV (I : Int) E A 3 c)) ((seal3_rows W0 0 (by decide)).wfar (by omega) (sealV (I : Int) E A 3 c)) rfl rfl (sealV_one _ _ _ _ _)
        go_simp
        clear s6
        have HS : Hid (KbH TR w v seed N DD g9 (sealV (I : Int) E A 3 c) A ps (((((W0.alloc (.cells #[.int .i64 0, .string ⟨#[]⟩, .slice none 0 0] 32)).alloc (.cells #[.int .i64 0, .string ⟨#[]⟩, .slice none 0 0] 32)).alloc (.cells #[.int .i64 0, .string ⟨#[]⟩, .slice none 0 0] 32)).setRow (W0.heap.size + 1) (sealV (I : Int) E A 3 c)).setRow (W0.heap.size) (sealV (I : Int) E A 3 c))) := Lib.hid (K0.out.next TS (below_setRow (below_setRow ((((Below.refl _ _).alloc (Nat.le_refl _) _).alloc (by simp) _).alloc (by simp; omega) _) (by omega)) (by omega)))
        refine hK _ _ HS.out ?_
        clear hK K
        refine wpFk_call rfl (by rfl) (fun K hK => ?_)
        have s6 : (writeS (.pointer (some ⟨(W0.heap.size + 1 + 1), 0, none⟩)) (.agg (sealV (I : Int) E A 3 c))).run Tryd.prog (((((W0.alloc (.cells #[.int .i64 0, .string ⟨#[]⟩, .slice none 0 0] 32)).alloc (.cells #[.int .i64 0, .string ⟨#[]⟩, .slice none 0 0] 32)).alloc (.cells #[.int .i64 0, .string ⟨#[]⟩, .slice none 0 0] 32)).setRow (W0.heap.size + 1) (sealV (I : Int) E A 3 c)).setRow (W0.heap.size) (sealV (I : Int) E A 3 c)) = .ok () ((((((W0.alloc (.cells #[.int .i64 0, .string ⟨#[]⟩, .slice none 0 0] 32)).alloc (.cells #[.int .i64 0, .string ⟨#[]⟩, .slice none 0 0] 32)).alloc (.cells #[.int .i64 0, .string ⟨#[]⟩, .slice none 0 0] 32)).setRow (W0.heap.size + 1) (sealV (I : Int) E A 3 c)).setRow (W0.heap.size) (sealV (I : Int) E A 3 c)).setRow (W0.heap.size + 1 + 1) (sealV (I : Int) E A 3 c)) := Row.writeS (D := (sealV (I : Int) E A 3 c)) (((seal3_rows W0 2 (by decide)).wfar (by omega) (sealV (I : Int) E A 3 c)).wfar (by omega) (sealV (I : Int) E A 3 c)) rfl rfl (sealV_one _ _ _ _ _)
        go_simp
        clear s6
        have HS : Hid (KbH TR w v seed N DD g9 (sealV (I : Int) E A 3 c) A ps ((((((W0.alloc (.cells #[.int .i64 0, .string ⟨#[]⟩, .slice none 0 0] 32)).alloc (.cells #[.int .i64 0, .string ⟨#[]⟩, .slice none 0 0] 32)).alloc (.cells #[.int .i64 0, .string ⟨#[]⟩, .slice none 0 0] 32)).setRow (W0.heap.size + 1) (sealV (I : Int) E A 3 c)).setRow (W0.heap.size) (sealV (I : Int) E A 3 c)).setRow (W0.heap.size + 1 + 1) (sealV (I : Int) E A 3 c))) := Lib.hid (K0.out.next TS (below_setRow (below_setRow (below_setRow ((((Below.refl _ _).alloc (Nat.le_refl _) _).alloc (by simp) _).alloc (by simp; omega) _) (by omega)) (by omega)) (by omega)))
        refine hK _ _ HS.out ?_
        clear hK K
        refine wpFk_done ?_
        refine HQ.out _ _ ?_
        go_wp2
        go_meet
        exact ⟨_, _, _, _, rfl, rfl, rfl, Lib.hid (kc_made K0.out 1 0 2 (by decide) (by decide) (by decide) (by decide) (by decide) (by decide))⟩
      · refine wpFk_call rfl (by rfl) (fun K hK => ?_)
        go_simp
        have HS : Hid (KbH TR w v seed N DD g9 (sealV (I : Int) E A 3 c) A ps ((W0.alloc (.cells #[.int .i64 0, .string ⟨#[]⟩, .slice none 0 0] 32)).alloc (.cells #[.int .i64 0, .string ⟨#[]⟩, .slice none 0 0] 32))) := Lib.hid (K0.out.next TS (((Below.refl _ _).alloc (Nat.le_refl _) _).alloc (by simp) _))
        refine hK _ _ HS.out ?_
        clear hK K
        refine wpFk_call rfl (by rfl) (fun K hK => ?_)
        go_simp
        have HS : Hid (KbH TR w v seed N DD g9 (sealV (I : Int) E A 3 c) A ps (((W0.alloc (.cells #[.int .i64 0, .string ⟨#[]⟩, .slice none 0 0] 32)).alloc (.cells #[.int .i64 0, .string ⟨#[]⟩, .slice none 0 0] 32)).alloc (.cells #[.int .i64 0, .string ⟨#[]⟩, .slice none 0 0] 32))) := Lib.hid (K0.out.next TS ((((Below.refl _ _).alloc (Nat.le_refl _) _).alloc (by simp) _).alloc (by simp; omega) _))
        refine hK _ _ HS.out ?_
        clear hK K
        refine wpFk_call rfl (by rfl) (fun K hK => ?_)
        have s6 : (writeS (.pointer (some ⟨(W0.heap.size + 1 + 1), 0, none⟩)) (.agg (sealV (I : Int) E A 3 c))).run Tryd.prog (((W0.alloc (.cells #[.int .i64 0, .string ⟨#[]⟩, .slice none 0 0] 32)).alloc (.cells #[.int .i64 0, .string ⟨#[]⟩, .slice none 0 0] 32)).alloc (.cells #[.int .i64 0, .string ⟨#[]⟩, .slice none 0 0] 32)) = .ok () ((((W0.alloc (.cells #[.int .i64 0, .string ⟨#[]⟩, .slice none 0 0] 32)).alloc (.cells #[.int .i64 0, .string ⟨#[]⟩, .slice none 0 0] 32)).alloc (.cells #[.int .i64 0, .string ⟨#[]⟩, .slice none 0 0] 32)).setRow (W0.heap.size + 1 + 1) (sealV (I : Int) E A 3 c)) := Row.writeS (D := (sealV (I : Int) E A 3 c)) (seal3_rows W0 2 (by decide)) rfl rfl (sealV_one _ _ _ _ _)
        go_simp
        clear s6
        have HS : Hid (KbH TR w v seed N DD g9 (sealV (I : Int) E A 3 c) A ps ((((W0.alloc (.cells #[.int .i64 0, .string ⟨#[]⟩, .slice none 0 0] 32)).alloc (.cells #[.int .i64 0, .string ⟨#[]⟩, .slice none 0 0] 32)).alloc (.cells #[.int .i64 0, .string ⟨#[]⟩, .slice none 0 0] 32)).setRow (W0.heap.size + 1 + 1) (sealV (I : Int) E A 3 c))) := Lib.hid (K0.out.next TS (below_setRow ((((Below.refl _ _).alloc (Nat.le_refl _) _).alloc (by simp) _).alloc (by simp; omega) _) (by omega)))
        refine hK _ _ HS.out ?_
        clear hK K
        refine wpFk_call rfl (by rfl) (fun K hK => ?_)
        have s6 : (writeS (.pointer (some ⟨(W0.heap.size), 0, none⟩)) (.agg (sealV (I : Int) E A 3 c))).run Tryd.prog ((((W0.alloc (.cells #[.int .i64 0, .string ⟨#[]⟩, .slice none 0 0] 32)).alloc (.cells #[.int .i64 0, .string ⟨#[]⟩, .slice none 0 0] 32)).alloc (.cells #[.int .i64 0, .string ⟨#[]⟩, .slice none 0 0] 32)).setRow (W0.heap.size + 1 + 1) (sealV (I : Int) E A 3 c)) = .ok () (((((W0.alloc (.cells #[.int .i64 0, .string ⟨#[]⟩, .slice none 0 0] 32)).alloc (.cells #[.int .i64 0, .string ⟨#[]⟩, .slice none 0 0] 32)).alloc (.cells #[.int .i64 0, .string ⟨#[]⟩, .slice none 0 0] 32)).setRow (W0.heap.size + 1 + 1) (sealV (I : Int) E A 3 c)).setRow (W0.heap.size) (sealV (I : Int) E A 3 c)) := Row.writeS (D := (sealV (I : Int) E A 3 c)) ((seal3_rows W0 0 (by decide)).wfar (by omega) (sealV (I : Int) E A 3 c)) rfl rfl (sealV_one _ _ _ _ _)
        go_simp
        clear s6
        have HS : Hid (KbH TR w v seed N DD g9 (sealV (I : Int) E A 3 c) A ps (((((W0.alloc (.cells #[.int .i64 0, .string ⟨#[]⟩, .slice none 0 0] 32)).alloc (.cells #[.int .i64 0, .string ⟨#[]⟩, .slice none 0 0] 32)).alloc (.cells #[.int .i64 0, .string ⟨#[]⟩, .slice none 0 0] 32)).setRow (W0.heap.size + 1 + 1) (sealV (I : Int) E A 3 c)).setRow (W0.heap.size) (sealV (I : Int) E A 3 c))) := Lib.hid (K0.out.next TS (below_setRow (below_setRow ((((Below.refl _ _).alloc (Nat.le_refl _) _).alloc (by simp) _).alloc (by simp; omega) _) (by omega)) (by omega)))
        refine hK _ _ HS.out ?_
        clear hK K
        refine wpFk_call rfl (by rfl) (fun K hK => ?_)
        have s6 : (writeS (.pointer (some ⟨(W0.heap.size + 1), 0, none⟩)) (.agg (sealV (I : Int) E A 3 c))).run Tryd.prog (((((W0.alloc (.cells #[.int .i64 0, .string ⟨#[]⟩, .slice none 0 0] 32)).alloc (.cells #[.int .i64 0, .string ⟨#[]⟩, .slice none 0 0] 32)).alloc (.cells #[.int .i64 0, .string ⟨#[]⟩, .slice none 0 0] 32)).setRow (W0.heap.size + 1 + 1) (sealV (I : Int) E A 3 c)).setRow (W0.heap.size) (sealV (I : Int) E A 3 c)) = .ok () ((((((W0.alloc (.cells #[.int .i64 0, .string ⟨#[]⟩, .slice none 0 0] 32)).alloc (.cells #[.int .i64 0, .string ⟨#[]⟩, .slice none 0 0] 32)).alloc (.cells #[.int .i64 0, .string ⟨#[]⟩, .slice none 0 0] 32)).setRow (W0.heap.size + 1 + 1) (sealV (I : Int) E A 3 c)).setRow (W0.heap.size) (sealV (I : Int) E A 3 c)).setRow (W0.heap.size + 1) (sealV (I : Int) E A 3 c)) := Row.writeS (D := (sealV (I : Int) E A 3 c)) (((seal3_rows W0 1 (by decide)).wfar (by omega) (sealV (I : Int) E A 3 c)).wfar (by omega) (sealV (I : Int) E A 3 c)) rfl rfl (sealV_one _ _ _ _ _)
        go_simp
        clear s6
        have HS : Hid (KbH TR w v seed N DD g9 (sealV (I : Int) E A 3 c) A ps ((((((W0.alloc (.cells #[.int .i64 0, .string ⟨#[]⟩, .slice none 0 0] 32)).alloc (.cells #[.int .i64 0, .string ⟨#[]⟩, .slice none 0 0] 32)).alloc (.cells #[.int .i64 0, .string ⟨#[]⟩, .slice none 0 0] 32)).setRow (W0.heap.size + 1 + 1) (sealV (I : Int) E A 3 c)).setRow (W0.heap.size) (sealV (I : Int) E A 3 c)).setRow (W0.heap.size + 1) (sealV (I : Int) E A 3 c))) := Lib.hid (K0.out.next TS (below_setRow (below_setRow (below_setRow ((((Below.refl _ _).alloc (Nat.le_refl _) _).alloc (by simp) _).alloc (by simp; omega) _) (by omega)) (by omega)) (by omega)))
        refine hK _ _ HS.out ?_
        clear hK K
        refine wpFk_done ?_
        refine HQ.out _ _ ?_
        go_wp2
        go_meet
        exact ⟨_, _, _, _, rfl, rfl, rfl, Lib.hid (kc_made K0.out 2 0 1 (by decide) (by decide) (by decide) (by decide) (by decide) (by decide))⟩
    · refine wpFk_call rfl (by rfl) (fun K hK => ?_)
      go_simp
      have HS : Hid (KbH TR w v seed N DD g9 (sealV (I : Int) E A 3 c) A ps (W0.alloc (.cells #[.int .i64 0, .string ⟨#[]⟩, .slice none 0 0] 32))) := Lib.hid (K0.out.next TS ((Below.refl _ _).alloc (Nat.le_refl _) _))
      refine hK _ _ HS.out ?_
      clear hK K
      refine wpFk_fork ?_ ?_
      · refine wpFk_call rfl (by rfl) (fun K hK => ?_)
        go_simp
        have HS : Hid (KbH TR w v seed N DD g9 (sealV (I : Int) E A 3 c) A ps ((W0.alloc (.cells #[.int .i64 0, .string ⟨#[]⟩, .slice none 0 0] 32)).alloc (.cells #[.int .i64 0, .string ⟨#[]⟩, .slice none 0 0] 32))) := Lib.hid (K0.out.next TS (((Below.refl _ _).alloc (Nat.le_refl _) _).alloc (by simp) _))
        refine hK _ _ HS.out ?_
        clear hK K
        refine wpFk_call rfl (by rfl) (fun K hK => ?_)
        go_simp
        have HS : Hid (KbH TR w v seed N DD g9 (sealV (I : Int) E A 3 c) A ps (((W0.alloc (.cells #[.int .i64 0, .string ⟨#[]⟩, .slice none 0 0] 32)).alloc (.cells #[.int .i64 0, .string ⟨#[]⟩, .slice none 0 0] 32)).alloc (.cells #[.int .i64 0, .string ⟨#[]⟩, .slice none 0 0] 32))) := Lib.hid (K0.out.next TS ((((Below.refl _ _).alloc (Nat.le_refl _) _).alloc (by simp) _).alloc (by simp; omega) _))
        refine hK _ _ HS.out ?_
        clear hK K
        refine wpFk_call rfl (by rfl) (fun K hK => ?_)
        have s6 : (writeS (.pointer (some ⟨(W0.heap.size + 1), 0, none⟩)) (.agg (sealV (I : Int) E A 3 c))).run Tryd.prog (((W0.alloc (.cells #[.int .i64 0, .string ⟨#[]⟩, .slice none 0 0] 32)).alloc (.cells #[.int .i64 0, .string ⟨#[]⟩, .slice none 0 0] 32)).alloc (.cells #[.int .i64 0, .string ⟨#[]⟩, .slice none 0 0] 32)) = .ok () ((((W0.alloc (.cells #[.int .i64 0, .string ⟨#[]⟩, .slice none 0 0] 32)).alloc (.cells #[.int .i64 0, .string ⟨#[]⟩, .slice none 0 0] 32)).alloc (.cells #[.int .i64 0, .string ⟨#[]⟩, .slice none 0 0] 32)).setRow (W0.heap.size + 1) (sealV (I : Int) E A 3 c)) := Row.writeS (D := (sealV (I : Int) E A 3 c)) (seal3_rows W0 1 (by decide)) rfl rfl (sealV_one _ _ _ _ _)
        go_simp
        clear s6
        have HS : Hid (KbH TR w v seed N DD g9 (sealV (I : Int) E A 3 c) A ps ((((W0.alloc (.cells #[.int .i64 0, .string ⟨#[]⟩, .slice none 0 0] 32)).alloc (.cells #[.int .i64 0, .string ⟨#[]⟩, .slice none 0 0] 32)).alloc (.cells #[.int .i64 0, .string ⟨#[]⟩, .slice none 0 0] 32)).setRow (W0.heap.size + 1) (sealV (I : Int) E A 3 c))) := Lib.hid (K0.out.next TS (below_setRow ((((Below.refl _ _).alloc (Nat.le_refl _) _).alloc (by simp) _).alloc (by simp; omega) _) (by omega)))
        refine hK _ _ HS.out ?_
        clear hK K
        refine wpFk_call rfl (by rfl) (fun K hK => ?_)
        have s6 : (writeS (.pointer (some ⟨(W0.heap.size + 1 + 1), 0, none⟩)) (.agg (sealV (I : Int) E A 3 c))).run Tryd.prog ((((W0.alloc (.cells #[.int .i64 0, .string ⟨#[]⟩, .slice none 0 0] 32)).alloc (.cells #[.int .i64 0, .string ⟨#[]⟩, .slice none 0 0] 32)).alloc (.cells #[.int .i64 0, .string ⟨#[]⟩, .slice none 0 0] 32)).setRow (W0.heap.size + 1) (sealV (I : Int) E A 3 c)) = .ok () (((((W0.alloc (.cells #[.int .i64 0, .string ⟨#[]⟩, .slice none 0 0] 32)).alloc (.cells #[.int .i64 0, .string ⟨#[]⟩, .slice none 0 0] 32)).alloc (.cells #[.int .i64 0, .string ⟨#[]⟩, .slice none 0 0] 32)).setRow (W0.heap.size + 1) (sealV (I : Int) E A 3 c)).setRow (W0.heap.size + 1 + 1) (sealV (I : Int) E A 3 c)) := Row.writeS (D := (sealV (I : Int) E A 3 c)) ((seal3_rows W0 2 (by decide)).wfar (by omega) (sealV (I : Int) E A 3 c)) rfl rfl (sealV_one _ _ _ _ _)
        go_simp
        clear s6
        have HS : Hid (KbH TR w v seed N DD g9 (sealV (I : Int) E A 3 c) A ps (((((W0.alloc (.cells #[.int .i64 0, .string ⟨#[]⟩, .slice none 0 0] 32)).alloc (.cells #[.int .i64 0, .string ⟨#[]⟩, .slice none 0 0] 32)).alloc (.cells #[.int .i64 0, .string ⟨#[]⟩, .slice none 0 0] 32)).setRow (W0.heap.size + 1) (sealV (I : Int) E A 3 c)).setRow (W0.heap.size + 1 + 1) (sealV (I : Int) E A 3 c))) := Lib.hid (K0.out.next TS (below_setRow (below_setRow ((((Below.refl _ _).alloc (Nat.le_refl _) _).alloc (by simp) _).alloc (by simp; omega) _) (by omega)) (by omega)))
        refine hK _ _ HS.out ?_
        clear hK K
        refine wpFk_call rfl (by rfl) (fun K hK => ?_)
        have s6 : (writeS (.pointer (some ⟨(W0.heap.size), 0, none⟩)) (.agg (sealV (I : Int) E A 3 c))).run Tryd.prog (((((W0.alloc (.cells #[.int .i64 0, .string ⟨#[]⟩, .slice none 0 0] 32)).alloc (.cells #[.int .i64 0, .string ⟨#[]⟩, .slice none 0 0] 32)).alloc (.cells #[.int .i64 0, .string ⟨#[]⟩, .slice none 0 0] 32)).setRow (W0.heap.size + 1) (sealV (I : Int) E A 3 c)).setRow (W0.heap.size + 1 + 1) (sealV (I : Int) E A 3 c)) = .ok () ((((((W0.alloc (.cells #[.int .i64 0, .string ⟨#[]⟩, .slice none 0 0] 32)).alloc (.cells #[.int .i64 0, .string ⟨#[]⟩, .slice none 0 0] 32)).alloc (.cells #[.int .i64 0, .string ⟨#[]⟩, .slice none 0 0] 32)).setRow (W0.heap.size + 1) (sealV (I : Int) E A 3 c)).setRow (W0.heap.size + 1 + 1) (sealV (I : Int) E A 3 c)).setRow (W0.heap.size) (sealV (I : Int) E A 3 c)) := Row.writeS (D := (sealV (I : Int) E A 3 c)) (((seal3_rows W0 0 (by decide)).wfar (by omega) (sealV (I : Int) E A 3 c)).wfar (by omega) (sealV (I : Int) E A 3 c)) rfl rfl (sealV_one _ _ _ _ _)
        go_simp
        clear s6
        have HS : Hid (KbH TR w v seed N DD g9 (sealV (I : Int) E A 3 c) A ps ((((((W0.alloc (.cells #[.int .i64 0, .string ⟨#[]⟩, .slice none 0 0] 32)).alloc (.cells #[.int .i64 0, .string ⟨#[]⟩, .slice none 0 0] 32)).alloc (.cells #[.int .i64 0, .string ⟨#[]⟩, .slice none 0 0] 32)).setRow (W0.heap.size + 1) (sealV (I : Int) E A 3 c)).setRow (W0.heap.size + 1 + 1) (sealV (I : Int) E A 3 c)).setRow (W0.heap.size) (sealV (I : Int) E A 3 c))) := Lib.hid (K0.out.next TS (below_setRow (below_setRow (below_setRow ((((Below.refl _ _).alloc (Nat.le_refl _) _).alloc (by simp) _).alloc (by simp; omega) _) (by omega)) (by omega)) (by omega)))
        refine hK _ _ HS.out ?_
        clear hK K
        refine wpFk_done ?_
        refine HQ.out _ _ ?_
        go_wp2
        go_meet
        exact ⟨_, _, _, _, rfl, rfl, rfl, Lib.hid (kc_made K0.out 1 2 0 (by decide) (by decide) (by decide) (by decide) (by decide) (by decide))⟩
      · refine wpFk_call rfl (by rfl) (fun K hK => ?_)
        go_simp
        have HS : Hid (KbH TR w v seed N DD g9 (sealV (I : Int) E A 3 c) A ps ((W0.alloc (.cells #[.int .i64 0, .string ⟨#[]⟩, .slice none 0 0] 32)).alloc (.cells #[.int .i64 0, .string ⟨#[]⟩, .slice none 0 0] 32))) := Lib.hid (K0.out.next TS (((Below.refl _ _).alloc (Nat.le_refl _) _).alloc (by simp) _))
        refine hK _ _ HS.out ?_
        clear hK K
        refine wpFk_call rfl (by rfl) (fun K hK => ?_)
        go_simp
        have HS : Hid (KbH TR w v seed N DD g9 (sealV (I : Int) E A 3 c) A ps (((W0.alloc (.cells #[.int .i64 0, .string ⟨#[]⟩, .slice none 0 0] 32)).alloc (.cells #[.int .i64 0, .string ⟨#[]⟩, .slice none 0 0] 32)).alloc (.cells #[.int .i64 0, .string ⟨#[]⟩, .slice none 0 0] 32))) := Lib.hid (K0.out.next TS ((((Below.refl _ _).alloc (Nat.le_refl _) _).alloc (by simp) _).alloc (by simp; omega) _))
        refine hK _ _ HS.out ?_
        clear hK K
        refine wpFk_call rfl (by rfl) (fun K hK => ?_)
        have s6 : (writeS (.pointer (some ⟨(W0.heap.size + 1 + 1), 0, none⟩)) (.agg (sealV (I : Int) E A 3 c))).run Tryd.prog (((W0.alloc (.cells #[.int .i64 0, .string ⟨#[]⟩, .slice none 0 0] 32)).alloc (.cells #[.int .i64 0, .string ⟨#[]⟩, .slice none 0 0] 32)).alloc (.cells #[.int .i64 0, .string ⟨#[]⟩, .slice none 0 0] 32)) = .ok () ((((W0.alloc (.cells #[.int .i64 0, .string ⟨#[]⟩, .slice none 0 0] 32)).alloc (.cells #[.int .i64 0, .string ⟨#[]⟩, .slice none 0 0] 32)).alloc (.cells #[.int .i64 0, .string ⟨#[]⟩, .slice none 0 0] 32)).setRow (W0.heap.size + 1 + 1) (sealV (I : Int) E A 3 c)) := Row.writeS (D := (sealV (I : Int) E A 3 c)) (seal3_rows W0 2 (by decide)) rfl rfl (sealV_one _ _ _ _ _)
        go_simp
        clear s6
        have HS : Hid (KbH TR w v seed N DD g9 (sealV (I : Int) E A 3 c) A ps ((((W0.alloc (.cells #[.int .i64 0, .string ⟨#[]⟩, .slice none 0 0] 32)).alloc (.cells #[.int .i64 0, .string ⟨#[]⟩, .slice none 0 0] 32)).alloc (.cells #[.int .i64 0, .string ⟨#[]⟩, .slice none 0 0] 32)).setRow (W0.heap.size + 1 + 1) (sealV (I : Int) E A 3 c))) := Lib.hid (K0.out.next TS (below_setRow ((((Below.refl _ _).alloc (Nat.le_refl _) _).alloc (by simp) _).alloc (by simp; omega) _) (by omega)))
        refine hK _ _ HS.out ?_
        clear hK K
        refine wpFk_call rfl (by rfl) (fun K hK => ?_)
        have s6 : (writeS (.pointer (some ⟨(W0.heap.size + 1), 0, none⟩)) (.agg (sealV (I : Int) E A 3 c))).run Tryd.prog ((((W0.alloc (.cells #[.int .i64 0, .string ⟨#[]⟩, .slice none 0 0] 32)).alloc (.cells #[.int .i64 0, .string ⟨#[]⟩, .slice none 0 0] 32)).alloc (.cells #[.int .i64 0, .string ⟨#[]⟩, .slice none 0 0] 32)).setRow (W0.heap.size + 1 + 1) (sealV (I : Int) E A 3 c)) = .ok () (((((W0.alloc (.cells #[.int .i64 0, .string ⟨#[]⟩, .slice none 0 0] 32)).alloc (.cells #[.int .i64 0, .string ⟨#[]⟩, .slice none 0 0] 32)).alloc (.cells #[.int .i64 0, .string ⟨#[]⟩, .slice none 0 0] 32)).setRow (W0.heap.size + 1 + 1) (sealV (I : Int) E A 3 c)).setRow (W0.heap.size + 1) (sealV (I : Int) E A 3 c)) := Row.writeS (D := (sealV (I : Int) E A 3 c)) ((seal3_rows W0 1 (by decide)).wfar (by omega) (sealV (I : Int) E A 3 c)) rfl rfl (sealV_one _ _ _ _ _)
        go_simp
        clear s6
        have HS : Hid (KbH TR w v seed N DD g9 (sealV (I : Int) E A 3 c) A ps (((((W0.alloc (.cells #[.int .i64 0, .string ⟨#[]⟩, .slice none 0 0] 32)).alloc (.cells #[.int .i64 0, .string ⟨#[]⟩, .slice none 0 0] 32)).alloc (.cells #[.int .i64 0, .string ⟨#[]⟩, .slice none 0 0] 32)).setRow (W0.heap.size + 1 + 1) (sealV (I : Int) E A 3 c)).setRow (W0.heap.size + 1) (sealV (I : Int) E A 3 c))) := Lib.hid (K0.out.next TS (below_setRow (below_setRow ((((Below.refl _ _).alloc (Nat.le_refl _) _).alloc (by simp) _).alloc (by simp; omega) _) (by omega)) (by omega)))
        refine hK _ _ HS.out ?_
        clear hK K
        refine wpFk_call rfl (by rfl) (fun K hK => ?_)
        have s6 : (writeS (.pointer (some ⟨(W0.heap.size), 0, none⟩)) (.agg (sealV (I : Int) E A 3 c))).run Tryd.prog (((((W0.alloc (.cells #[.int .i64 0, .string ⟨#[]⟩, .slice none 0 0] 32)).alloc (.cells #[.int .i64 0, .string ⟨#[]⟩, .slice none 0 0] 32)).alloc (.cells #[.int .i64 0, .string ⟨#[]⟩, .slice none 0 0] 32)).setRow (W0.heap.size + 1 + 1) (sealV (I : Int) E A 3 c)).setRow (W0.heap.size + 1) (sealV (I : Int) E A 3 c)) = .ok () ((((((W0.alloc (.cells #[.int .i64 0, .string ⟨#[]⟩, .slice none 0 0] 32)).alloc (.cells #[.int .i64 0, .string ⟨#[]⟩, .slice none 0 0] 32)).alloc (.cells #[.int .i64 0, .string ⟨#[]⟩, .slice none 0 0] 32)).setRow (W0.heap.size + 1 + 1) (sealV (I : Int) E A 3 c)).setRow (W0.heap.size + 1) (sealV (I : Int) E A 3 c)).setRow (W0.heap.size) (sealV (I : Int) E A 3 c)) := Row.writeS (D := (sealV (I : Int) E A 3 c)) (((seal3_rows W0 0 (by decide)).wfar (by omega) (sealV (I : Int) E A 3 c)).wfar (by omega) (sealV (I : Int) E A 3 c)) rfl rfl (sealV_one _ _ _ _ _)
        go_simp
        clear s6
        have HS : Hid (KbH TR w v seed N DD g9 (sealV (I : Int) E A 3 c) A ps ((((((W0.alloc (.cells #[.int .i64 0, .string ⟨#[]⟩, .slice none 0 0] 32)).alloc (.cells #[.int .i64 0, .string ⟨#[]⟩, .slice none 0 0] 32)).alloc (.cells #[.int .i64 0, .string ⟨#[]⟩, .slice none 0 0] 32)).setRow (W0.heap.size + 1 + 1) (sealV (I : Int) E A 3 c)).setRow (W0.heap.size + 1) (sealV (I : Int) E A 3 c)).setRow (W0.heap.size) (sealV (I : Int) E A 3 c))) := Lib.hid (K0.out.next TS (below_setRow (below_setRow (below_setRow ((((Below.refl _ _).alloc (Nat.le_refl _) _).alloc (by simp) _).alloc (by simp; omega) _) (by omega)) (by omega)) (by omega)))
        refine hK _ _ HS.out ?_
        clear hK K
        refine wpFk_done ?_
        refine HQ.out _ _ ?_
        go_wp2
        go_meet
        exact ⟨_, _, _, _, rfl, rfl, rfl, Lib.hid (kc_made K0.out 2 1 0 (by decide) (by decide) (by decide) (by decide) (by decide) (by decide))⟩
  case rest =>
  obtain ⟨ga, gb, gc, W0, rfl, rfl, rfl, HK⟩ := hcut
  clear HX K0'
  go_step
  exact keyback_three HBK.out g9 ga gb gc c v A W0 _ HC.out HK.out _ _ _ _ _ _ _ _ _ _ _ _ _ _ _ _ _ _ _ _ _ _ _ _ _ _ _ _ _ _ _ _ _ _ _ _ _ _ _ _ _ _ _ _ _ _ _ _ _ _ _ _ _ _ _ _ _ _ _ _ _ _ _ _ _ _ _ _ _ _ _ _ _ _ _ _ _ _ _ _ _ _ _ _ _ _ _ _ _ _ _ _ _ _ _ _ _ _ _ _ _ _ _ _ _ _ _ _ _ _ _ _ _ _ _ _ _ _ _ _ _ _ _ _ _ _ _ _ _ _ _ _ _ _ _ _ _ _ _ _ _ _ _ _ _ _ _ _ _ _ _ _ _ _ _ _ _ _ _ _ _ _ _ _ _ _ _ _ _ _ _ _ _ _ _ _ _ _ _ _ _ _ _ _ _ _ _ _ _ _ _ _ _ _ _ _ _ _ _ _ _ _ _ _ _ _ _ _ _ _ _ _ _ _ _ _ _ _ _ _ _ _ _ _ _ _ _ _ _ _
end Go.Proofs.YtgnkdkehooagpaaDoor
