/-
  Several texts in one (a claim has room for 60 files): KeyBackH, KeyBackD.
-/
import Derived.Test.YtgnkdkehooagpaaDoorPk90
namespace Go.Proofs.YtgnkdkehooagpaaDoor
open Go.RowKit Go.Great
set_option linter.unusedVariables false
set_option maxRecDepth 100000

/-- What follows the first n statements of a row. -/
def codeTail (b : Option Code) : Nat → Code
  | 0 => match b with | some c => c | none => .skip
  | n + 1 => match codeTail b n with | .seq _ d => d | c => c
theorem tail_wp {P : Program} {b : Option Code} {n : Nat} {c d : Code} {Q : Exit → Act → World → Prop} {a : Act} {w : World} (h : codeTail b n = c.seq d) (k : Code.wp P (c.seq d) Q a w) : Code.wp P (codeTail b n) Q a w := by rw [h]; exact k
structure BackH (TR : World → Value → ByteArray → Prop) (w : World) (seed : ByteArray) (n0 n1 n2 : Int) (d0 d1 : List Int) (I : Nat) (N DD D0 D1 : Array Value) (E : ByteArray) (ps : List (List Int)) (rt : List Int) (R : Array Value) : Prop where
  ts : TreeSays TR
  ked : ∀ W, Tab W → Calls Tryd.prog 7 #[] W fun e w' => e = .returned (.bool true) ∧ Below W.heap.size W w'
  cl : ∀ W, Row W w.heap.size 49 N → W.cell? ⟨w.heap.size, 0, none⟩ = some (.int .u16 n0) ∧ W.cell? ⟨w.heap.size, 1, none⟩ = some (.int .u16 n1) ∧ W.cell? ⟨w.heap.size, 2, none⟩ = some (.int .u16 n2)
  rd : ∀ W, Row W (w.heap.size + 1) 50 DD → (readAt (.pointer (some ⟨w.heap.size + 1, 0, none⟩))).run Tryd.prog W = .ok (.agg D0) W ∧ (readAt (.pointer (some ⟨w.heap.size + 1, 32, none⟩))).run Tryd.prog W = .ok (.agg D1) W
  eD0 : D0 = nums .u8 d0
  eD1 : D1 = nums .u8 d1
  hd : (d0.length = 32 ∧ bytes d0) ∧ d1.length = 32 ∧ bytes d1
  eR : R = nums .u8 rt
  rt32 : rt.length = 32 ∧ bytes rt
  hI8 : I < 8
  ez : E.size = 16384
  lps : ps.length = 3
  hhp : hashes ps
  xr : ∀ v W, Tab W → TR W v seed → Calls Tryd.prog 10 #[v] W fun e w' => e = .returned (.agg R) ∧ Below W.heap.size W w'
  vown : verF rt d0 (I : Int) E ps = 0
  hn : (0 ≤ n0 ∧ n0 < 65536) ∧ (0 ≤ n1 ∧ n1 < 65536) ∧ (0 ≤ n2 ∧ n2 < 65536)
theorem ver_three {TR : World → Value → ByteArray → Prop} (TS : TreeSays TR) (r d : List Int) (i : Int) (s : ByteArray) (p : List (List Int)) (A : Option Addr) (c : Nat) (W : World) (h1 : r.length = 32 ∧ bytes r) (h2 : d.length = 32 ∧ bytes d) (h3 : num64 i) (h4 : s.size ≤ maxLen) (h5 : hashes p) (h6 : p.length = 3) (h7 : 3 ≤ c ∧ c ≤ maxLen) (hW : Tab W) (hA : HW W A p) :
    Calls Tryd.prog 15 #[.agg (nums .u8 r), .agg (nums .u8 d), .agg (sealV i s A 3 c)] W fun e w' => e = .returned (.int .i64 (verF r d i s p)) ∧ Below W.heap.size W w' := by
  have := TS.ver r d i s p A c W hW h1 h2 h3 h4 h5 hA (by rw [h6]; exact h7.1) h7.2
  rwa [h6] at this
theorem ref_three (r d : List Int) (i : Int) (s : ByteArray) (p : List (List Int)) (A : Option Addr) (c : Nat) (W : World) (h1 : r.length = 32 ∧ bytes r) (h2 : d.length = 32 ∧ bytes d) (h3 : num64 i) (h4 : s.size ≤ maxLen) (h5 : hashes p) (h6 : p.length = 3) (h7 : 3 ≤ c ∧ c ≤ maxLen) (hA : HW W A p) :
    Calls Tryd.prog 16 #[.agg (nums .u8 r), .agg (nums .u8 d), .agg (sealV i s A 3 c)] W fun e w' => e = .returned (.int .i64 (verF r d i s p)) ∧ Below W.heap.size W w' := by
  have := refVerify_any r d h1 h2 i h3 s h4 p h5 A c W hA (by rw [h6]; exact h7.1) h7.2
  rwa [h6] at this
end Go.Proofs.YtgnkdkehooagpaaDoor
namespace Go.Proofs.YtgnkdkehooagpaaDoor
open Go.RowKit Go.Great
set_option linter.unusedVariables false
set_option maxRecDepth 100000

attribute [local go_sem ↓ high] read_at write_at read_s write_s eq_at neq_at
set_option maxHeartbeats 16000000 in
theorem keyback_four {TR : World → Value → ByteArray → Prop} {w : World} {seed : ByteArray} {n0 n1 n2 : Int} {d0 d1 : List Int} {I : Nat} {N DD D0 D1 : Array Value} {E : ByteArray} {ps : List (List Int)} {rt : List Int} {R : Array Value} (HB : BackH TR w seed n0 n1 n2 d0 d1 I N DD D0 D1 E ps rt R) (J k g9 ga gb gc g2 c c2 : Nat) (TH0 : n2.tmod 3 = (k : Int) ∧ wrap64 (k : Int) = (k : Int) ∧ k < 3) (JI0 : J < 8 ∧ J ≠ I) (v : Value) (ad : Addr) (W0 X19 : World) (T2 : ByteArray) (zT0 : T2.size = 16384) (HC0 : 3 ≤ c ∧ c ≤ maxLen) (HC20 : 3 ≤ c2 ∧ c2 ≤ maxLen)
    (HK0 : KdH TR w v seed N DD g9 (sealV (I : Int) E (some ad) 3 c) (some ad) ps W0 ga gb gc (sealV (J : Int) E (some ad) 3 c) (sealV (I : Int) T2 (some ad) 3 c) (sealV (I : Int) E (some ⟨g2, 0, none⟩) 3 c2) g2 (ps.set k d1) X19) (u3 u14 u15 u16 u17 u18 u19 u20 u21 u22 u23 u24 u25 u26 u27 u28 u29 u30 u31 u32 u33 u34 u35 u36 u37 u38 u39 u40 u41 u42 u43 u44 u45 u46 u47 u48 u49 u50 u51 u52 u53 u54 u55 u56 u57 u58 u59 u60 u61 u62 u63 u64 u65 u66 u67 u68 u69 u70 u71 u72 u73 u74 u75 u76 u77 u78 u79 u80 u81 u82 u83 u84 u85 u86 u87 u88 u89 u90 u91 u92 u93 u94 u95 u96 u97 u98 u99 u100 u101 u102 u103 u104 u105 u106 u107 u108 u109 u110 u111 u112 u113 u114 u115 u116 u117 u118 u119 u120 u121 u122 u123 u124 u125 u126 u127 u128 u129 u130 u131 u132 u133 u134 u135 u136 u137 u138 u139 u140 u141 u142 u143 u144 u145 u146 u147 u148 u149 u150 u151 u152 u153 u154 u155 u156 u157 u158 u159 u160 u161 u162 u163 u164 u165 u166 u167 u168 u169 u170 u171 u172 u173 u174 u175 u176 u177 u178 u179 u180 u181 u182 u183 u184 u185 u186 u187 u188 u189 u190 u191 u192 u193 u194 u195 u196 u197 u198 u199 u200 u201 u202 u203 u204 u205 u206 u207 u208 u209 u210 u211 u212 u213 u214 u215 u216 u217 u218 u219 u220 u221 u222 u223 u224 u225 u226 u227 u228 u229 u230 u231 u232 u233 u234 u235 u236 u237 u238 u239 u240 u241 u242 : Value) :
    Code.wp Tryd.prog (codeTail Tryd.f6.body 16) (bodyPost Tryd.prog Tryd.f6 fun e w' => e = .returned (.bool true) ∧ Below w.heap.size w w') ⟨(.string seed :: .agg N :: .agg DD :: u3 :: .pointer (some ⟨w.heap.size, 0, none⟩) :: .pointer (some ⟨w.heap.size + 1, 0, none⟩) :: .bool false :: v :: .int .i64 (I : Int) :: .pointer (some ⟨g9, 0, none⟩) :: .int .i64 0 :: .pointer (some ⟨ga, 0, none⟩) :: .pointer (some ⟨gb, 0, none⟩) :: .pointer (some ⟨gc, 0, none⟩) :: u14 :: u15 :: u16 :: u17 :: u18 :: u19 :: u20 :: u21 :: u22 :: u23 :: u24 :: u25 :: u26 :: u27 :: u28 :: u29 :: u30 :: u31 :: u32 :: u33 :: u34 :: u35 :: u36 :: u37 :: u38 :: u39 :: u40 :: u41 :: u42 :: u43 :: u44 :: u45 :: u46 :: u47 :: u48 :: u49 :: u50 :: u51 :: u52 :: u53 :: u54 :: u55 :: u56 :: u57 :: u58 :: u59 :: u60 :: u61 :: u62 :: u63 :: u64 :: u65 :: u66 :: u67 :: u68 :: u69 :: u70 :: u71 :: u72 :: u73 :: u74 :: u75 :: u76 :: u77 :: u78 :: u79 :: u80 :: u81 :: u82 :: u83 :: u84 :: u85 :: u86 :: u87 :: u88 :: u89 :: u90 :: u91 :: u92 :: u93 :: u94 :: u95 :: u96 :: u97 :: u98 :: u99 :: u100 :: u101 :: u102 :: u103 :: u104 :: u105 :: u106 :: u107 :: u108 :: u109 :: u110 :: u111 :: u112 :: u113 :: u114 :: u115 :: u116 :: u117 :: u118 :: u119 :: u120 :: u121 :: u122 :: u123 :: u124 :: u125 :: u126 :: u127 :: u128 :: u129 :: u130 :: u131 :: u132 :: u133 :: u134 :: u135 :: u136 :: u137 :: u138 :: u139 :: u140 :: u141 :: u142 :: u143 :: u144 :: u145 :: u146 :: u147 :: u148 :: u149 :: u150 :: u151 :: u152 :: u153 :: u154 :: u155 :: u156 :: u157 :: u158 :: u159 :: u160 :: u161 :: u162 :: u163 :: u164 :: u165 :: u166 :: u167 :: u168 :: u169 :: u170 :: u171 :: u172 :: u173 :: u174 :: u175 :: u176 :: u177 :: u178 :: u179 :: u180 :: u181 :: u182 :: u183 :: u184 :: u185 :: u186 :: u187 :: u188 :: u189 :: u190 :: u191 :: u192 :: u193 :: u194 :: u195 :: u196 :: u197 :: u198 :: u199 :: u200 :: u201 :: u202 :: u203 :: u204 :: u205 :: u206 :: u207 :: u208 :: u209 :: u210 :: u211 :: u212 :: u213 :: u214 :: u215 :: u216 :: u217 :: u218 :: u219 :: u220 :: u221 :: u222 :: u223 :: u224 :: u225 :: u226 :: u227 :: u228 :: u229 :: u230 :: u231 :: u232 :: u233 :: u234 :: u235 :: u236 :: u237 :: u238 :: u239 :: u240 :: u241 :: u242 :: ([] : List Value)).toArray, []⟩ X19 := by
  have TS := HB.ts
  have KED := Lib.hid HB.ked
  have CL := Lib.hid HB.cl
  have RD := Lib.hid HB.rd
  have hD0 := Lib.hid HB.eD0
  have hD1 := Lib.hid HB.eD1
  have HD := Lib.hid HB.hd
  have hR := Lib.hid HB.eR
  have rt32 := Lib.hid HB.rt32
  have HI8 := Lib.hid HB.hI8
  have EZ := Lib.hid HB.ez
  have lps := Lib.hid HB.lps
  have hhp := Lib.hid HB.hhp
  have XR := Lib.hid HB.xr
  have VOWN := Lib.hid HB.vown
  have HN := Lib.hid HB.hn
  have VP := Lib.hid (ver_three TS)
  have VQ := Lib.hid ref_three
  have NI : Hid (num64 (I : Int)) := Lib.hid (by have := HI8.out; unfold num64; omega)
  have EM : Hid (E.size ≤ maxLen) := Lib.hid (by rw [EZ.out]; decide)
  have hw1 : IntKind.i64.wrap n1 = n1 := by have := HN.out.2.1; rw [IntKind.wrap_i64]; omega
  have hw2 : IntKind.i64.wrap n2 = n2 := by have := HN.out.2.2; rw [IntKind.wrap_i64]; omega
  have TH := Lib.hid TH0
  have JI := Lib.hid JI0
  have zT := Lib.hid zT0
  have HC := Lib.hid HC0
  have HC2 := Lib.hid HC20
  have HK9 := Lib.hid HK0
  clear HB TH0 JI0 zT0 HC0 HC20 HK0
  obtain ⟨qs, hqs⟩ : ∃ q, q = ps.set k d1 := ⟨_, rfl⟩
  have HQS : Hid (hashes qs ∧ qs.length = 3) := Lib.hid ⟨by rw [hqs]; exact setL_hashes hhp.out k d1 HD.out.2, by rw [hqs, List.length_set]; exact lps.out⟩
  obtain ⟨y, hy⟩ : ∃ y, Hid (y = ps.getD k []) := ⟨_, Lib.hid rfl⟩
  have kp : k < ps.length := by rw [lps.out]; exact TH.out.2.2
  have y32 : Hid (y.length = 32 ∧ bytes y) := Lib.hid (by rw [hy.out]; exact hashes_at hhp.out k kp)
  have QSY : Hid (y = d1 → qs = ps) := Lib.hid fun h => by
    rw [hqs, ← h, hy.out, List.getD_eq_getElem?_getD, List.getElem?_eq_getElem kp]
    exact List.set_getElem_self kp
  obtain ⟨Y, hY⟩ : ∃ Y, Hid (Y = nums .u8 y) := ⟨_, Lib.hid rfl⟩
  have RY : Hid (∀ W, HW W (some ad) ps → (readAt (.pointer (some (ad.add (k * 32))))).run Tryd.prog W = .ok (.agg Y) W) := Lib.hid fun W h => by rw [hY.out, hy.out]; exact HL.read h hhp.out k kp
  rw [← hqs] at HK9
  clear hqs kp
  obtain ⟨va, hva⟩ : ∃ x, Hid (x = verF rt d0 (J : Int) E ps) := ⟨_, Lib.hid rfl⟩
  obtain ⟨vb, hvb⟩ : ∃ x, Hid (x = verF rt d0 (I : Int) T2 ps) := ⟨_, Lib.hid rfl⟩
  obtain ⟨vc, hvc⟩ : ∃ x, Hid (x = verF rt d0 (I : Int) E qs) := ⟨_, Lib.hid rfl⟩
  have NJ : Hid (num64 (J : Int)) := Lib.hid (by have := JI.out.1; unfold num64; omega)
  have TM : Hid (T2.size ≤ maxLen) := Lib.hid (by rw [zT.out]; decide)
  have PA : Hid (∀ W, Tab W → HW W (some ad) ps → Calls Tryd.prog 15 #[.agg R, .agg D0, .agg (sealV (J : Int) E (some ad) 3 c)] W fun e w' => e = .returned (.int .i64 va) ∧ Below W.heap.size W w') := Lib.hid fun W h hA => by
    rw [hR.out, hD0.out, hva.out]; exact VP.out rt d0 (J : Int) E ps (some ad) c W rt32.out HD.out.1 NJ.out EM.out hhp.out lps.out HC.out h hA
  have PB : Hid (∀ W, Tab W → HW W (some ad) ps → Calls Tryd.prog 15 #[.agg R, .agg D0, .agg (sealV (I : Int) T2 (some ad) 3 c)] W fun e w' => e = .returned (.int .i64 vb) ∧ Below W.heap.size W w') := Lib.hid fun W h hA => by
    rw [hR.out, hD0.out, hvb.out]; exact VP.out rt d0 (I : Int) T2 ps (some ad) c W rt32.out HD.out.1 NI.out TM.out hhp.out lps.out HC.out h hA
  have PC : Hid (∀ W, Tab W → HW W (some ⟨g2, 0, none⟩) qs → Calls Tryd.prog 15 #[.agg R, .agg D0, .agg (sealV (I : Int) E (some ⟨g2, 0, none⟩) 3 c2)] W fun e w' => e = .returned (.int .i64 vc) ∧ Below W.heap.size W w') := Lib.hid fun W h hA => by
    rw [hR.out, hD0.out, hvc.out]; exact VP.out rt d0 (I : Int) E qs (some ⟨g2, 0, none⟩) c2 W rt32.out HD.out.1 NI.out EM.out HQS.out.1 HQS.out.2 HC2.out h hA
  have QA : Hid (∀ W, HW W (some ad) ps → Calls Tryd.prog 16 #[.agg R, .agg D0, .agg (sealV (J : Int) E (some ad) 3 c)] W fun e w' => e = .returned (.int .i64 va) ∧ Below W.heap.size W w') := Lib.hid fun W hA => by
    rw [hR.out, hD0.out, hva.out]; exact VQ.out rt d0 (J : Int) E ps (some ad) c W rt32.out HD.out.1 NJ.out EM.out hhp.out lps.out HC.out hA
  have QB : Hid (∀ W, HW W (some ad) ps → Calls Tryd.prog 16 #[.agg R, .agg D0, .agg (sealV (I : Int) T2 (some ad) 3 c)] W fun e w' => e = .returned (.int .i64 vb) ∧ Below W.heap.size W w') := Lib.hid fun W hA => by
    rw [hR.out, hD0.out, hvb.out]; exact VQ.out rt d0 (I : Int) T2 ps (some ad) c W rt32.out HD.out.1 NI.out TM.out hhp.out lps.out HC.out hA
  have QC : Hid (∀ W, HW W (some ⟨g2, 0, none⟩) qs → Calls Tryd.prog 16 #[.agg R, .agg D0, .agg (sealV (I : Int) E (some ⟨g2, 0, none⟩) 3 c2)] W fun e w' => e = .returned (.int .i64 vc) ∧ Below W.heap.size W w') := Lib.hid fun W hA => by
    rw [hR.out, hD0.out, hvc.out]; exact VQ.out rt d0 (I : Int) E qs (some ⟨g2, 0, none⟩) c2 W rt32.out HD.out.1 NI.out EM.out HQS.out.1 HQS.out.2 HC2.out hA
  have NQt : y ≠ d1 → Hid (∀ W, (neqAt (.agg Y) (.agg D1)).run Tryd.prog W = .ok (.bool true) W) := fun h => Lib.hid fun W => by rw [hY.out, hD1.out, neqAt_hash y d1 y32.out.1 HD.out.2.1 y32.out.2 HD.out.2.2 W, decide_eq_false h]; rfl
  have NQf : y = d1 → Hid (∀ W, (neqAt (.agg Y) (.agg D1)).run Tryd.prog W = .ok (.bool false) W) := fun h => Lib.hid fun W => by rw [hY.out, hD1.out, neqAt_hash y d1 y32.out.1 HD.out.2.1 y32.out.2 HD.out.2.2 W, decide_eq_true h]; rfl
  obtain ⟨b20, HB20⟩ : ∃ b, Hid (b = decide (va = 0 ∨ vb = 0 ∨ (y ≠ d1 ∧ vc = 0))) := ⟨_, Lib.hid rfl⟩
  have HN9 := HK9
  refine tail_wp rfl ?_
  go_upto_region 20 with fail
  go_cut [203] (fun s203 wx => s203 = .bool b20 ∧ Hid (KdH TR w v seed N DD g9 (sealV (I : Int) E (some ad) 3 c) (some ad) ps W0 ga gb gc (sealV (J : Int) E (some ad) 3 c) (sealV (I : Int) T2 (some ad) 3 c) (sealV (I : Int) E (some ⟨g2, 0, none⟩) 3 c2) g2 qs wx))
  case first =>
    obtain ⟨t4, t6, tk⟩ := TH.out
    have tk2 : (k : Int) < 3 := by omega
    have tk3 : (0 : Int) ≤ (k : Int) := by omega
    by_cases ha : va = 0
    · have qa : (va == 0) = true := by simpa using ha
      have hb20 : b20 = true := by rw [HB20.out]; simp [ha]
      clear ha
      refine wp_region_fk (KdH TR w v seed N DD g9 (sealV (I : Int) E (some ad) 3 c) (some ad) ps W0 ga gb gc (sealV (J : Int) E (some ad) 3 c) (sealV (I : Int) T2 (some ad) 3 c) (sealV (I : Int) E (some ⟨g2, 0, none⟩) 3 c2) g2 qs) (.get 0 (.get 2 (.get 3 (.get 4 (.call 1 (.call 5 (.get 6 (.get 7 (.get 8 (.get 9 (.get 10 (.get 11 (.get 12 (.get 13 (.get 14 (.get 15 (.get 16 (.get 17 (.get 18 (.get 19 (.get 20 (.get 21 (.get 22 (.get 23 (.get 24 (.get 25 (.get 26 (.get 27 (.get 28 (.get 29 (.get 30 (.get 31 (.get 32 (.get 33 (.get 34 (.get 35 (.get 36 (.get 37 .done)))))))))))))))))))))))))))))))))))))) (by kernel_rfl) rfl (by kernel_rfl) (by kernel_rfl) (by intro c a d v w h; cases d <;> exact h) (HN9.out.next (Below.refl _ _).drew) (fun Q' hQ => ?_)
      have HS := Lib.hid (HN9.out.next (Below.refl _ _).drew)
      have HQ := Lib.hid hQ
      clear hQ
      refine wpFk_get rfl (by rfl) (fun K hK => ?_)
      refine ⟨?_, fun w' hS' => ?_, ?_⟩
      rotate_left
      · go_simp
        try (with_reducible rfl)
      try go_simp
      refine hK _ ?_
      clear hK K
      refine wpFk_get rfl (by rfl) (fun K hK => ?_)
      refine ⟨?_, fun w' hS' => ?_, ?_⟩
      rotate_left
      · go_simp
        try (with_reducible rfl)
      try go_simp
      refine hK _ ?_
      clear hK K
      refine wpFk_get rfl (by rfl) (fun K hK => ?_)
      refine ⟨_, fun w' hS' => get_load rfl rfl (RD.out _ (hS'.k.old TS).dig).1, ?_⟩
      try go_simp
      refine hK _ ?_
      clear hK K
      refine wpFk_get rfl (by rfl) (fun K hK => ?_)
      refine ⟨_, fun w' hS' => get_loadS rfl rfl (hS'.k.ra.readS rfl), ?_⟩
      try go_simp
      refine hK _ ?_
      clear hK K
      refine wpFk_call rfl (by rfl) (fun K hK => ?_)
      go_simp
      have ho := HS.out.k.old TS
      have hp := HS.out.p
      go_at_call 10
      (with_reducible refine (XR.out _ _ ho.tab ho.tree).mono ?_)
      rintro e w2x ⟨rfl, hb⟩
      replace HS := Lib.hid (HS.out.next hb)
      clear hb
      clear ho hp
      refine hK _ _ HS.out ?_
      clear hK K
      refine wpFk_call rfl (by rfl) (fun K hK => ?_)
      go_simp
      have ho := HS.out.k.old TS
      have hp := HS.out.p
      go_at_call 16
      (with_reducible refine (QA.out _ ho.lst).mono ?_)
      rintro e w2x ⟨rfl, hb⟩
      replace HS := Lib.hid (HS.out.next hb)
      clear hb
      clear ho hp
      refine hK _ _ HS.out ?_
      clear hK K
      refine wpFk_get rfl (by rfl) (fun K hK => ?_)
      refine ⟨?_, fun w' hS' => ?_, ?_⟩
      rotate_left
      · go_simp
        try (with_reducible rfl)
      try go_simp
      refine hK _ ?_
      clear hK K
      refine wpFk_get rfl (by rfl) (fun K hK => ?_)
      refine ⟨?_, fun w' hS' => ?_, ?_⟩
      rotate_left
      · go_simp
        try (with_reducible rfl)
      try go_simp
      refine hK _ ?_
      clear hK K
      refine wpFk_skip rfl (by rfl) (fun K hK => ?_)
      try go_simp
      refine hK _ ?_
      clear hK K
      refine wpFk_skip rfl (by rfl) (fun K hK => ?_)
      try go_simp
      refine hK _ ?_
      clear hK K
      refine wpFk_skip rfl (by rfl) (fun K hK => ?_)
      try go_simp
      refine hK _ ?_
      clear hK K
      refine wpFk_skip rfl (by rfl) (fun K hK => ?_)
      try go_simp
      refine hK _ ?_
      clear hK K
      refine wpFk_skip rfl (by rfl) (fun K hK => ?_)
      try go_simp
      refine hK _ ?_
      clear hK K
      refine wpFk_skip rfl (by rfl) (fun K hK => ?_)
      try go_simp
      refine hK _ ?_
      clear hK K
      refine wpFk_skip rfl (by rfl) (fun K hK => ?_)
      try go_simp
      refine hK _ ?_
      clear hK K
      refine wpFk_get rfl (by rfl) (fun K hK => ?_)
      refine ⟨?_, fun w' hS' => ?_, ?_⟩
      rotate_left
      · go_simp
        try (with_reducible rfl)
      try go_simp
      refine hK _ ?_
      clear hK K
      refine wpFk_get rfl (by rfl) (fun K hK => ?_)
      refine ⟨?_, fun w' hS' => ?_, ?_⟩
      rotate_left
      · go_simp
        try (with_reducible rfl)
      try go_simp
      refine hK _ ?_
      clear hK K
      refine wpFk_skip rfl (by rfl) (fun K hK => ?_)
      try go_simp
      refine hK _ ?_
      clear hK K
      refine wpFk_skip rfl (by rfl) (fun K hK => ?_)
      try go_simp
      refine hK _ ?_
      clear hK K
      refine wpFk_skip rfl (by rfl) (fun K hK => ?_)
      try go_simp
      refine hK _ ?_
      clear hK K
      refine wpFk_skip rfl (by rfl) (fun K hK => ?_)
      try go_simp
      refine hK _ ?_
      clear hK K
      refine wpFk_skip rfl (by rfl) (fun K hK => ?_)
      try go_simp
      refine hK _ ?_
      clear hK K
      refine wpFk_skip rfl (by rfl) (fun K hK => ?_)
      try go_simp
      refine hK _ ?_
      clear hK K
      refine wpFk_skip rfl (by rfl) (fun K hK => ?_)
      try go_simp
      refine hK _ ?_
      clear hK K
      refine wpFk_skip rfl (by rfl) (fun K hK => ?_)
      try go_simp
      refine hK _ ?_
      clear hK K
      refine wpFk_skip rfl (by rfl) (fun K hK => ?_)
      try go_simp
      refine hK _ ?_
      clear hK K
      refine wpFk_skip rfl (by rfl) (fun K hK => ?_)
      try go_simp
      refine hK _ ?_
      clear hK K
      refine wpFk_skip rfl (by rfl) (fun K hK => ?_)
      try go_simp
      refine hK _ ?_
      clear hK K
      refine wpFk_skip rfl (by rfl) (fun K hK => ?_)
      try go_simp
      refine hK _ ?_
      clear hK K
      refine wpFk_skip rfl (by rfl) (fun K hK => ?_)
      try go_simp
      refine hK _ ?_
      clear hK K
      refine wpFk_skip rfl (by rfl) (fun K hK => ?_)
      try go_simp
      refine hK _ ?_
      clear hK K
      refine wpFk_skip rfl (by rfl) (fun K hK => ?_)
      try go_simp
      refine hK _ ?_
      clear hK K
      refine wpFk_skip rfl (by rfl) (fun K hK => ?_)
      try go_simp
      refine hK _ ?_
      clear hK K
      refine wpFk_skip rfl (by rfl) (fun K hK => ?_)
      try go_simp
      refine hK _ ?_
      clear hK K
      refine wpFk_skip rfl (by rfl) (fun K hK => ?_)
      try go_simp
      refine hK _ ?_
      clear hK K
      refine wpFk_skip rfl (by rfl) (fun K hK => ?_)
      try go_simp
      refine hK _ ?_
      clear hK K
      refine wpFk_skip rfl (by rfl) (fun K hK => ?_)
      try go_simp
      refine hK _ ?_
      clear hK K
      refine wpFk_get rfl (by rfl) (fun K hK => ?_)
      refine ⟨?_, fun w' hS' => ?_, ?_⟩
      rotate_left
      · go_simp
        try (with_reducible rfl)
      try go_simp
      refine hK _ ?_
      clear hK K
      refine wpFk_done ?_
      refine HQ.out _ _ ?_
      go_wp2
      go_meet
      exact ⟨by rw [hb20], HS⟩
    · have qa : (va == 0) = false := by simpa using ha
      by_cases hb : vb = 0
      · have qb : (vb == 0) = true := by simpa using hb
        have hb20 : b20 = true := by rw [HB20.out]; simp [hb]
        clear ha hb
        refine wp_region_fk (KdH TR w v seed N DD g9 (sealV (I : Int) E (some ad) 3 c) (some ad) ps W0 ga gb gc (sealV (J : Int) E (some ad) 3 c) (sealV (I : Int) T2 (some ad) 3 c) (sealV (I : Int) E (some ⟨g2, 0, none⟩) 3 c2) g2 qs) (.get 0 (.get 2 (.get 3 (.get 4 (.call 1 (.call 5 (.get 6 (.get 7 (.get 8 (.get 10 (.get 11 (.get 12 (.call 9 (.call 13 (.get 14 (.get 15 (.get 16 (.get 17 (.get 18 (.get 19 (.get 20 (.get 21 (.get 22 (.get 23 (.get 24 (.get 25 (.get 26 (.get 27 (.get 28 (.get 29 (.get 30 (.get 31 (.get 32 (.get 33 (.get 34 (.get 35 (.get 36 (.get 37 .done)))))))))))))))))))))))))))))))))))))) (by kernel_rfl) rfl (by kernel_rfl) (by kernel_rfl) (by intro c a d v w h; cases d <;> exact h) (HN9.out.next (Below.refl _ _).drew) (fun Q' hQ => ?_)
        have HS := Lib.hid (HN9.out.next (Below.refl _ _).drew)
        have HQ := Lib.hid hQ
        clear hQ
        refine wpFk_get rfl (by rfl) (fun K hK => ?_)
        refine ⟨?_, fun w' hS' => ?_, ?_⟩
        rotate_left
        · go_simp
          try (with_reducible rfl)
        try go_simp
        refine hK _ ?_
        clear hK K
        refine wpFk_get rfl (by rfl) (fun K hK => ?_)
        refine ⟨?_, fun w' hS' => ?_, ?_⟩
        rotate_left
        · go_simp
          try (with_reducible rfl)
        try go_simp
        refine hK _ ?_
        clear hK K
        refine wpFk_get rfl (by rfl) (fun K hK => ?_)
        refine ⟨_, fun w' hS' => get_load rfl rfl (RD.out _ (hS'.k.old TS).dig).1, ?_⟩
        try go_simp
        refine hK _ ?_
        clear hK K
        refine wpFk_get rfl (by rfl) (fun K hK => ?_)
        refine ⟨_, fun w' hS' => get_loadS rfl rfl (hS'.k.ra.readS rfl), ?_⟩
        try go_simp
        refine hK _ ?_
        clear hK K
        refine wpFk_call rfl (by rfl) (fun K hK => ?_)
        go_simp
        have ho := HS.out.k.old TS
        have hp := HS.out.p
        go_at_call 10
        (with_reducible refine (XR.out _ _ ho.tab ho.tree).mono ?_)
        rintro e w2x ⟨rfl, hb⟩
        replace HS := Lib.hid (HS.out.next hb)
        clear hb
        clear ho hp
        refine hK _ _ HS.out ?_
        clear hK K
        refine wpFk_call rfl (by rfl) (fun K hK => ?_)
        go_simp
        have ho := HS.out.k.old TS
        have hp := HS.out.p
        go_at_call 16
        (with_reducible refine (QA.out _ ho.lst).mono ?_)
        rintro e w2x ⟨rfl, hb⟩
        replace HS := Lib.hid (HS.out.next hb)
        clear hb
        clear ho hp
        refine hK _ _ HS.out ?_
        clear hK K
        refine wpFk_get rfl (by rfl) (fun K hK => ?_)
        refine ⟨?_, fun w' hS' => ?_, ?_⟩
        rotate_left
        · go_simp
          try (with_reducible rfl)
        try go_simp
        refine hK _ ?_
        clear hK K
        refine wpFk_get rfl (by rfl) (fun K hK => ?_)
        refine ⟨?_, fun w' hS' => ?_, ?_⟩
        rotate_left
        · go_simp
          try (with_reducible rfl)
        try go_simp
        refine hK _ ?_
        clear hK K
        refine wpFk_get rfl (by rfl) (fun K hK => ?_)
        refine ⟨?_, fun w' hS' => ?_, ?_⟩
        rotate_left
        · go_simp
          try (with_reducible rfl)
        try go_simp
        refine hK _ ?_
        clear hK K
        refine wpFk_get rfl (by rfl) (fun K hK => ?_)
        refine ⟨?_, fun w' hS' => ?_, ?_⟩
        rotate_left
        · go_simp
          try (with_reducible rfl)
        try go_simp
        refine hK _ ?_
        clear hK K
        refine wpFk_get rfl (by rfl) (fun K hK => ?_)
        refine ⟨_, fun w' hS' => get_load rfl rfl (RD.out _ (hS'.k.old TS).dig).1, ?_⟩
        try go_simp
        refine hK _ ?_
        clear hK K
        refine wpFk_get rfl (by rfl) (fun K hK => ?_)
        refine ⟨_, fun w' hS' => get_loadS rfl rfl (hS'.k.rb.readS rfl), ?_⟩
        try go_simp
        refine hK _ ?_
        clear hK K
        refine wpFk_call rfl (by rfl) (fun K hK => ?_)
        go_simp
        have ho := HS.out.k.old TS
        have hp := HS.out.p
        go_at_call 10
        (with_reducible refine (XR.out _ _ ho.tab ho.tree).mono ?_)
        rintro e w2x ⟨rfl, hb⟩
        replace HS := Lib.hid (HS.out.next hb)
        clear hb
        clear ho hp
        refine hK _ _ HS.out ?_
        clear hK K
        refine wpFk_call rfl (by rfl) (fun K hK => ?_)
        go_simp
        have ho := HS.out.k.old TS
        have hp := HS.out.p
        go_at_call 16
        (with_reducible refine (QB.out _ ho.lst).mono ?_)
        rintro e w2x ⟨rfl, hb⟩
        replace HS := Lib.hid (HS.out.next hb)
        clear hb
        clear ho hp
        refine hK _ _ HS.out ?_
        clear hK K
        refine wpFk_get rfl (by rfl) (fun K hK => ?_)
        refine ⟨?_, fun w' hS' => ?_, ?_⟩
        rotate_left
        · go_simp
          try (with_reducible rfl)
        try go_simp
        refine hK _ ?_
        clear hK K
        refine wpFk_get rfl (by rfl) (fun K hK => ?_)
        refine ⟨?_, fun w' hS' => ?_, ?_⟩
        rotate_left
        · go_simp
          try (with_reducible rfl)
        try go_simp
        refine hK _ ?_
        clear hK K
        refine wpFk_get rfl (by rfl) (fun K hK => ?_)
        refine ⟨?_, fun w' hS' => ?_, ?_⟩
        rotate_left
        · go_simp
          try (with_reducible rfl)
        try go_simp
        refine hK _ ?_
        clear hK K
        refine wpFk_skip rfl (by rfl) (fun K hK => ?_)
        try go_simp
        refine hK _ ?_
        clear hK K
        refine wpFk_skip rfl (by rfl) (fun K hK => ?_)
        try go_simp
        refine hK _ ?_
        clear hK K
        refine wpFk_skip rfl (by rfl) (fun K hK => ?_)
        try go_simp
        refine hK _ ?_
        clear hK K
        refine wpFk_skip rfl (by rfl) (fun K hK => ?_)
        try go_simp
        refine hK _ ?_
        clear hK K
        refine wpFk_skip rfl (by rfl) (fun K hK => ?_)
        try go_simp
        refine hK _ ?_
        clear hK K
        refine wpFk_skip rfl (by rfl) (fun K hK => ?_)
        try go_simp
        refine hK _ ?_
        clear hK K
        refine wpFk_skip rfl (by rfl) (fun K hK => ?_)
        try go_simp
        refine hK _ ?_
        clear hK K
        refine wpFk_skip rfl (by rfl) (fun K hK => ?_)
        try go_simp
        refine hK _ ?_
        clear hK K
        refine wpFk_skip rfl (by rfl) (fun K hK => ?_)
        try go_simp
        refine hK _ ?_
        clear hK K
        refine wpFk_skip rfl (by rfl) (fun K hK => ?_)
        try go_simp
        refine hK _ ?_
        clear hK K
        refine wpFk_skip rfl (by rfl) (fun K hK => ?_)
        try go_simp
        refine hK _ ?_
        clear hK K
        refine wpFk_skip rfl (by rfl) (fun K hK => ?_)
        try go_simp
        refine hK _ ?_
        clear hK K
        refine wpFk_skip rfl (by rfl) (fun K hK => ?_)
        try go_simp
        refine hK _ ?_
        clear hK K
        refine wpFk_skip rfl (by rfl) (fun K hK => ?_)
        try go_simp
        refine hK _ ?_
        clear hK K
        refine wpFk_skip rfl (by rfl) (fun K hK => ?_)
        try go_simp
        refine hK _ ?_
        clear hK K
        refine wpFk_skip rfl (by rfl) (fun K hK => ?_)
        try go_simp
        refine hK _ ?_
        clear hK K
        refine wpFk_skip rfl (by rfl) (fun K hK => ?_)
        try go_simp
        refine hK _ ?_
        clear hK K
        refine wpFk_skip rfl (by rfl) (fun K hK => ?_)
        try go_simp
        refine hK _ ?_
        clear hK K
        refine wpFk_skip rfl (by rfl) (fun K hK => ?_)
        try go_simp
        refine hK _ ?_
        clear hK K
        refine wpFk_skip rfl (by rfl) (fun K hK => ?_)
        try go_simp
        refine hK _ ?_
        clear hK K
        refine wpFk_get rfl (by rfl) (fun K hK => ?_)
        refine ⟨?_, fun w' hS' => ?_, ?_⟩
        rotate_left
        · go_simp
          try (with_reducible rfl)
        try go_simp
        refine hK _ ?_
        clear hK K
        refine wpFk_done ?_
        refine HQ.out _ _ ?_
        go_wp2
        go_meet
        exact ⟨by rw [hb20], HS⟩
      · have qb : (vb == 0) = false := by simpa using hb
        by_cases hy1 : y = d1
        · have NX := NQf hy1
          have hb20 : b20 = false := by rw [HB20.out]; simp [ha, hb, hy1]
          clear ha hb hy1
          refine wp_region_fk (KdH TR w v seed N DD g9 (sealV (I : Int) E (some ad) 3 c) (some ad) ps W0 ga gb gc (sealV (J : Int) E (some ad) 3 c) (sealV (I : Int) T2 (some ad) 3 c) (sealV (I : Int) E (some ⟨g2, 0, none⟩) 3 c2) g2 qs) (.get 0 (.get 2 (.get 3 (.get 4 (.call 1 (.call 5 (.get 6 (.get 7 (.get 8 (.get 10 (.get 11 (.get 12 (.call 9 (.call 13 (.get 14 (.get 15 (.get 16 (.get 17 (.get 18 (.get 19 (.get 20 (.get 21 (.get 22 (.get 23 (.get 24 (.get 25 (.get 26 (.get 27 (.get 28 (.get 29 (.get 30 (.get 31 (.get 32 (.get 33 (.get 34 (.get 35 (.get 36 (.get 37 .done)))))))))))))))))))))))))))))))))))))) (by kernel_rfl) rfl (by kernel_rfl) (by kernel_rfl) (by intro c a d v w h; cases d <;> exact h) (HN9.out.next (Below.refl _ _).drew) (fun Q' hQ => ?_)
          have HS := Lib.hid (HN9.out.next (Below.refl _ _).drew)
          have HQ := Lib.hid hQ
          clear hQ
          refine wpFk_get rfl (by rfl) (fun K hK => ?_)
          refine ⟨?_, fun w' hS' => ?_, ?_⟩
          rotate_left
          · go_simp
            try (with_reducible rfl)
          try go_simp
          refine hK _ ?_
          clear hK K
          refine wpFk_get rfl (by rfl) (fun K hK => ?_)
          refine ⟨?_, fun w' hS' => ?_, ?_⟩
          rotate_left
          · go_simp
            try (with_reducible rfl)
          try go_simp
          refine hK _ ?_
          clear hK K
          refine wpFk_get rfl (by rfl) (fun K hK => ?_)
          refine ⟨_, fun w' hS' => get_load rfl rfl (RD.out _ (hS'.k.old TS).dig).1, ?_⟩
          try go_simp
          refine hK _ ?_
          clear hK K
          refine wpFk_get rfl (by rfl) (fun K hK => ?_)
          refine ⟨_, fun w' hS' => get_loadS rfl rfl (hS'.k.ra.readS rfl), ?_⟩
          try go_simp
          refine hK _ ?_
          clear hK K
          refine wpFk_call rfl (by rfl) (fun K hK => ?_)
          go_simp
          have ho := HS.out.k.old TS
          have hp := HS.out.p
          go_at_call 10
          (with_reducible refine (XR.out _ _ ho.tab ho.tree).mono ?_)
          rintro e w2x ⟨rfl, hb⟩
          replace HS := Lib.hid (HS.out.next hb)
          clear hb
          clear ho hp
          refine hK _ _ HS.out ?_
          clear hK K
          refine wpFk_call rfl (by rfl) (fun K hK => ?_)
          go_simp
          have ho := HS.out.k.old TS
          have hp := HS.out.p
          go_at_call 16
          (with_reducible refine (QA.out _ ho.lst).mono ?_)
          rintro e w2x ⟨rfl, hb⟩
          replace HS := Lib.hid (HS.out.next hb)
          clear hb
          clear ho hp
          refine hK _ _ HS.out ?_
          clear hK K
          refine wpFk_get rfl (by rfl) (fun K hK => ?_)
          refine ⟨?_, fun w' hS' => ?_, ?_⟩
          rotate_left
          · go_simp
            try (with_reducible rfl)
          try go_simp
          refine hK _ ?_
          clear hK K
          refine wpFk_get rfl (by rfl) (fun K hK => ?_)
          refine ⟨?_, fun w' hS' => ?_, ?_⟩
          rotate_left
          · go_simp
            try (with_reducible rfl)
          try go_simp
          refine hK _ ?_
          clear hK K
          refine wpFk_get rfl (by rfl) (fun K hK => ?_)
          refine ⟨?_, fun w' hS' => ?_, ?_⟩
          rotate_left
          · go_simp
            try (with_reducible rfl)
          try go_simp
          refine hK _ ?_
          clear hK K
          refine wpFk_get rfl (by rfl) (fun K hK => ?_)
          refine ⟨?_, fun w' hS' => ?_, ?_⟩
          rotate_left
          · go_simp
            try (with_reducible rfl)
          try go_simp
          refine hK _ ?_
          clear hK K
          refine wpFk_get rfl (by rfl) (fun K hK => ?_)
          refine ⟨_, fun w' hS' => get_load rfl rfl (RD.out _ (hS'.k.old TS).dig).1, ?_⟩
          try go_simp
          refine hK _ ?_
          clear hK K
          refine wpFk_get rfl (by rfl) (fun K hK => ?_)
          refine ⟨_, fun w' hS' => get_loadS rfl rfl (hS'.k.rb.readS rfl), ?_⟩
          try go_simp
          refine hK _ ?_
          clear hK K
          refine wpFk_call rfl (by rfl) (fun K hK => ?_)
          go_simp
          have ho := HS.out.k.old TS
          have hp := HS.out.p
          go_at_call 10
          (with_reducible refine (XR.out _ _ ho.tab ho.tree).mono ?_)
          rintro e w2x ⟨rfl, hb⟩
          replace HS := Lib.hid (HS.out.next hb)
          clear hb
          clear ho hp
          refine hK _ _ HS.out ?_
          clear hK K
          refine wpFk_call rfl (by rfl) (fun K hK => ?_)
          go_simp
          have ho := HS.out.k.old TS
          have hp := HS.out.p
          go_at_call 16
          (with_reducible refine (QB.out _ ho.lst).mono ?_)
          rintro e w2x ⟨rfl, hb⟩
          replace HS := Lib.hid (HS.out.next hb)
          clear hb
          clear ho hp
          refine hK _ _ HS.out ?_
          clear hK K
          refine wpFk_get rfl (by rfl) (fun K hK => ?_)
          refine ⟨?_, fun w' hS' => ?_, ?_⟩
          rotate_left
          · go_simp
            try (with_reducible rfl)
          try go_simp
          refine hK _ ?_
          clear hK K
          refine wpFk_get rfl (by rfl) (fun K hK => ?_)
          refine ⟨?_, fun w' hS' => ?_, ?_⟩
          rotate_left
          · go_simp
            try (with_reducible rfl)
          try go_simp
          refine hK _ ?_
          clear hK K
          refine wpFk_get rfl (by rfl) (fun K hK => ?_)
          refine ⟨?_, fun w' hS' => ?_, ?_⟩
          rotate_left
          · go_simp
            try (with_reducible rfl)
          try go_simp
          refine hK _ ?_
          clear hK K
          refine wpFk_get rfl (by rfl) (fun K hK => ?_)
          refine ⟨?_, fun w' hS' => ?_, ?_⟩
          rotate_left
          · go_simp
            try (with_reducible rfl)
          try go_simp
          refine hK _ ?_
          clear hK K
          refine wpFk_get rfl (by rfl) (fun K hK => ?_)
          refine ⟨?_, fun w' hS' => ?_, ?_⟩
          rotate_left
          · have ⟨c0, c1, c2⟩ := seal_cells (hS'.k.old TS).seal_
            go_simp
            try (with_reducible rfl)
          try go_simp
          refine hK _ ?_
          clear hK K
          refine wpFk_get rfl (by rfl) (fun K hK => ?_)
          refine ⟨?_, fun w' hS' => ?_, ?_⟩
          rotate_left
          · go_simp
            try (with_reducible rfl)
          try go_simp
          refine hK _ ?_
          clear hK K
          refine wpFk_get rfl (by rfl) (fun K hK => ?_)
          refine ⟨?_, fun w' hS' => ?_, ?_⟩
          rotate_left
          · have ⟨c0, c1, c2⟩ := CL.out _ (hS'.k.old TS).num
            go_simp
            try (with_reducible rfl)
          try go_simp
          refine hK _ ?_
          clear hK K
          refine wpFk_get rfl (by rfl) (fun K hK => ?_)
          refine ⟨?_, fun w' hS' => ?_, ?_⟩
          rotate_left
          · go_simp
            try (with_reducible rfl)
          try go_simp
          refine hK _ ?_
          clear hK K
          refine wpFk_get rfl (by rfl) (fun K hK => ?_)
          refine ⟨?_, fun w' hS' => ?_, ?_⟩
          rotate_left
          · go_simp
            try (with_reducible rfl)
          try go_simp
          refine hK _ ?_
          clear hK K
          refine wpFk_get rfl (by rfl) (fun K hK => ?_)
          refine ⟨?_, fun w' hS' => ?_, ?_⟩
          rotate_left
          · go_simp
            try (with_reducible rfl)
          try go_simp
          refine hK _ ?_
          clear hK K
          refine wpFk_get rfl (by rfl) (fun K hK => ?_)
          refine ⟨_, fun w' hS' => get_load rfl rfl (RY.out _ (hS'.k.old TS).lst), ?_⟩
          try go_simp
          refine hK _ ?_
          clear hK K
          refine wpFk_get rfl (by rfl) (fun K hK => ?_)
          refine ⟨?_, fun w' hS' => ?_, ?_⟩
          rotate_left
          · go_simp
            try (with_reducible rfl)
          try go_simp
          refine hK _ ?_
          clear hK K
          refine wpFk_get rfl (by rfl) (fun K hK => ?_)
          refine ⟨_, fun w' hS' => get_load rfl rfl (RD.out _ (hS'.k.old TS).dig).2, ?_⟩
          try go_simp
          refine hK _ ?_
          clear hK K
          refine wpFk_get rfl (by rfl) (fun K hK => ?_)
          refine ⟨_, fun w' hS' => get_neqH rfl rfl rfl (NX.out _), ?_⟩
          try go_simp
          refine hK _ ?_
          clear hK K
          refine wpFk_get rfl (by rfl) (fun K hK => ?_)
          refine ⟨?_, fun w' hS' => ?_, ?_⟩
          rotate_left
          · go_simp
            try (with_reducible rfl)
          try go_simp
          refine hK _ ?_
          clear hK K
          refine wpFk_skip rfl (by rfl) (fun K hK => ?_)
          try go_simp
          refine hK _ ?_
          clear hK K
          refine wpFk_skip rfl (by rfl) (fun K hK => ?_)
          try go_simp
          refine hK _ ?_
          clear hK K
          refine wpFk_skip rfl (by rfl) (fun K hK => ?_)
          try go_simp
          refine hK _ ?_
          clear hK K
          refine wpFk_skip rfl (by rfl) (fun K hK => ?_)
          try go_simp
          refine hK _ ?_
          clear hK K
          refine wpFk_skip rfl (by rfl) (fun K hK => ?_)
          try go_simp
          refine hK _ ?_
          clear hK K
          refine wpFk_skip rfl (by rfl) (fun K hK => ?_)
          try go_simp
          refine hK _ ?_
          clear hK K
          refine wpFk_skip rfl (by rfl) (fun K hK => ?_)
          try go_simp
          refine hK _ ?_
          clear hK K
          refine wpFk_get rfl (by rfl) (fun K hK => ?_)
          refine ⟨?_, fun w' hS' => ?_, ?_⟩
          rotate_left
          · go_simp
            try (with_reducible rfl)
          try go_simp
          refine hK _ ?_
          clear hK K
          refine wpFk_get rfl (by rfl) (fun K hK => ?_)
          refine ⟨?_, fun w' hS' => ?_, ?_⟩
          rotate_left
          · go_simp
            try (with_reducible rfl)
          try go_simp
          refine hK _ ?_
          clear hK K
          refine wpFk_done ?_
          refine HQ.out _ _ ?_
          go_wp2
          go_meet
          exact ⟨by rw [hb20], HS⟩
        · have NX := NQt hy1
          have hb20 : b20 = (vc == 0) := by rw [HB20.out]; by_cases h2 : vc = 0 <;> simp [ha, hb, hy1, h2]
          clear ha hb hy1
          refine wp_region_fk (KdH TR w v seed N DD g9 (sealV (I : Int) E (some ad) 3 c) (some ad) ps W0 ga gb gc (sealV (J : Int) E (some ad) 3 c) (sealV (I : Int) T2 (some ad) 3 c) (sealV (I : Int) E (some ⟨g2, 0, none⟩) 3 c2) g2 qs) (.get 0 (.get 2 (.get 3 (.get 4 (.call 1 (.call 5 (.get 6 (.get 7 (.get 8 (.get 10 (.get 11 (.get 12 (.call 9 (.call 13 (.get 14 (.get 15 (.get 16 (.get 17 (.get 18 (.get 19 (.get 20 (.get 21 (.get 22 (.get 23 (.get 24 (.get 25 (.get 26 (.get 27 (.get 28 (.get 29 (.get 31 (.get 32 (.get 33 (.call 30 (.call 34 (.get 35 (.get 36 (.get 37 .done)))))))))))))))))))))))))))))))))))))) (by kernel_rfl) rfl (by kernel_rfl) (by kernel_rfl) (by intro c a d v w h; cases d <;> exact h) (HN9.out.next (Below.refl _ _).drew) (fun Q' hQ => ?_)
          have HS := Lib.hid (HN9.out.next (Below.refl _ _).drew)
          have HQ := Lib.hid hQ
          clear hQ
          refine wpFk_get rfl (by rfl) (fun K hK => ?_)
          refine ⟨?_, fun w' hS' => ?_, ?_⟩
          rotate_left
          · go_simp
            try (with_reducible rfl)
          try go_simp
          refine hK _ ?_
          clear hK K
          refine wpFk_get rfl (by rfl) (fun K hK => ?_)
          refine ⟨?_, fun w' hS' => ?_, ?_⟩
          rotate_left
          · go_simp
            try (with_reducible rfl)
          try go_simp
          refine hK _ ?_
          clear hK K
          refine wpFk_get rfl (by rfl) (fun K hK => ?_)
          refine ⟨_, fun w' hS' => get_load rfl rfl (RD.out _ (hS'.k.old TS).dig).1, ?_⟩
          try go_simp
          refine hK _ ?_
          clear hK K
          refine wpFk_get rfl (by rfl) (fun K hK => ?_)
          refine ⟨_, fun w' hS' => get_loadS rfl rfl (hS'.k.ra.readS rfl), ?_⟩
          try go_simp
          refine hK _ ?_
          clear hK K
          refine wpFk_call rfl (by rfl) (fun K hK => ?_)
          go_simp
          have ho := HS.out.k.old TS
          have hp := HS.out.p
          go_at_call 10
          (with_reducible refine (XR.out _ _ ho.tab ho.tree).mono ?_)
          rintro e w2x ⟨rfl, hb⟩
          replace HS := Lib.hid (HS.out.next hb)
          clear hb
          clear ho hp
          refine hK _ _ HS.out ?_
          clear hK K
          refine wpFk_call rfl (by rfl) (fun K hK => ?_)
          go_simp
          have ho := HS.out.k.old TS
          have hp := HS.out.p
          go_at_call 16
          (with_reducible refine (QA.out _ ho.lst).mono ?_)
          rintro e w2x ⟨rfl, hb⟩
          replace HS := Lib.hid (HS.out.next hb)
          clear hb
          clear ho hp
          refine hK _ _ HS.out ?_
          clear hK K
          refine wpFk_get rfl (by rfl) (fun K hK => ?_)
          refine ⟨?_, fun w' hS' => ?_, ?_⟩
          rotate_left
          · go_simp
            try (with_reducible rfl)
          try go_simp
          refine hK _ ?_
          clear hK K
          refine wpFk_get rfl (by rfl) (fun K hK => ?_)
          refine ⟨?_, fun w' hS' => ?_, ?_⟩
          rotate_left
          · go_simp
            try (with_reducible rfl)
          try go_simp
          refine hK _ ?_
          clear hK K
          refine wpFk_get rfl (by rfl) (fun K hK => ?_)
          refine ⟨?_, fun w' hS' => ?_, ?_⟩
          rotate_left
          · go_simp
            try (with_reducible rfl)
          try go_simp
          refine hK _ ?_
          clear hK K
          refine wpFk_get rfl (by rfl) (fun K hK => ?_)
          refine ⟨?_, fun w' hS' => ?_, ?_⟩
          rotate_left
          · go_simp
            try (with_reducible rfl)
          try go_simp
          refine hK _ ?_
          clear hK K
          refine wpFk_get rfl (by rfl) (fun K hK => ?_)
          refine ⟨_, fun w' hS' => get_load rfl rfl (RD.out _ (hS'.k.old TS).dig).1, ?_⟩
          try go_simp
          refine hK _ ?_
          clear hK K
          refine wpFk_get rfl (by rfl) (fun K hK => ?_)
          refine ⟨_, fun w' hS' => get_loadS rfl rfl (hS'.k.rb.readS rfl), ?_⟩
          try go_simp
          refine hK _ ?_
          clear hK K
          refine wpFk_call rfl (by rfl) (fun K hK => ?_)
          go_simp
          have ho := HS.out.k.old TS
          have hp := HS.out.p
          go_at_call 10
          (with_reducible refine (XR.out _ _ ho.tab ho.tree).mono ?_)
          rintro e w2x ⟨rfl, hb⟩
          replace HS := Lib.hid (HS.out.next hb)
          clear hb
          clear ho hp
          refine hK _ _ HS.out ?_
          clear hK K
          refine wpFk_call rfl (by rfl) (fun K hK => ?_)
          go_simp
          have ho := HS.out.k.old TS
          have hp := HS.out.p
          go_at_call 16
          (with_reducible refine (QB.out _ ho.lst).mono ?_)
          rintro e w2x ⟨rfl, hb⟩
          replace HS := Lib.hid (HS.out.next hb)
          clear hb
          clear ho hp
          refine hK _ _ HS.out ?_
          clear hK K
          refine wpFk_get rfl (by rfl) (fun K hK => ?_)
          refine ⟨?_, fun w' hS' => ?_, ?_⟩
          rotate_left
          · go_simp
            try (with_reducible rfl)
          try go_simp
          refine hK _ ?_
          clear hK K
          refine wpFk_get rfl (by rfl) (fun K hK => ?_)
          refine ⟨?_, fun w' hS' => ?_, ?_⟩
          rotate_left
          · go_simp
            try (with_reducible rfl)
          try go_simp
          refine hK _ ?_
          clear hK K
          refine wpFk_get rfl (by rfl) (fun K hK => ?_)
          refine ⟨?_, fun w' hS' => ?_, ?_⟩
          rotate_left
          · go_simp
            try (with_reducible rfl)
          try go_simp
          refine hK _ ?_
          clear hK K
          refine wpFk_get rfl (by rfl) (fun K hK => ?_)
          refine ⟨?_, fun w' hS' => ?_, ?_⟩
          rotate_left
          · go_simp
            try (with_reducible rfl)
          try go_simp
          refine hK _ ?_
          clear hK K
          refine wpFk_get rfl (by rfl) (fun K hK => ?_)
          refine ⟨?_, fun w' hS' => ?_, ?_⟩
          rotate_left
          · have ⟨c0, c1, c2⟩ := seal_cells (hS'.k.old TS).seal_
            go_simp
            try (with_reducible rfl)
          try go_simp
          refine hK _ ?_
          clear hK K
          refine wpFk_get rfl (by rfl) (fun K hK => ?_)
          refine ⟨?_, fun w' hS' => ?_, ?_⟩
          rotate_left
          · go_simp
            try (with_reducible rfl)
          try go_simp
          refine hK _ ?_
          clear hK K
          refine wpFk_get rfl (by rfl) (fun K hK => ?_)
          refine ⟨?_, fun w' hS' => ?_, ?_⟩
          rotate_left
          · have ⟨c0, c1, c2⟩ := CL.out _ (hS'.k.old TS).num
            go_simp
            try (with_reducible rfl)
          try go_simp
          refine hK _ ?_
          clear hK K
          refine wpFk_get rfl (by rfl) (fun K hK => ?_)
          refine ⟨?_, fun w' hS' => ?_, ?_⟩
          rotate_left
          · go_simp
            try (with_reducible rfl)
          try go_simp
          refine hK _ ?_
          clear hK K
          refine wpFk_get rfl (by rfl) (fun K hK => ?_)
          refine ⟨?_, fun w' hS' => ?_, ?_⟩
          rotate_left
          · go_simp
            try (with_reducible rfl)
          try go_simp
          refine hK _ ?_
          clear hK K
          refine wpFk_get rfl (by rfl) (fun K hK => ?_)
          refine ⟨?_, fun w' hS' => ?_, ?_⟩
          rotate_left
          · go_simp
            try (with_reducible rfl)
          try go_simp
          refine hK _ ?_
          clear hK K
          refine wpFk_get rfl (by rfl) (fun K hK => ?_)
          refine ⟨_, fun w' hS' => get_load rfl rfl (RY.out _ (hS'.k.old TS).lst), ?_⟩
          try go_simp
          refine hK _ ?_
          clear hK K
          refine wpFk_get rfl (by rfl) (fun K hK => ?_)
          refine ⟨?_, fun w' hS' => ?_, ?_⟩
          rotate_left
          · go_simp
            try (with_reducible rfl)
          try go_simp
          refine hK _ ?_
          clear hK K
          refine wpFk_get rfl (by rfl) (fun K hK => ?_)
          refine ⟨_, fun w' hS' => get_load rfl rfl (RD.out _ (hS'.k.old TS).dig).2, ?_⟩
          try go_simp
          refine hK _ ?_
          clear hK K
          refine wpFk_get rfl (by rfl) (fun K hK => ?_)
          refine ⟨_, fun w' hS' => get_neqH rfl rfl rfl (NX.out _), ?_⟩
          try go_simp
          refine hK _ ?_
          clear hK K
          refine wpFk_get rfl (by rfl) (fun K hK => ?_)
          refine ⟨?_, fun w' hS' => ?_, ?_⟩
          rotate_left
          · go_simp
            try (with_reducible rfl)
          try go_simp
          refine hK _ ?_
          clear hK K
          refine wpFk_get rfl (by rfl) (fun K hK => ?_)
          refine ⟨?_, fun w' hS' => ?_, ?_⟩
          rotate_left
          · go_simp
            try (with_reducible rfl)
          try go_simp
          refine hK _ ?_
          clear hK K
          refine wpFk_get rfl (by rfl) (fun K hK => ?_)
          refine ⟨?_, fun w' hS' => ?_, ?_⟩
          rotate_left
          · go_simp
            try (with_reducible rfl)
          try go_simp
          refine hK _ ?_
          clear hK K
          refine wpFk_get rfl (by rfl) (fun K hK => ?_)
          refine ⟨_, fun w' hS' => get_load rfl rfl (RD.out _ (hS'.k.old TS).dig).1, ?_⟩
          try go_simp
          refine hK _ ?_
          clear hK K
          refine wpFk_get rfl (by rfl) (fun K hK => ?_)
          refine ⟨_, fun w' hS' => get_loadS rfl rfl (hS'.k.rc.readS rfl), ?_⟩
          try go_simp
          refine hK _ ?_
          clear hK K
          refine wpFk_call rfl (by rfl) (fun K hK => ?_)
          go_simp
          have ho := HS.out.k.old TS
          have hp := HS.out.p
          go_at_call 10
          (with_reducible refine (XR.out _ _ ho.tab ho.tree).mono ?_)
          rintro e w2x ⟨rfl, hb⟩
          replace HS := Lib.hid (HS.out.next hb)
          clear hb
          clear ho hp
          refine hK _ _ HS.out ?_
          clear hK K
          refine wpFk_call rfl (by rfl) (fun K hK => ?_)
          go_simp
          have ho := HS.out.k.old TS
          have hp := HS.out.p
          go_at_call 16
          (with_reducible refine (QC.out _ hp.lst).mono ?_)
          rintro e w2x ⟨rfl, hb⟩
          replace HS := Lib.hid (HS.out.next hb)
          clear hb
          clear ho hp
          refine hK _ _ HS.out ?_
          clear hK K
          refine wpFk_get rfl (by rfl) (fun K hK => ?_)
          refine ⟨?_, fun w' hS' => ?_, ?_⟩
          rotate_left
          · go_simp
            try (with_reducible rfl)
          try go_simp
          refine hK _ ?_
          clear hK K
          refine wpFk_get rfl (by rfl) (fun K hK => ?_)
          refine ⟨?_, fun w' hS' => ?_, ?_⟩
          rotate_left
          · go_simp
            try (with_reducible rfl)
          try go_simp
          refine hK _ ?_
          clear hK K
          refine wpFk_get rfl (by rfl) (fun K hK => ?_)
          refine ⟨?_, fun w' hS' => ?_, ?_⟩
          rotate_left
          · go_simp
            try (with_reducible rfl)
          try go_simp
          refine hK _ ?_
          clear hK K
          refine wpFk_done ?_
          refine HQ.out _ _ ?_
          go_wp2
          go_meet
          exact ⟨by rw [hb20], HS⟩
  case rest =>
  obtain ⟨rfl, HC20⟩ := hcut
  clear HN9 HK9 NQt NQf
  by_cases hb20 : b20 = true
  · subst hb20
    have ht20 := (HC20.out.k.old TS).tab
    go_wp2_with (go_at_call 7; (with_reducible refine (KED.out _ ht20).mono ?_); rintro e w9 ⟨rfl, hb⟩; have HZ := Lib.hid (below_new (HC20.out.k.old TS).below hb); clear hb)
    go_ret
    exact ⟨rfl, HZ.out⟩
  obtain rfl : b20 = false := by simpa using hb20
  have NB : ¬ (va = 0 ∨ vb = 0 ∨ (y ≠ d1 ∧ vc = 0)) := fun h => by have := HB20.out; rw [decide_eq_true h] at this; cases this
  have ea : va = 81 := by rw [hva.out]; exact verF_two _ _ _ _ _ JI.out.1 (fun h => NB (.inl (by rw [hva.out]; exact h)))
  have eb : vb = 81 := by rw [hvb.out]; exact verF_two _ _ _ _ _ HI8.out (fun h => NB (.inr (.inl (by rw [hvb.out]; exact h))))
  have Fa : (va != 81) = false := by rw [ea]; rfl
  have Fb : (vb != 81) = false := by rw [eb]; rfl
  obtain ⟨z, hz⟩ : ∃ z, Hid (z = decide (y = d1)) := ⟨_, Lib.hid rfl⟩
  have EZY : Hid (∀ W, (eqAt (.agg Y) (.agg D1)).run Tryd.prog W = .ok (.bool z) W) := Lib.hid fun W => by rw [hz.out, hY.out, hD1.out, eqAt_hash y d1 y32.out.1 HD.out.2.1 y32.out.2 HD.out.2.2 W]
  have Fc : (vc == 0) = z := by
    rw [hz.out]
    by_cases h : y = d1
    · rw [decide_eq_true h, hvc.out, QSY.out h, VOWN.out]; rfl
    · rw [decide_eq_false h]; simpa using fun hq => NB (.inr (.inr ⟨h, hq⟩))
  clear NB ea eb hb20
  go_upto_region 22 with fail
  refine wp_region_fk (KdH TR w v seed N DD g9 (sealV (I : Int) E (some ad) 3 c) (some ad) ps W0 ga gb gc (sealV (J : Int) E (some ad) 3 c) (sealV (I : Int) T2 (some ad) 3 c) (sealV (I : Int) E (some ⟨g2, 0, none⟩) 3 c2) g2 qs) (.get 0 (.get 2 (.get 3 (.get 4 (.call 1 (.call 5 (.get 6 (.get 7 (.get 8 (.get 10 (.get 11 (.get 12 (.call 9 (.call 13 (.get 14 (.get 15 .done)))))))))))))))) (by kernel_rfl) rfl (by kernel_rfl) (by kernel_rfl) (by intro c a d v w h; cases d <;> exact h) (HC20.out.next (Below.refl _ _).drew) (fun Q' hQ => ?_)
  have HS := Lib.hid (HC20.out.next (Below.refl _ _).drew)
  have HQ := Lib.hid hQ
  clear hQ
  refine wpFk_get rfl (by rfl) (fun K hK => ?_)
  refine ⟨?_, fun w' hS' => ?_, ?_⟩
  rotate_left
  · go_simp
    try (with_reducible rfl)
  try go_simp
  refine hK _ ?_
  clear hK K
  refine wpFk_get rfl (by rfl) (fun K hK => ?_)
  refine ⟨?_, fun w' hS' => ?_, ?_⟩
  rotate_left
  · go_simp
    try (with_reducible rfl)
  try go_simp
  refine hK _ ?_
  clear hK K
  refine wpFk_get rfl (by rfl) (fun K hK => ?_)
  refine ⟨_, fun w' hS' => get_load rfl rfl (RD.out _ (hS'.k.old TS).dig).1, ?_⟩
  try go_simp
  refine hK _ ?_
  clear hK K
  refine wpFk_get rfl (by rfl) (fun K hK => ?_)
  refine ⟨_, fun w' hS' => get_loadS rfl rfl (hS'.k.ra.readS rfl), ?_⟩
  try go_simp
  refine hK _ ?_
  clear hK K
  refine wpFk_call rfl (by rfl) (fun K hK => ?_)
  go_simp
  have ho := HS.out.k.old TS
  have hp := HS.out.p
  go_at_call 10
  (with_reducible refine (XR.out _ _ ho.tab ho.tree).mono ?_)
  rintro e w2x ⟨rfl, hb⟩
  replace HS := Lib.hid (HS.out.next hb)
  clear hb
  clear ho hp
  refine hK _ _ HS.out ?_
  clear hK K
  refine wpFk_call rfl (by rfl) (fun K hK => ?_)
  go_simp
  have ho := HS.out.k.old TS
  have hp := HS.out.p
  go_at_call 15
  (with_reducible refine (PA.out _ ho.tab ho.lst).mono ?_)
  rintro e w2x ⟨rfl, hb⟩
  replace HS := Lib.hid (HS.out.next hb)
  clear hb
  clear ho hp
  refine hK _ _ HS.out ?_
  clear hK K
  refine wpFk_get rfl (by rfl) (fun K hK => ?_)
  refine ⟨?_, fun w' hS' => ?_, ?_⟩
  rotate_left
  · go_simp
    try (with_reducible rfl)
  try go_simp
  refine hK _ ?_
  clear hK K
  refine wpFk_get rfl (by rfl) (fun K hK => ?_)
  refine ⟨?_, fun w' hS' => ?_, ?_⟩
  rotate_left
  · go_simp
    try (with_reducible rfl)
  try go_simp
  refine hK _ ?_
  clear hK K
  refine wpFk_get rfl (by rfl) (fun K hK => ?_)
  refine ⟨?_, fun w' hS' => ?_, ?_⟩
  rotate_left
  · go_simp
    try (with_reducible rfl)
  try go_simp
  refine hK _ ?_
  clear hK K
  refine wpFk_get rfl (by rfl) (fun K hK => ?_)
  refine ⟨?_, fun w' hS' => ?_, ?_⟩
  rotate_left
  · go_simp
    try (with_reducible rfl)
  try go_simp
  refine hK _ ?_
  clear hK K
  refine wpFk_get rfl (by rfl) (fun K hK => ?_)
  refine ⟨_, fun w' hS' => get_load rfl rfl (RD.out _ (hS'.k.old TS).dig).1, ?_⟩
  try go_simp
  refine hK _ ?_
  clear hK K
  refine wpFk_get rfl (by rfl) (fun K hK => ?_)
  refine ⟨_, fun w' hS' => get_loadS rfl rfl (hS'.k.rb.readS rfl), ?_⟩
  try go_simp
  refine hK _ ?_
  clear hK K
  refine wpFk_call rfl (by rfl) (fun K hK => ?_)
  go_simp
  have ho := HS.out.k.old TS
  have hp := HS.out.p
  go_at_call 10
  (with_reducible refine (XR.out _ _ ho.tab ho.tree).mono ?_)
  rintro e w2x ⟨rfl, hb⟩
  replace HS := Lib.hid (HS.out.next hb)
  clear hb
  clear ho hp
  refine hK _ _ HS.out ?_
  clear hK K
  refine wpFk_call rfl (by rfl) (fun K hK => ?_)
  go_simp
  have ho := HS.out.k.old TS
  have hp := HS.out.p
  go_at_call 15
  (with_reducible refine (PB.out _ ho.tab ho.lst).mono ?_)
  rintro e w2x ⟨rfl, hb⟩
  replace HS := Lib.hid (HS.out.next hb)
  clear hb
  clear ho hp
  refine hK _ _ HS.out ?_
  clear hK K
  refine wpFk_get rfl (by rfl) (fun K hK => ?_)
  refine ⟨?_, fun w' hS' => ?_, ?_⟩
  rotate_left
  · go_simp
    try (with_reducible rfl)
  try go_simp
  refine hK _ ?_
  clear hK K
  refine wpFk_get rfl (by rfl) (fun K hK => ?_)
  refine ⟨?_, fun w' hS' => ?_, ?_⟩
  rotate_left
  · go_simp
    try (with_reducible rfl)
  try go_simp
  refine hK _ ?_
  clear hK K
  refine wpFk_done ?_
  refine HQ.out _ _ ?_
  have HS22 := HS
  clear HQ HS HC20
  obtain ⟨t4, t6, tk⟩ := TH.out
  have tk2 : (k : Int) < 3 := by omega
  have tk3 : (0 : Int) ≤ (k : Int) := by omega
  go_upto_region 24 with fail
  refine wp_region_fk (KdH TR w v seed N DD g9 (sealV (I : Int) E (some ad) 3 c) (some ad) ps W0 ga gb gc (sealV (J : Int) E (some ad) 3 c) (sealV (I : Int) T2 (some ad) 3 c) (sealV (I : Int) E (some ⟨g2, 0, none⟩) 3 c2) g2 qs) (.get 0 (.get 2 (.get 3 (.get 4 (.get 7 (.get 8 (.get 9 (.get 10 (.get 11 (.get 12 (.get 13 (.get 14 (.get 15 (.get 16 (.get 17 (.call 1 (.call 5 (.get 6 (.get 18 (.get 19 (.call 20 (.get 21 (.get 22 .done))))))))))))))))))))))) (by kernel_rfl) rfl (by kernel_rfl) (by kernel_rfl) (by intro c a d v w h; cases d <;> exact h) (HS22.out.next (Below.refl _ _).drew) (fun Q' hQ => ?_)
  have HS := Lib.hid (HS22.out.next (Below.refl _ _).drew)
  have HQ := Lib.hid hQ
  clear hQ
  refine wpFk_get rfl (by rfl) (fun K hK => ?_)
  refine ⟨?_, fun w' hS' => ?_, ?_⟩
  rotate_left
  · go_simp
    try (with_reducible rfl)
  try go_simp
  refine hK _ ?_
  clear hK K
  refine wpFk_get rfl (by rfl) (fun K hK => ?_)
  refine ⟨?_, fun w' hS' => ?_, ?_⟩
  rotate_left
  · go_simp
    try (with_reducible rfl)
  try go_simp
  refine hK _ ?_
  clear hK K
  refine wpFk_get rfl (by rfl) (fun K hK => ?_)
  refine ⟨_, fun w' hS' => get_load rfl rfl (RD.out _ (hS'.k.old TS).dig).1, ?_⟩
  try go_simp
  refine hK _ ?_
  clear hK K
  refine wpFk_get rfl (by rfl) (fun K hK => ?_)
  refine ⟨_, fun w' hS' => get_loadS rfl rfl (hS'.k.rc.readS rfl), ?_⟩
  try go_simp
  refine hK _ ?_
  clear hK K
  refine wpFk_get rfl (by rfl) (fun K hK => ?_)
  refine ⟨?_, fun w' hS' => ?_, ?_⟩
  rotate_left
  · go_simp
    try (with_reducible rfl)
  try go_simp
  refine hK _ ?_
  clear hK K
  refine wpFk_get rfl (by rfl) (fun K hK => ?_)
  refine ⟨?_, fun w' hS' => ?_, ?_⟩
  rotate_left
  · have ⟨c0, c1, c2⟩ := seal_cells (hS'.k.old TS).seal_
    go_simp
    try (with_reducible rfl)
  try go_simp
  refine hK _ ?_
  clear hK K
  refine wpFk_get rfl (by rfl) (fun K hK => ?_)
  refine ⟨?_, fun w' hS' => ?_, ?_⟩
  rotate_left
  · go_simp
    try (with_reducible rfl)
  try go_simp
  refine hK _ ?_
  clear hK K
  refine wpFk_get rfl (by rfl) (fun K hK => ?_)
  refine ⟨?_, fun w' hS' => ?_, ?_⟩
  rotate_left
  · have ⟨c0, c1, c2⟩ := CL.out _ (hS'.k.old TS).num
    go_simp
    try (with_reducible rfl)
  try go_simp
  refine hK _ ?_
  clear hK K
  refine wpFk_get rfl (by rfl) (fun K hK => ?_)
  refine ⟨?_, fun w' hS' => ?_, ?_⟩
  rotate_left
  · go_simp
    try (with_reducible rfl)
  try go_simp
  refine hK _ ?_
  clear hK K
  refine wpFk_get rfl (by rfl) (fun K hK => ?_)
  refine ⟨?_, fun w' hS' => ?_, ?_⟩
  rotate_left
  · go_simp
    try (with_reducible rfl)
  try go_simp
  refine hK _ ?_
  clear hK K
  refine wpFk_get rfl (by rfl) (fun K hK => ?_)
  refine ⟨?_, fun w' hS' => ?_, ?_⟩
  rotate_left
  · go_simp
    try (with_reducible rfl)
  try go_simp
  refine hK _ ?_
  clear hK K
  refine wpFk_get rfl (by rfl) (fun K hK => ?_)
  refine ⟨_, fun w' hS' => get_load rfl rfl (RY.out _ (hS'.k.old TS).lst), ?_⟩
  try go_simp
  refine hK _ ?_
  clear hK K
  refine wpFk_get rfl (by rfl) (fun K hK => ?_)
  refine ⟨?_, fun w' hS' => ?_, ?_⟩
  rotate_left
  · go_simp
    try (with_reducible rfl)
  try go_simp
  refine hK _ ?_
  clear hK K
  refine wpFk_get rfl (by rfl) (fun K hK => ?_)
  refine ⟨_, fun w' hS' => get_load rfl rfl (RD.out _ (hS'.k.old TS).dig).2, ?_⟩
  try go_simp
  refine hK _ ?_
  clear hK K
  refine wpFk_get rfl (by rfl) (fun K hK => ?_)
  refine ⟨_, fun w' hS' => get_eqH rfl rfl rfl (EZY.out _), ?_⟩
  try go_simp
  refine hK _ ?_
  clear hK K
  refine wpFk_call rfl (by rfl) (fun K hK => ?_)
  go_simp
  have ho := HS.out.k.old TS
  have hp := HS.out.p
  go_at_call 10
  (with_reducible refine (XR.out _ _ ho.tab ho.tree).mono ?_)
  rintro e w2x ⟨rfl, hb⟩
  replace HS := Lib.hid (HS.out.next hb)
  clear hb
  clear ho hp
  refine hK _ _ HS.out ?_
  clear hK K
  refine wpFk_call rfl (by rfl) (fun K hK => ?_)
  go_simp
  have ho := HS.out.k.old TS
  have hp := HS.out.p
  go_at_call 15
  (with_reducible refine (PC.out _ ho.tab hp.lst).mono ?_)
  rintro e w2x ⟨rfl, hb⟩
  replace HS := Lib.hid (HS.out.next hb)
  clear hb
  clear ho hp
  refine hK _ _ HS.out ?_
  clear hK K
  refine wpFk_get rfl (by rfl) (fun K hK => ?_)
  refine ⟨?_, fun w' hS' => ?_, ?_⟩
  rotate_left
  · go_simp
    try (with_reducible rfl)
  try go_simp
  refine hK _ ?_
  clear hK K
  refine wpFk_get rfl (by rfl) (fun K hK => ?_)
  refine ⟨?_, fun w' hS' => ?_, ?_⟩
  rotate_left
  · go_simp
    try (with_reducible rfl)
  try go_simp
  refine hK _ ?_
  clear hK K
  refine wpFk_get rfl (by rfl) (fun K hK => ?_)
  refine ⟨?_, fun w' hS' => ?_, ?_⟩
  rotate_left
  · go_simp
    try (with_reducible rfl)
  try go_simp
  refine hK _ ?_
  clear hK K
  refine wpFk_call rfl (by rfl) (fun K hK => ?_)
  go_simp
  have ho := HS.out.k.old TS
  go_at_call 7
  (with_reducible refine (KED.out _ ho.tab).mono ?_)
  rintro e w2x ⟨rfl, hb⟩
  replace HS := Lib.hid (HS.out.next hb)
  clear hb ho
  refine hK _ _ HS.out ?_
  clear hK K
  refine wpFk_get rfl (by rfl) (fun K hK => ?_)
  refine ⟨?_, fun w' hS' => ?_, ?_⟩
  rotate_left
  · go_simp
    try (with_reducible rfl)
  try go_simp
  refine hK _ ?_
  clear hK K
  refine wpFk_get rfl (by rfl) (fun K hK => ?_)
  refine ⟨?_, fun w' hS' => ?_, ?_⟩
  rotate_left
  · go_simp
    try (with_reducible rfl)
  try go_simp
  refine hK _ ?_
  clear hK K
  refine wpFk_done ?_
  refine HQ.out _ _ ?_
  go_wp2
  go_ret
  exact ⟨rfl, (HS.out.k.old TS).below⟩
end Go.Proofs.YtgnkdkehooagpaaDoor
