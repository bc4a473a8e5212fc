/-
  Several texts in one (a claim has room for 60 files): KeyBackC.
-/
import Derived.Test.YtgnkdkehooagpaaDoorPk91
namespace Go.Proofs.YtgnkdkehooagpaaDoor
open Go.RowKit Go.Great
set_option linter.unusedVariables false
set_option maxRecDepth 100000

attribute [local go_sem ↓ high] read_at write_at read_s write_s eq_at neq_at
set_option maxHeartbeats 16000000 in
theorem keyback_three {TR : World → Value → ByteArray → Prop} {w : World} {seed : ByteArray} {n0 n1 n2 : Int} {d0 d1 : List Int} {I : Nat} {N DD D0 D1 : Array Value} {E : ByteArray} {ps : List (List Int)} {rt : List Int} {R : Array Value} (HB : BackH TR w seed n0 n1 n2 d0 d1 I N DD D0 D1 E ps rt R) (g9 ga gb gc c : Nat) (v : Value) (A : Option Addr) (W0 wc : World) (HC0 : 3 ≤ c ∧ c ≤ maxLen)
    (HK0 : KcH TR w v seed N DD g9 (sealV (I : Int) E A 3 c) A ps W0 ga gb gc (sealV (I : Int) E A 3 c) (sealV (I : Int) E A 3 c) (sealV (I : Int) E A 3 c) wc) (u3 u14 u15 u16 u17 u18 u19 u20 u21 u22 u23 u24 u25 u26 u27 u28 u29 u30 u31 u32 u33 u34 u35 u36 u37 u38 u39 u40 u41 u42 u43 u44 u45 u46 u47 u48 u49 u50 u51 u52 u53 u54 u55 u56 u57 u58 u59 u60 u61 u62 u63 u64 u65 u66 u67 u68 u69 u70 u71 u72 u73 u74 u75 u76 u77 u78 u79 u80 u81 u82 u83 u84 u85 u86 u87 u88 u89 u90 u91 u92 u93 u94 u95 u96 u97 u98 u99 u100 u101 u102 u103 u104 u105 u106 u107 u108 u109 u110 u111 u112 u113 u114 u115 u116 u117 u118 u119 u120 u121 u122 u123 u124 u125 u126 u127 u128 u129 u130 u131 u132 u133 u134 u135 u136 u137 u138 u139 u140 u141 u142 u143 u144 u145 u146 u147 u148 u149 u150 u151 u152 u153 u154 u155 u156 u157 u158 u159 u160 u161 u162 u163 u164 u165 u166 u167 u168 u169 u170 u171 u172 u173 u174 u175 u176 u177 u178 u179 u180 u181 u182 u183 u184 u185 u186 u187 u188 u189 u190 u191 u192 u193 u194 u195 u196 u197 u198 u199 u200 u201 u202 u203 u204 u205 u206 u207 u208 u209 u210 u211 u212 u213 u214 u215 u216 u217 u218 u219 u220 u221 u222 u223 u224 u225 u226 u227 u228 u229 u230 u231 u232 u233 u234 u235 u236 u237 u238 u239 u240 u241 u242 : Value) :
    Code.wp Tryd.prog (codeTail Tryd.f6.body 9) (bodyPost Tryd.prog Tryd.f6 fun e w' => e = .returned (.bool true) ∧ Below w.heap.size w w') ⟨(.string seed :: .agg N :: .agg DD :: u3 :: .pointer (some ⟨w.heap.size, 0, none⟩) :: .pointer (some ⟨w.heap.size + 1, 0, none⟩) :: .bool false :: v :: .int .i64 (I : Int) :: .pointer (some ⟨g9, 0, none⟩) :: .int .i64 0 :: .pointer (some ⟨ga, 0, none⟩) :: .pointer (some ⟨gb, 0, none⟩) :: .pointer (some ⟨gc, 0, none⟩) :: u14 :: u15 :: u16 :: u17 :: u18 :: u19 :: u20 :: u21 :: u22 :: u23 :: u24 :: u25 :: u26 :: u27 :: u28 :: u29 :: u30 :: u31 :: u32 :: u33 :: u34 :: u35 :: u36 :: u37 :: u38 :: u39 :: u40 :: u41 :: u42 :: u43 :: u44 :: u45 :: u46 :: u47 :: u48 :: u49 :: u50 :: u51 :: u52 :: u53 :: u54 :: u55 :: u56 :: u57 :: u58 :: u59 :: u60 :: u61 :: u62 :: u63 :: u64 :: u65 :: u66 :: u67 :: u68 :: u69 :: u70 :: u71 :: u72 :: u73 :: u74 :: u75 :: u76 :: u77 :: u78 :: u79 :: u80 :: u81 :: u82 :: u83 :: u84 :: u85 :: u86 :: u87 :: u88 :: u89 :: u90 :: u91 :: u92 :: u93 :: u94 :: u95 :: u96 :: u97 :: u98 :: u99 :: u100 :: u101 :: u102 :: u103 :: u104 :: u105 :: u106 :: u107 :: u108 :: u109 :: u110 :: u111 :: u112 :: u113 :: u114 :: u115 :: u116 :: u117 :: u118 :: u119 :: u120 :: u121 :: u122 :: u123 :: u124 :: u125 :: u126 :: u127 :: u128 :: u129 :: u130 :: u131 :: u132 :: u133 :: u134 :: u135 :: u136 :: u137 :: u138 :: u139 :: u140 :: u141 :: u142 :: u143 :: u144 :: u145 :: u146 :: u147 :: u148 :: u149 :: u150 :: u151 :: u152 :: u153 :: u154 :: u155 :: u156 :: u157 :: u158 :: u159 :: u160 :: u161 :: u162 :: u163 :: u164 :: u165 :: u166 :: u167 :: u168 :: u169 :: u170 :: u171 :: u172 :: u173 :: u174 :: u175 :: u176 :: u177 :: u178 :: u179 :: u180 :: u181 :: u182 :: u183 :: u184 :: u185 :: u186 :: u187 :: u188 :: u189 :: u190 :: u191 :: u192 :: u193 :: u194 :: u195 :: u196 :: u197 :: u198 :: u199 :: u200 :: u201 :: u202 :: u203 :: u204 :: u205 :: u206 :: u207 :: u208 :: u209 :: u210 :: u211 :: u212 :: u213 :: u214 :: u215 :: u216 :: u217 :: u218 :: u219 :: u220 :: u221 :: u222 :: u223 :: u224 :: u225 :: u226 :: u227 :: u228 :: u229 :: u230 :: u231 :: u232 :: u233 :: u234 :: u235 :: u236 :: u237 :: u238 :: u239 :: u240 :: u241 :: u242 :: ([] : List Value)).toArray, []⟩ wc := by
  have TS := HB.ts
  have KED := Lib.hid HB.ked
  have CL := Lib.hid HB.cl
  have RD := Lib.hid HB.rd
  have hD0 := Lib.hid HB.eD0
  have hD1 := Lib.hid HB.eD1
  have HD := Lib.hid HB.hd
  have hR := Lib.hid HB.eR
  have rt32 := Lib.hid HB.rt32
  have HI8 := Lib.hid HB.hI8
  have EZ := Lib.hid HB.ez
  have lps := Lib.hid HB.lps
  have hhp := Lib.hid HB.hhp
  have XR := Lib.hid HB.xr
  have VOWN := Lib.hid HB.vown
  have HN := Lib.hid HB.hn
  have VP := Lib.hid (ver_three TS)
  have VQ := Lib.hid ref_three
  have NI : Hid (num64 (I : Int)) := Lib.hid (by have := HI8.out; unfold num64; omega)
  have EM : Hid (E.size ≤ maxLen) := Lib.hid (by rw [EZ.out]; decide)
  have hw1 : IntKind.i64.wrap n1 = n1 := by have := HN.out.2.1; rw [IntKind.wrap_i64]; omega
  have hw2 : IntKind.i64.wrap n2 = n2 := by have := HN.out.2.2; rw [IntKind.wrap_i64]; omega
  have HC := Lib.hid HC0
  have HK := Lib.hid HK0
  clear HC0 HK0
  obtain ⟨ad, rfl⟩ : ∃ ad, A = some ad := HL.some (HK.out.old TS).lst 0 (by rw [lps.out]; decide)
  have hEi : (E.size : Int) = 16384 := by have := EZ.out; omega
  have j8 : wrap64 n1 = n1 := wrap_two' _ HN.out.2.1.1 HN.out.2.1.2
  have j9 : wrap64 n2 = n2 := wrap_two' _ HN.out.2.2.1 HN.out.2.2.2
  obtain ⟨q, J, KH, JI⟩ : ∃ q J : Nat, Hid ((IntKind.i64.wrap ((I : Int) + 1) = (I : Int) + 1 ∧ n1.tmod 7 = (q : Int) ∧ wrap64 (q : Int) = (q : Int)) ∧ IntKind.i64.wrap ((I : Int) + 1 + (q : Int)) = (I : Int) + 1 + (q : Int) ∧ ((I : Int) + 1 + (q : Int)).tmod 8 = (J : Int) ∧ wrap64 (J : Int) = (J : Int)) ∧ Hid (J < 8 ∧ J ≠ I) := by
    obtain ⟨q, J, h1, h2⟩ := index_facts I n1.toNat HI8.out
    rw [Int.toNat_of_nonneg HN.out.2.1.1] at h1
    exact ⟨q, J, Lib.hid h1, Lib.hid h2⟩
  obtain ⟨j, MH⟩ : ∃ j : Nat, Hid (n1.tmod 16384 = (j : Int) ∧ wrap64 (j : Int) = (j : Int) ∧ j < 16384) := by
    obtain ⟨j, h⟩ := place_facts n1.toNat
    rw [Int.toNat_of_nonneg HN.out.2.1.1] at h
    exact ⟨j, Lib.hid h⟩
  obtain ⟨k, TH⟩ : ∃ k : Nat, Hid (n2.tmod 3 = (k : Int) ∧ wrap64 (k : Int) = (k : Int) ∧ k < 3) := by
    obtain ⟨k, h⟩ := third_facts n2.toNat
    rw [Int.toNat_of_nonneg HN.out.2.2.1] at h
    exact ⟨k, Lib.hid h⟩
  have HBK := Lib.hid HB
  clear HB
  refine tail_wp rfl ?_
  obtain ⟨c0, c1, c2⟩ := CL.out _ (HK.out.old TS).num
  obtain ⟨a0, a1, a2⟩ := seal_cells HK.out.ra
  have f0 := HK.out.ra.free 0
  obtain ⟨⟨k1, k2, k3⟩, k4, k5, k6⟩ := KH.out
  go_upto_region 14 with fail
  clear c0 c1 c2 a0 a1 a2 f0 k1 k2 k3 k4 k5 k6
  refine world_gen (fun X => KcH TR w v seed N DD g9 (sealV (I : Int) E (some ad) 3 c) (some ad) ps W0 ga gb gc (sealV (J : Int) E (some ad) 3 c) (sealV (I : Int) E (some ad) 3 c) (sealV (I : Int) E (some ad) 3 c) X) (HK.out.putA 0 _) (fun X13 HX => ?_)
  have HK3 := Lib.hid HX
  clear HX HK
  obtain ⟨b0, b1, b2⟩ := seal_cells (HK3.out.old TS).seal_
  obtain ⟨wb, cap, cv, hG, hBl⟩ := conv_text X13 E
  rw [EZ.out] at cv hG
  have HK4 := Lib.hid (HK3.out.next hBl.out)
  have HG : Hid (Got wb X13.heap.size X13.heap.size cap (textL E) 16384) := Lib.hid hG.out
  have L4 : Hid (W0.heap.size ≤ X13.heap.size ∧ ga < X13.heap.size ∧ gb < X13.heap.size ∧ gc < X13.heap.size) := Lib.hid ⟨HK3.out.b0.size, HK3.out.ra.lt, HK3.out.rb.lt, HK3.out.rc.lt⟩
  go_upto_region 15 with fail
  clear cv b0 b1 b2 hG hBl HK3
  obtain ⟨g14, hg⟩ : ∃ g, g = X13.heap.size := ⟨_, rfl⟩
  rw [← hg] at HG L4 ⊢
  clear hg
  obtain ⟨c0, c1, c2⟩ := CL.out _ (HK4.out.old TS).num
  obtain ⟨m4, m6, mj⟩ := MH.out
  go_upto_region 16 with fail
  clear c0 c1 c2 m4 m6 mj
  obtain ⟨m4, m6, mj⟩ := MH.out
  have mj2 : (j : Int) < 16384 := by omega
  have mj3 : (0 : Int) ≤ (j : Int) := by omega
  have cT := HG.out.drew.cell j mj
  have fT := HG.out.drew.free j mj
  obtain ⟨c0, c1, c2⟩ := CL.out _ (HK4.out.old TS).num.drew
  refine wp_region_still_tail 13 (by kernel_rfl) (by kernel_rfl) ?_
  simp only [List.take_succ_cons, List.take_zero, List.drop_succ_cons, List.drop_zero]
  refine wpStill_hide (fun Q' hQ => ?_)
  have HQ := Lib.hid hQ
  clear hQ
  iterate 13 ((refine (wpStill_step (fun K hK => ?_) : wpStill _ _ _ _ (_ :: _) _)); go_simp; refine hK _ ?_; clear hK K)
  refine wpStill_nil ?_
  refine HQ.out _ ?_
  change wpList _ _ _ _ _ wb.drew
  go_upto_region 17 with fail
  refine world_gen (fun X => ∃ x, KcH TR w v seed N DD g9 (sealV (I : Int) E (some ad) 3 c) (some ad) ps W0 ga gb gc (sealV (J : Int) E (some ad) 3 c) (sealV (I : Int) E (some ad) 3 c) (sealV (I : Int) E (some ad) 3 c) X ∧ Got X g14 g14 cap ((textL E).set j x) 16384) ⟨_, (HK4.out.next (Below.refl _ _).drew).off g14 L4.out.1 (Nat.ne_of_lt L4.out.2.1) (Nat.ne_of_lt L4.out.2.2.1) (Nat.ne_of_lt L4.out.2.2.2) j _, HG.out.drew.set j _⟩ (fun X16 HX => ?_)
  obtain ⟨x, HX1, HX2⟩ := HX
  have HK5 := Lib.hid HX1
  have HG5 := Lib.hid HX2
  clear HX1 HX2 HQ cT fT c0 c1 c2 HK4 HG mj mj2 mj3 m4 m6 L4
  obtain ⟨l2, hl2⟩ : ∃ l, l = (textL E).set j x := ⟨_, rfl⟩
  obtain ⟨T2, hT2⟩ : ∃ T, Hid (T = strOfNums l2) := ⟨_, Lib.hid rfl⟩
  have zl : l2.length = 16384 := by rw [hl2, List.length_set, textL_length]; exact EZ.out
  have zT : Hid (T2.size = 16384) := Lib.hid (by rw [hT2.out, strOfNums_size, zl])
  rw [← hl2] at HG5
  clear hl2
  have cv : (convert 42 9 (.slice (some ⟨g14, 0, none⟩) 16384 cap)).run Tryd.prog X16 = .ok (.string T2) X16 := by
    rw [hT2.out]
    exact run_convert_bytes_arg X16 42 5 Tryd.underlying42 Tryd.underlying5 g14 0 16384 cap l2 zl (fun i hi => by rw [Nat.zero_add]; exact HG5.out.cell i hi) 9 Tryd.underlying9
  obtain ⟨b0, b1, b2⟩ := seal_cells HK5.out.rb
  have f1 := HK5.out.rb.free 1
  go_upto_region 18 with fail
  refine world_gen (fun X => KcH TR w v seed N DD g9 (sealV (I : Int) E (some ad) 3 c) (some ad) ps W0 ga gb gc (sealV (J : Int) E (some ad) 3 c) (sealV (I : Int) T2 (some ad) 3 c) (sealV (I : Int) E (some ad) 3 c) X) (HK5.out.putB 1 _) (fun X17 HX => ?_)
  have HK6 := Lib.hid HX
  clear HX HK5 HG5 cv b0 b1 b2 f1 zl hT2
  obtain ⟨b0, b1, b2⟩ := seal_cells (HK6.out.old TS).seal_
  have L6 := Lib.hid (HK6.out.old TS).lst
  go_upto_region 19 with (at_builtin; refine wpList_appendC rfl (.const (.slice none 0 0)) (.tmp 154) rfl X17.heap.size ps rfl (some ad) 3 c rfl lps.out.symm hhp.out L6.out (by decide) (Nat.le_refl _) ?_; intro v1 w18 ho hg; have HB18 : Hid (Below X17.heap.size X17 w18) := Lib.hid ((Below.refl _ _).grown hg (Nat.le_refl _) (by intro k hk; simp at hk)); obtain ⟨g2, c2, rfl, hc2, hg2, hp2⟩ := copy_form hhp.out lps.out ho; have HK7 := Lib.hid (HK6.out.next HB18.out); have HP := Lib.hid hp2; have HC2 := Lib.hid hc2; have GG : Hid (W0.heap.size ≤ g2 ∧ ga < g2 ∧ gb < g2 ∧ gc < g2) := Lib.hid ⟨Nat.le_trans HK6.out.b0.size hg2, Nat.lt_of_lt_of_le HK6.out.ra.lt hg2, Nat.lt_of_lt_of_le HK6.out.rb.lt hg2, Nat.lt_of_lt_of_le HK6.out.rc.lt hg2⟩; clear ho hg hc2 hg2 hp2 HB18; obtain ⟨e0, e1, e2⟩ := seal_cells HK7.out.rc; have f2 := HK7.out.rc.free 2)
  refine world_gen (fun X => KcH TR w v seed N DD g9 (sealV (I : Int) E (some ad) 3 c) (some ad) ps W0 ga gb gc (sealV (J : Int) E (some ad) 3 c) (sealV (I : Int) T2 (some ad) 3 c) (sealV (I : Int) E (some ⟨g2, 0, none⟩) 3 c2) X ∧ PcH g2 ps X) ⟨HK7.out.putC 2 _, HP.out.far (Nat.ne_of_gt GG.out.2.2.2) 2 _⟩ (fun X18 HX => ?_)
  obtain ⟨HX1, HX2⟩ := HX
  have HK8 := Lib.hid HX1
  have HP8 := Lib.hid HX2
  clear HX1 HX2 HK7 HK6 HP L6 b0 b1 b2 e0 e1 e2 f2
  have zD1 : Hid (D1.size = 32) := Lib.hid (by rw [hD1.out, nums_size]; exact HD.out.2.1)
  have oD1 : Hid (D1.all (·.oneCell') = true) := Lib.hid (by rw [hD1.out]; exact nums_one _ _)
  have HKs : Hid (KdH TR w v seed N DD g9 (sealV (I : Int) E (some ad) 3 c) (some ad) ps W0 ga gb gc (sealV (J : Int) E (some ad) 3 c) (sealV (I : Int) T2 (some ad) 3 c) (sealV (I : Int) E (some ⟨g2, 0, none⟩) 3 c2) g2 (ps.set k d1) (X18.setCells g2 (k * 32) D1.toList)) := Lib.hid ⟨HK8.out.offs g2 GG.out.1 GG.out.2.1 GG.out.2.2.1 GG.out.2.2.2 _ _, by rw [hD1.out]; exact HP8.out.put k TH.out.2.2 lps.out d1 HD.out.2.1⟩
  try simp only [Act.put]
  go_cut [7] (fun s7 wx => s7 = v ∧ Hid (KdH TR w v seed N DD g9 (sealV (I : Int) E (some ad) 3 c) (some ad) ps W0 ga gb gc (sealV (J : Int) E (some ad) 3 c) (sealV (I : Int) T2 (some ad) 3 c) (sealV (I : Int) E (some ⟨g2, 0, none⟩) 3 c2) g2 (ps.set k d1) wx))
  case first =>
    obtain ⟨t4, t6, tk⟩ := TH.out
    have tk2 : (k : Int) < 3 := by omega
    have tk3 : (0 : Int) ≤ (k : Int) := by omega
    obtain ⟨c0, c1, cn2⟩ := CL.out _ (HK8.out.old TS).num
    obtain ⟨e0, e1, e2⟩ := seal_cells HK8.out.rc
    obtain ⟨l0, l1⟩ := RD.out _ (HK8.out.old TS).dig
    have ht : X18.there g2 (k * 32) D1.size := by rw [zD1.out]; exact HP8.out.room k tk
    have h6 := sizeH D1.size zD1.out
    go_wp2_with (first
      | (refine wpList_store_mid rfl 23 _ _ rfl g2 (k * 32) D1 rfl rfl ht h6 oD1.out ?_)
      | (refine wpList_store_at rfl 23 _ _ rfl g2 (k * 32) D1 rfl rfl ht h6 oD1.out ?_))
    go_meet
    exact ⟨rfl, HKs⟩
  case rest =>
  obtain ⟨rfl, HK9⟩ := hcut
  go_step
  exact keyback_four HBK.out J k g9 ga gb gc g2 c c2 TH.out JI.out _ ad W0 _ T2 zT.out HC.out HC2.out HK9.out _ _ _ _ _ _ _ _ _ _ _ _ _ _ _ _ _ _ _ _ _ _ _ _ _ _ _ _ _ _ _ _ _ _ _ _ _ _ _ _ _ _ _ _ _ _ _ _ _ _ _ _ _ _ _ _ _ _ _ _ _ _ _ _ _ _ _ _ _ _ _ _ _ _ _ _ _ _ _ _ _ _ _ _ _ _ _ _ _ _ _ _ _ _ _ _ _ _ _ _ _ _ _ _ _ _ _ _ _ _ _ _ _ _ _ _ _ _ _ _ _ _ _ _ _ _ _ _ _ _ _ _ _ _ _ _ _ _ _ _ _ _ _ _ _ _ _ _ _ _ _ _ _ _ _ _ _ _ _ _ _ _ _ _ _ _ _ _ _ _ _ _ _ _ _ _ _ _ _ _ _ _ _ _ _ _ _ _ _ _ _ _ _ _ _ _ _ _ _ _ _ _ _ _ _ _ _ _ _ _ _ _ _ _ _ _ _ _ _ _ _ _ _ _ _ _ _ _ _ _
end Go.Proofs.YtgnkdkehooagpaaDoor
