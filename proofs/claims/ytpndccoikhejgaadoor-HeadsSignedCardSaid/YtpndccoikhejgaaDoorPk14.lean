/-
  Several texts in one (a claim has room for 60 files): RefPublic, LampSaysB, RefHead, RefHashesB, ByteMem, RefKey.
-/
import Derived.Test.YtpndccoikhejgaaDoorPk13
import Derived.Test.YtpndccoikhejgaaDoorPk04
import Derived.Test.YtpndccoikhejgaaDoorPk06
import Derived.Test.YtpndccoikhejgaaDoorPk03
import Derived.Test.YtpndccoikhejgaaDoorPk08
import Derived.Test.YtpndccoikhejgaaDoorPk09
import Derived.Test.YtpndccoikhejgaaDoorPk10
import Derived.Test.YtpndccoikhejgaaDoorPk12
import Derived.Test.YtpndccoikhejgaaDoorPk05
namespace Go.Proofs.YtpndccoikhejgaaDoor
open Go.RowKit Go.Great
set_option linter.unusedVariables false
set_option maxRecDepth 100000

/-- What Public and others that hand a list back do. -/
def GivesP (w : World) (ls : List (List Int)) (e : Ending) (w' : World) : Prop :=
  ∃ A c, e = .returned (.slice A ls.length c) ∧ ls.length ≤ c ∧ c ≤ maxLen ∧ HL w' w'.heap.size A ls ∧ Below w.heap.size w w'
attribute [local go_sem ↓ high] read_at write_at
end Go.Proofs.YtpndccoikhejgaaDoor
namespace Go.Proofs.YtpndccoikhejgaaDoor
open Go.RowKit Go.Great
set_option linter.unusedVariables false
set_option maxRecDepth 100000

def num64 (x : Int) : Prop := -9223372036854775808 ≤ x ∧ x ≤ 9223372036854775807
def PublicSays : Prop := ∀ (seed : ByteArray) (index : Int) (W : World), Tab W → seed.size ≤ 100000 → num64 index →
  Calls Tryd.prog 51 #[.string seed, .int .i64 index] W (GivesP W (pubF seed index))
def KeySays : Prop := ∀ (ls : List (List Int)) (A : Option Addr) (c : Nat) (W : World), Tab W → hashes ls → HL W W.heap.size A ls → ls.length ≤ c → c ≤ maxLen →
  Calls Tryd.prog 50 #[.slice A ls.length c] W fun e w' => e = .returned (.agg (nums .u8 (keyF ls))) ∧ Below W.heap.size W w'
def SignSays : Prop := ∀ (seed : ByteArray) (index : Int) (d : List Int) (W : World), Tab W → seed.size ≤ 100000 → num64 index → d.length = 32 ∧ bytes d →
  Calls Tryd.prog 56 #[.string seed, .int .i64 index, .agg (nums .u8 d)] W fun e w' => e = .returned (.string (sigF seed index d)) ∧ Below W.heap.size W w'
def RecoverSays : Prop := ∀ (s : ByteArray) (d : List Int) (W : World), Tab W → s.size ≤ maxLen → d.length = 32 ∧ bytes d →
  Calls Tryd.prog 62 #[.string s, .agg (nums .u8 d)] W fun e w' => e = .returned (.tuple #[.agg (nums .u8 (recF s d).1), .int .i64 (recF s d).2]) ∧ Below W.heap.size W w'
end Go.Proofs.YtpndccoikhejgaaDoor
namespace Go.Proofs.YtpndccoikhejgaaDoor
open Go.RowKit Go.Great
set_option linter.unusedVariables false
set_option maxRecDepth 100000

theorem putS_size8 (n : Int) : (putS n 8).size = 8 := by rw [putS_some _ _ (by omega), strOfNums_size, putL_length]; rfl
/-- What a function of one signed head holds. -/
def OneG (w wr : World) (C : Array Value) : Prop := Row wr w.heap.size 34 C ∧ Below w.heap.size w wr
theorem OneG.start (w : World) (C : Array Value) : OneG w (w.alloc (.cells C 34)) C := ⟨Row.made _ _ _, (Below.refl _ _).alloc (Nat.le_refl _) _⟩
set_option maxHeartbeats 4000000 in
theorem refValid_any (x : Sh) (hr : x.root.length = 32) (A : Option Addr) (c : Nat) (w : World) :
    Calls Tryd.prog 15 #[.agg (signedV x.size x.root x.index x.sig A x.path.length c)] w fun e w' => e = .returned (.bool (decide x.ok)) ∧ Below w.heap.size w w' := by
  obtain ⟨C, hC⟩ : ∃ C, C = signedV x.size x.root x.index x.sig A x.path.length c := ⟨_, rfl⟩
  have CF : Hid (∀ W g, Row W g 34 C → W.cell? ⟨g, 0, none⟩ = some (.int .i64 x.size) ∧ W.cell? ⟨g, 33, none⟩ = some (.int .i64 x.index) ∧ W.cell? ⟨g, 34, none⟩ = some (.string x.sig) ∧ W.cell? ⟨g, 35, none⟩ = some (.slice A x.path.length c)) := Lib.hid fun W g h => by subst hC; exact signed_cells h hr
  have H0 := Lib.hid (OneG.start w C)
  rw [← hC]
  have HK : Hid (x.ok ↔ (0 ≤ x.size ∧ x.size ≤ 4096) ∧ (0 ≤ x.index ∧ x.index ≤ 7) ∧ x.sig.size = 16384 ∧ x.path.length = 3) := Lib.hid Iff.rfl
  obtain ⟨n, hn⟩ : ∃ n, n = x.path.length := ⟨_, rfl⟩
  rw [← hn] at CF HK
  clear hC hn
  by_cases h1 : 0 ≤ x.size
  · have b1 : decide (0 ≤ x.size) = true := decide_eq_true h1
    by_cases h2 : x.size ≤ 4096
    · have b2 : decide (x.size ≤ 4096) = true := decide_eq_true h2
      by_cases h3 : 0 ≤ x.index
      · have b3 : decide (0 ≤ x.index) = true := decide_eq_true h3
        by_cases h4 : x.index ≤ 7
        · have b4 : decide (x.index ≤ 7) = true := decide_eq_true h4
          by_cases h5 : x.sig.size = 16384
          · have b5 : ((x.sig.size : Int) == 16384) = true := by simp; omega
            by_cases h6 : n = 3
            · have b6 : ((n : Int) == 3) = true := by simp; omega
              have d9 : decide x.ok = true := decide_eq_true (HK.out.2 ⟨⟨h1, h2⟩, ⟨h3, h4⟩, h5, h6⟩)
              rw [d9]
              clear HK h1 h2 h3 h4 h5 h6
              go_enter Tryd.func15, Tryd.ntmps15
              go_upto_region 1 with fail
              refine world_gen (fun X => OneG w X C) H0.out (fun X HX => ?_)
              have HX := Lib.hid HX
              obtain ⟨c0, c1, c2, c3⟩ := CF.out _ _ HX.out.1
              go_wp2
              go_ret
              exact ⟨rfl, HX.out.2⟩
            · have b6 : ((n : Int) == 3) = false := by simp; omega
              have d9 : decide x.ok = false := decide_eq_false (fun ho => by have h := HK.out.1 ho; exact h6 h.2.2.2)
              rw [d9]
              clear HK h1 h2 h3 h4 h5 h6
              go_enter Tryd.func15, Tryd.ntmps15
              go_upto_region 1 with fail
              refine world_gen (fun X => OneG w X C) H0.out (fun X HX => ?_)
              have HX := Lib.hid HX
              obtain ⟨c0, c1, c2, c3⟩ := CF.out _ _ HX.out.1
              go_wp2
              go_ret
              exact ⟨rfl, HX.out.2⟩
          · have b5 : ((x.sig.size : Int) == 16384) = false := by simp; omega
            have d9 : decide x.ok = false := decide_eq_false (fun ho => by have h := HK.out.1 ho; exact h5 h.2.2.1)
            rw [d9]
            clear HK h1 h2 h3 h4 h5
            go_enter Tryd.func15, Tryd.ntmps15
            go_upto_region 1 with fail
            refine world_gen (fun X => OneG w X C) H0.out (fun X HX => ?_)
            have HX := Lib.hid HX
            obtain ⟨c0, c1, c2, c3⟩ := CF.out _ _ HX.out.1
            go_wp2
            go_ret
            exact ⟨rfl, HX.out.2⟩
        · have b4 : decide (x.index ≤ 7) = false := decide_eq_false h4
          have d9 : decide x.ok = false := decide_eq_false (fun ho => by have h := HK.out.1 ho; exact h4 h.2.1.2)
          rw [d9]
          clear HK h1 h2 h3 h4
          go_enter Tryd.func15, Tryd.ntmps15
          go_upto_region 1 with fail
          refine world_gen (fun X => OneG w X C) H0.out (fun X HX => ?_)
          have HX := Lib.hid HX
          obtain ⟨c0, c1, c2, c3⟩ := CF.out _ _ HX.out.1
          go_wp2
          go_ret
          exact ⟨rfl, HX.out.2⟩
      · have b3 : decide (0 ≤ x.index) = false := decide_eq_false h3
        have d9 : decide x.ok = false := decide_eq_false (fun ho => by have h := HK.out.1 ho; exact h3 h.2.1.1)
        rw [d9]
        clear HK h1 h2 h3
        go_enter Tryd.func15, Tryd.ntmps15
        go_upto_region 1 with fail
        refine world_gen (fun X => OneG w X C) H0.out (fun X HX => ?_)
        have HX := Lib.hid HX
        obtain ⟨c0, c1, c2, c3⟩ := CF.out _ _ HX.out.1
        go_wp2
        go_ret
        exact ⟨rfl, HX.out.2⟩
    · have b2 : decide (x.size ≤ 4096) = false := decide_eq_false h2
      have d9 : decide x.ok = false := decide_eq_false (fun ho => by have h := HK.out.1 ho; exact h2 h.1.2)
      rw [d9]
      clear HK h1 h2
      go_enter Tryd.func15, Tryd.ntmps15
      go_upto_region 1 with fail
      refine world_gen (fun X => OneG w X C) H0.out (fun X HX => ?_)
      have HX := Lib.hid HX
      obtain ⟨c0, c1, c2, c3⟩ := CF.out _ _ HX.out.1
      go_wp2
      go_ret
      exact ⟨rfl, HX.out.2⟩
  · have b1 : decide (0 ≤ x.size) = false := decide_eq_false h1
    have d9 : decide x.ok = false := decide_eq_false (fun ho => by have h := HK.out.1 ho; exact h1 h.1.1)
    rw [d9]
    clear HK h1
    go_enter Tryd.func15, Tryd.ntmps15
    go_upto_region 1 with fail
    refine world_gen (fun X => OneG w X C) H0.out (fun X HX => ?_)
    have HX := Lib.hid HX
    obtain ⟨c0, c1, c2, c3⟩ := CF.out _ _ HX.out.1
    go_wp2
    go_ret
    exact ⟨rfl, HX.out.2⟩
/-- What Digest holds: the head, its result. -/
structure DgH (w wr : World) (HV : Array Value) : Prop where
  head : Row wr w.heap.size 25 HV
  out : ∃ C, Row wr (w.heap.size + 1) 23 C ∧ C.size = 32
  below : Below w.heap.size w wr
theorem DgH.next {w wr w1 : World} {HV : Array Value} (h : DgH w wr HV) (hb : Below wr.heap.size wr w1) : DgH w w1 HV := by
  obtain ⟨C, h1, h2⟩ := h.out
  exact ⟨h.head.next hb, ⟨C, h1.next hb, h2⟩, below_new h.below hb⟩
theorem DgH.put {w wr : World} {HV C : Array Value} (h : DgH w wr HV) (hC : C.size = 32) : DgH w (wr.setRow (w.heap.size + 1) C) HV := by
  obtain ⟨C', h1, h2⟩ := h.out
  exact ⟨h.head.wfar (by omega) _, ⟨C, h1.whole _, hC⟩, below_setRow h.below (by omega)⟩
theorem DgH.start (w : World) (HV : Array Value) : DgH w ((w.alloc (.cells HV 25)).alloc (.cells (nums .u8 (List.replicate 32 0)) 23)) HV :=
  ⟨(Row.made _ _ _).alloc _, ⟨_, Row.made2 _ _ _ _, by rw [nums_size]; simp⟩, ((Below.refl _ _).alloc (Nat.le_refl _) _).alloc (by simp) _⟩
attribute [local go_sem ↓ high] read_at write_at read_d
set_option maxHeartbeats 4000000 in
theorem refDigest_any (s : Int) (h64 : num64 s) (r : List Int) (hr : r.length = 32 ∧ bytes r) (w : World) :
    Calls Tryd.prog 13 #[.agg (headV s r)] w fun e w' => e = .returned (.agg (nums .u8 (digF s r))) ∧ Below w.heap.size w w' := by
  obtain ⟨HV, hHV⟩ : ∃ C, C = headV s r := ⟨_, rfl⟩
  obtain ⟨C, hC⟩ : ∃ C, Hid (C = nums .u8 (digF s r)) := ⟨_, Lib.hid rfl⟩
  obtain ⟨R, hR⟩ : ∃ C, Hid (C = nums .u8 r) := ⟨_, Lib.hid rfl⟩
  have zC : Hid (C.size = 32) := Lib.hid (by rw [hC.out, nums_size]; exact (digF_is s r).1)
  have oC : Hid (C.all (·.oneCell') = true) := Lib.hid (by rw [hC.out]; exact nums_one _ _)
  have CF : Hid (∀ W, Row W w.heap.size 25 HV → W.cell? ⟨w.heap.size, 0, none⟩ = some (.int .i64 s)) := Lib.hid fun W h => by subst hHV; exact head_cells h
  have RT : Hid (∀ W, Row W w.heap.size 25 HV → (readAt (.pointer (some ⟨w.heap.size, 1, none⟩))).run Tryd.prog W = .ok (.agg R) W) := Lib.hid fun W h => by subst hHV; rw [hR.out]; exact head_root h hr.1
  obtain ⟨P8, hP8⟩ : ∃ P, Hid (P = putS (s % 18446744073709551616) 8) := ⟨_, Lib.hid rfl⟩
  obtain ⟨RS, hRS⟩ : ∃ P, Hid (P = strOfNums r) := ⟨_, Lib.hid rfl⟩
  have zP : Hid (P8.size = 8) := Lib.hid (by rw [hP8.out]; exact putS_size8 _)
  have zR : Hid (RS.size = 32) := Lib.hid (by rw [hRS.out, strOfNums_size]; exact hr.1)
  have X1 : Hid (∀ W, Calls Tryd.prog 39 #[.int .u64 (s % 18446744073709551616), .int .i64 8] W fun e w' => e = .returned (.string P8) ∧ Below W.heap.size W w') := Lib.hid fun W => by
    rw [hP8.out]; exact refPut_any _ 8 W (by omega)
  have X2 : Hid (∀ W, Calls Tryd.prog 33 #[.agg R] W fun e w' => e = .returned (.string RS) ∧ Below W.heap.size W w') := Lib.hid fun W => by
    rw [hR.out, hRS.out]; exact refHash_any r hr.1 W
  have X3 : Hid (∀ W, Calls Tryd.prog 38 #[.string (⟨#[5]⟩ ++ P8 ++ RS)] W fun e w' => e = .returned (.agg C) ∧ Below W.heap.size W w') := Lib.hid fun W => by
    rw [hC.out, hP8.out, hRS.out]; exact refSum_any (digS s r) (by unfold digS; rw [ByteArray.size_append, ByteArray.size_append, ← hP8.out, ← hRS.out, zP.out, zR.out]; decide) W
  have ja := join_text ⟨#[5]⟩ P8 (by rw [zP.out]; decide)
  have jb := join_text (⟨#[5]⟩ ++ P8) RS (by rw [ByteArray.size_append, zP.out, zR.out]; decide)
  have H0 := Lib.hid (DgH.start w HV)
  have uw : IntKind.u64.wrap s = s % 18446744073709551616 := by rw [IntKind.wrap_u64]
  rw [← hHV, ← hC.out]
  clear hHV hr hC h64
  go_enter Tryd.func13, Tryd.ntmps13
  go_upto_region 1 with fail
  refine world_gen (fun X => DgH w X HV) H0.out (fun X HX => ?_)
  have HX := Lib.hid HX
  clear H0
  refine wp_region_fk (fun W => DgH w W HV) (.get 0 (.get 1 (.get 2 (.get 5 (.get 6 (.call 3 (.get 4 (.call 7 (.get 8 (.call 9 (.call 10 .done))))))))))) (by kernel_rfl) rfl (by kernel_rfl) (by kernel_rfl) (by intro c a d v w h; cases d <;> exact h) (HX.out.next (Below.refl _ _).drew) (fun Q' hQ => ?_)
  have HS := Lib.hid (HX.out.next (Below.refl _ _).drew)
  have HQ := Lib.hid hQ
  clear hQ HX
  refine wpFk_get rfl (by rfl) (fun K hK => ?_)
  refine ⟨?_, fun w' hS' => ?_, ?_⟩
  rotate_left
  · go_simp
    try (with_reducible rfl)
  try go_simp
  refine hK _ ?_
  clear hK K
  refine wpFk_get rfl (by rfl) (fun K hK => ?_)
  refine ⟨?_, fun w' hS' => ?_, ?_⟩
  rotate_left
  · have c0 := CF.out _ hS'.head
    go_simp
    try (with_reducible rfl)
  try go_simp
  refine hK _ ?_
  clear hK K
  refine wpFk_get rfl (by rfl) (fun K hK => ?_)
  refine ⟨?_, fun w' hS' => ?_, ?_⟩
  rotate_left
  · go_simp
    try (with_reducible rfl)
  try go_simp
  refine hK _ ?_
  clear hK K
  refine wpFk_get rfl (by rfl) (fun K hK => ?_)
  refine ⟨?_, fun w' hS' => ?_, ?_⟩
  rotate_left
  · go_simp
    try (with_reducible rfl)
  try go_simp
  refine hK _ ?_
  clear hK K
  refine wpFk_get rfl (by rfl) (fun K hK => ?_)
  refine ⟨_, fun w' hS' => get_load rfl rfl (RT.out _ hS'.head), ?_⟩
  try go_simp
  refine hK _ ?_
  clear hK K
  refine wpFk_call rfl (by rfl) (fun K hK => ?_)
  go_simp
  go_at_call 39
  (with_reducible refine (X1.out _).mono ?_)
  rintro e w1x ⟨rfl, hb⟩
  replace HS := Lib.hid (HS.out.next hb)
  clear hb
  refine hK _ _ HS.out ?_
  clear hK K
  refine wpFk_get rfl (by rfl) (fun K hK => ?_)
  refine ⟨?_, fun w' hS' => ?_, ?_⟩
  rotate_left
  · go_simp
    try (with_reducible rfl)
  try go_simp
  refine hK _ ?_
  clear hK K
  refine wpFk_call rfl (by rfl) (fun K hK => ?_)
  go_simp
  go_at_call 33
  (with_reducible refine (X2.out _).mono ?_)
  rintro e w1x ⟨rfl, hb⟩
  replace HS := Lib.hid (HS.out.next hb)
  clear hb
  refine hK _ _ HS.out ?_
  clear hK K
  refine wpFk_get rfl (by rfl) (fun K hK => ?_)
  refine ⟨?_, fun w' hS' => ?_, ?_⟩
  rotate_left
  · go_simp
    try (with_reducible rfl)
  try go_simp
  refine hK _ ?_
  clear hK K
  refine wpFk_call rfl (by rfl) (fun K hK => ?_)
  go_simp
  go_at_call 38
  (with_reducible refine (X3.out _).mono ?_)
  rintro e w1x ⟨rfl, hb⟩
  replace HS := Lib.hid (HS.out.next hb)
  clear hb
  refine hK _ _ HS.out ?_
  clear hK K
  refine wpFk_call rfl (by rfl) (fun K hK => ?_)
  obtain ⟨Z, hZ, hz⟩ := HS.out.out
  have s6 := hZ.write hz zC.out oC.out
  go_simp
  clear s6
  have HF := Lib.hid (DgH.put HS.out zC.out)
  have HR := Lib.hid (hZ.whole C)
  clear HS hZ hz
  have HS := HF
  refine hK _ _ HS.out ?_
  clear hK K
  refine wpFk_done ?_
  refine HQ.out _ _ ?_
  clear HQ HF
  go_wp2
  refine bodyPost_ret (results_cell_row rfl _ _ (w.heap.size + 1) 23 _ (0, 0) _ rfl HR.out Tryd.underlying23 rfl (sizeH _ zC.out)) rfl ⟨rfl, HS.out.below⟩
end Go.Proofs.YtpndccoikhejgaaDoor
namespace Go.Proofs.YtpndccoikhejgaaDoor
open Go.RowKit
set_option linter.unusedVariables false
set_option maxRecDepth 100000

attribute [local go_sem ↓ high] read_at
set_option maxHeartbeats 1000000 in
set_option maxRecDepth 100000 in
theorem refHashes_any (ls : List (List Int)) (hs : hashes ls) (A : Option Addr) (c : Nat) (w : World) (hA : HL w w.heap.size A ls) (hn : ls.length ≤ maxLen) :
    Calls Tryd.prog 35 #[.slice A ls.length c] w fun e w' => e = .returned (.string (listS ls)) ∧ Below w.heap.size w w' := by
  unfold maxLen at hn
  obtain ⟨n, hN⟩ : ∃ n, Hid (n = ls.length) := ⟨_, Lib.hid rfl⟩
  have HA := Lib.hid hA
  rw [← hN.out] at hn ⊢
  clear hA
  by_cases hbig : 64 < n
  · have hS : Hid (listS ls = ⟨#[]⟩) := Lib.hid (by unfold listS; rw [if_pos (by rw [← hN.out]; exact hbig)])
    have hd : decide (64 < (n : Int)) = true := decide_eq_true (by omega)
    go_enter Tryd.func35, Tryd.ntmps35
    go_wp2
    go_ret
    exact ⟨by rw [hS.out]; rfl, Below.refl _ _⟩
  · have hS : Hid (listS ls = strOfNums (partS n ls n)) := Lib.hid (by unfold listS partS listL; rw [if_neg (by rw [← hN.out]; exact hbig), hN.out, List.take_length])
    have hd : decide (64 < (n : Int)) = false := decide_eq_false (by omega)
    have hn64 : n ≤ 64 := by omega
    have hL0 := Codec.numL_length n (by omega)
    have hc := refNum_any n (by omega) w
    have hp0 : Hid (numS n = strOfNums (partS n ls 0)) := Lib.hid (by unfold numS partS; simp)
    have hpl : Hid (∀ k, k ≤ n → (strOfNums (partS n ls k)).size ≤ 10 + 32 * k) := Lib.hid fun k hk => by
      rw [strOfNums_size]
      unfold partS
      rw [List.length_append, flat_length (hashes_take hs k), List.length_take, ← hN.out]
      omega
    clear hbig
    go_enter Tryd.func35, Tryd.ntmps35
    go_wp2_with (go_at_call 32; (with_reducible refine hc.mono ?_); rintro e w1 ⟨rfl, hb⟩; have HB := Lib.hid hb; clear hb)
    go_loopw [3, 4] (fun s3 s4 wr => ∃ k : Nat, k ≤ n ∧ s4 = .int .i64 (k : Int) ∧ s3 = .string (strOfNums (partS n ls k)) ∧ Hid (Below w.heap.size w wr)) (fun _ s4 _ => (n - intOf s4).toNat)
    case atStart => exact ⟨0, by omega, rfl, by rw [← hp0.out], HB⟩
    case round =>
      clear HB
      obtain ⟨k, hk, rfl, rfl, HB⟩ := hrel
      by_cases hlt : k < n
      · obtain ⟨ad, rfl⟩ := HA.out.some k (by rw [← hN.out]; exact hlt)
        have s1 := (HA.out.next HB.out (Nat.le_refl _)).read hs k (by rw [← hN.out]; exact hlt)
        obtain ⟨l, hl⟩ : ∃ l, Hid (l = ls.getD k []) := ⟨_, Lib.hid rfl⟩
        rw [← hl.out] at s1
        have hll : Hid (l.length = 32) := Lib.hid (by rw [hl.out]; exact (hashes_at hs k (by rw [← hN.out]; exact hlt)).1)
        have hH : Hid (∀ W, Calls Tryd.prog 33 #[.agg (nums .u8 l)] W fun e w' => e = .returned (.string (strOfNums l)) ∧ Below W.heap.size W w') := Lib.hid fun W => refHash_any l hll.out W
        obtain ⟨S, hS2⟩ : ∃ S, Hid (S = strOfNums (partS n ls k)) := ⟨_, Lib.hid rfl⟩
        have hSs := hpl.out k hk
        rw [← hS2.out] at hSs ⊢
        have ha := join_text S (strOfNums l) (by rw [strOfNums_size, hll.out]; omega)
        clear hSs
        go_wp2_with (go_at_call 33; (with_reducible refine (hH.out _).mono ?_); rintro e w2 ⟨rfl, hb⟩; have HB2 := Lib.hid hb; clear hb)
        go_roundw
        case rel => exact ⟨k + 1, by omega, by go_num, by rw [hS2.out, texts_app, partS_next n ls k (by rw [← hN.out]; exact hlt), hl.out], Lib.hid (below_new HB.out HB2.out)⟩
        case measure => simp [intOf]; omega
      · have hk9 : Hid (k = n) := Lib.hid (by omega)
        go_wp2
        go_ret
        exact ⟨ret_txt (by rw [hS.out, hk9.out]), HB.out⟩
end Go.Proofs.YtpndccoikhejgaaDoor
namespace Go.Proofs.YtpndccoikhejgaaDoor
open Go.RowKit Go.Great
set_option linter.unusedVariables false
set_option maxRecDepth 100000

/-- Bytes as cells. -/
def cellsB (l : List Int) : List Value := l.map (Value.int .u8)
theorem cellsB_length (l : List Int) : (cellsB l).length = l.length := by simp [cellsB]
theorem cellsB_app (a b : List Int) : cellsB (a ++ b) = cellsB a ++ cellsB b := by simp [cellsB]
theorem cellsB_get (l : List Int) (j : Nat) (h : j < l.length) : (cellsB l)[j]? = some (.int .u8 (l.getD j 0)) := by
  unfold cellsB; rw [List.getElem?_map, List.getElem?_eq_getElem h, List.getD_eq_getElem?_getD, List.getElem?_eq_getElem h]; rfl
theorem cellsB_one (l : List Int) : ∀ u ∈ cellsB l, u.oneCell' = true := by
  intro u hu
  obtain ⟨x, _, rfl⟩ := List.mem_map.1 hu
  rfl
/-- Bytes that lie at an address. -/
def BytesAt (w : World) (ad : Addr) (l : List Int) : Prop := ∀ j, j < l.length → w.cell? (ad.add j) = some (.int .u8 (l.getD j 0))
theorem HL.bytes {w : World} {B : Nat} {ad : Addr} {ls : List (List Int)} (h : HL w B (.some ad) ls) (hs : hashes ls) (i : Nat) (hi : i < ls.length) : BytesAt w (ad.add (i * 32)) (ls.getD i []) := fun j hj => by
  rw [(hashes_at hs i hi).1] at hj
  obtain ⟨ad', e, _, hc⟩ := h i hi
  cases e
  rw [add_of_add]; exact hc j hj
theorem Row.bytes {w : World} {g : Nat} {t : TypeId} {l : List Int} (h : Row w g t (nums .u8 l)) : BytesAt w ⟨g, 0, none⟩ l := fun j hj => by rw [add_flat]; exact h.num hj
/-- Bytes are appended to one's own. -/
theorem wp_appendB {o : Oper} {a : Act} {w : World} {K : Act → World → Prop} {Q : Exit → Act → World → Prop} (s x : Operand) (ho : o.op = .call { callee := .builtin .append, args := #[s, x], argTypes := #[48, 48] })
    (B : Nat) (v : Value) (n : Nat) (bs us : List Int) (hsv : a.eval s = v) (hown : w.ownsRow B 5 1 v n (cellsB bs)) (ad : Addr) (m c : Nat) (hx : a.eval x = .slice (some ad) m c) (hm : us.length = m) (hU : BytesAt w ad us) (hsm : n + m ≤ 100000) (hB : B ≤ w.heap.size)
    (h : ∀ v' w', w'.ownsRow B 5 1 v' (n + m) (cellsB (bs ++ us)) → w.grownBy w' v.ownBlock → K (a.put o.dst v') w') : o.wp Tryd.prog a w K Q := by
  obtain ⟨i0, hi, hz0, hz1, hz2⟩ := info_parts info_byte
  subst hm
  refine wp_append_own _ s x 48 ho B 5 i0 _ 1 1 Tryd.underlying48 hi hz0 hz1 hz2 rfl (by decide) v n (cellsB bs) hsv hown ad us.length c (cellsB us) hx (by rw [cellsB_length, Nat.mul_one]) (fun j u hj => ?_) (cellsB_one us) (by unfold maxLen; omega) (by omega) hB (fun v' w' h1 h2 _ => h v' w' ?_ h2)
  · have hj2 : j < us.length := by
      rcases Nat.lt_or_ge j us.length with h' | h'
      · exact h'
      · rw [List.getElem?_eq_none (by rw [cellsB_length]; exact h')] at hj; cases hj
    rw [cellsB_get us j hj2] at hj
    cases hj
    exact hU j hj2
  · rw [cellsB_app]; exact h1
theorem wpList_appendB {ops : Array Oper} {rest : List Oper} {o : Oper} {a : Act} {w : World} {Q : Exit → Act → World → Prop} (hgd : o.guard = none) (s x : Operand) (ho : o.op = .call { callee := .builtin .append, args := #[s, x], argTypes := #[48, 48] })
    (B : Nat) (v : Value) (n : Nat) (bs us : List Int) (hsv : a.eval s = v) (hown : w.ownsRow B 5 1 v n (cellsB bs)) (ad : Addr) (m c : Nat) (hx : a.eval x = .slice (some ad) m c) (hm : us.length = m) (hU : BytesAt w ad us) (hsm : n + m ≤ 100000) (hB : B ≤ w.heap.size)
    (h : ∀ v' w', w'.ownsRow B 5 1 v' (n + m) (cellsB (bs ++ us)) → w.grownBy w' v.ownBlock → wpList Tryd.prog ops Q rest (a.put o.dst v') w') : wpList Tryd.prog ops Q (o :: rest) a w :=
  wpList_plain hgd fun _ hK => wp_appendB s x ho B v n bs us hsv hown ad m c hx hm hU hsm hB fun v' w' h1 h2 => hK _ _ (h v' w' h1 h2)
/-- One's own bytes as a text. -/
theorem convB {W : World} {B n : Nat} {v : Value} {bs : List Int} (h : W.ownsRow B 5 1 v n (cellsB bs)) (hn : 0 < n) : (convert 48 9 v).run Tryd.prog W = .ok (.string (strOfNums bs)) W := by
  have hl : bs.length = n := by have := h.1; rw [cellsB_length, Nat.mul_one] at this; exact this
  rcases h.2 with ⟨_, h0⟩ | ⟨g, cap, cur, rfl, _⟩
  · omega
  · refine run_convert_bytes_arg W 48 5 Tryd.underlying48 Tryd.underlying5 g 0 n cap bs hl (fun i hi => ?_) 9 Tryd.underlying9
    rw [Nat.zero_add]
    have := h.cells (g := g) rfl i _ (cellsB_get bs i (by omega))
    rwa [add_flat] at this
/-- One's own bytes where they lie. -/
theorem ownB_at {W : World} {B n : Nat} {v : Value} {bs : List Int} (h : W.ownsRow B 5 1 v n (cellsB bs)) (hn : 0 < n) : ∃ g cap, v = .slice (some ⟨g, 0, none⟩) n cap ∧ B ≤ g ∧ g < W.heap.size ∧ n ≤ cap ∧ BytesAt W ⟨g, 0, none⟩ bs := by
  rcases h.2 with ⟨_, h0⟩ | ⟨g, cap, cur, rfl, hB, hg, hc, _⟩
  · omega
  · refine ⟨g, cap, rfl, hB, (Array.getElem?_eq_some_iff.1 hg).1, hc, fun j hj => h.cells (g := g) rfl j _ (cellsB_get bs j hj)⟩
end Go.Proofs.YtpndccoikhejgaaDoor
namespace Go.Proofs.YtpndccoikhejgaaDoor
open Go.RowKit Go.Great
set_option linter.unusedVariables false
set_option maxRecDepth 100000

theorem str_cons (l : List Int) : strOfNums (4 :: l) = ⟨#[4]⟩ ++ strOfNums l := by
  have h := texts_app [4] l
  have e : strOfNums [4] = ⟨#[4]⟩ := rfl
  rw [e] at h
  rw [h]; rfl
/-- What Leaf holds: its result, and the bytes so far. -/
structure KeyH (w wr : World) (v : Value) (n : Nat) (bs : List Int) : Prop where
  out : Row wr w.heap.size 23 (nums .u8 (List.replicate 32 0))
  own : wr.ownsRow (w.heap.size + 1) 5 1 v n (cellsB bs)
  below : Below w.heap.size w wr
theorem KeyH.put {w wr w1 : World} {v v' : Value} {n m : Nat} {bs us : List Int} (h : KeyH w wr v n bs) (h1 : w1.ownsRow (w.heap.size + 1) 5 1 v' m (cellsB us)) (hg : wr.grownBy w1 v.ownBlock) : KeyH w w1 v' m us :=
  ⟨h.out.grown hg (fun e => by have := (h.own.lt _ e.symm).1; omega), h1, h.below.grown hg h.below.size (fun k hk => by have := (h.own.lt k hk).1; omega)⟩
theorem KeyH.start {w wx : World} (hr : Row wx w.heap.size 23 (nums .u8 (List.replicate 32 0))) (hb : Below w.heap.size w wx) : KeyH w (wx.alloc (.cells #[.int .u8 4] 5)) (.slice (some ⟨wx.heap.size, 0, none⟩) 1 1) 1 [4] :=
  have hs := hr.lt
  ⟨hr.alloc _, World.ownsRow_lit (base := w.heap.size + 1) (e := 5) (size := 1) wx #[.int .u8 4] 1 (by omega) (by decide) rfl, hb.alloc hb.size _⟩
attribute [local go_sem ↓ high] read_at write_at
set_option maxHeartbeats 8000000 in
theorem refKey_any (ls : List (List Int)) (hh : hashes ls) (A : Option Addr) (c : Nat) (w : World) (hA : HL w w.heap.size A ls) (hm : ls.length ≤ 9223372036854775807) :
    Calls Tryd.prog 86 #[.slice A ls.length c] w fun e w' => e = .returned (.agg (nums .u8 (keyF ls))) ∧ Below w.heap.size w w' := by
  obtain ⟨n, hn⟩ : ∃ n, Hid (n = ls.length) := ⟨_, Lib.hid rfl⟩
  have H0 := Lib.hid (OutH.start w)
  have zZ : Hid ((nums .u8 (List.replicate 32 0)).size = 32) := Lib.hid (by rw [nums_size]; simp)
  have oZ : Hid ((nums .u8 (List.replicate 32 0)).all (·.oneCell') = true) := Lib.hid (nums_one _ _)
  have hZ := sizeH _ zZ.out
  rw [← hn.out]
  by_cases h5 : n = 512
  · have d1 : ((n : Int) != 512) = false := by rw [h5]; rfl
    have hl : Hid (ls.length = 512) := Lib.hid (by rw [← hn.out]; exact h5)
    have HF : Hid (keyF ls = sumL (strOfNums (4 :: ls.flatten))) := Lib.hid (by rw [keyF_ok hl.out, str_cons]; rfl)
    obtain ⟨C, hC⟩ : ∃ C, Hid (C = nums .u8 (keyF ls)) := ⟨_, Lib.hid rfl⟩
    have zC : Hid (C.size = 32) := Lib.hid (by rw [hC.out, nums_size]; exact (keyF_is _).1)
    have oC : Hid (C.all (·.oneCell') = true) := Lib.hid (by rw [hC.out]; exact nums_one _ _)
    obtain ⟨S, hS⟩ : ∃ S, Hid (S = strOfNums (4 :: ls.flatten)) := ⟨_, Lib.hid rfl⟩
    have X1 : Hid (∀ W, Calls Tryd.prog 38 #[.string S] W fun e w' => e = .returned (.agg C) ∧ Below W.heap.size W w') := Lib.hid fun W => by
      rw [hC.out, HF.out, ← hS.out]
      exact refSum_any S (by rw [hS.out, strOfNums_size, List.length_cons, flat_size hh, hl.out]; decide) W
    obtain ⟨ad, rfl⟩ := hA.some 0 (by rw [hl.out]; decide)
    have HA := Lib.hid hA
    have HH := Lib.hid hh
    rw [← hC.out]
    rw [h5]
    clear hA hh hm hn h5 d1
    go_enter Tryd.func86, Tryd.ntmps86
    go_upto_region 1 with fail
    refine world_gen (fun X => OutH w X) H0.out (fun X HX => ?_)
    have HK := Lib.hid (KeyH.start HX.1 HX.2)
    clear HX
    go_wp2
    go_loopw [3, 4] (fun s3 s4 wr => ∃ (k : Nat) (v : Value), s4 = .int .i64 ((k : Nat) : Int) ∧ v = s3 ∧ k ≤ 512 ∧ Hid (KeyH w wr v (1 + 32 * k) (4 :: (ls.take k).flatten))) (fun _ s4 _ => (512 - intOf s4).toNat)
    case atStart => exact ⟨0, _, rfl, rfl, by omega, HK⟩
    case round =>
      clear HK
      obtain ⟨k, v, rfl, rfl, hk, HQ⟩ := hrel
      by_cases hlt : k < 512
      · have hkl : k < ls.length := by rw [hl.out]; exact hlt
        have hwk : IntKind.i64.wrap (k : Int) = (k : Int) := by rw [IntKind.wrap_i64]; omega
        have k0 : (0 : Int) ≤ (k : Int) := by omega
        have k1 : (k : Int) < 512 := by omega
        have HB : Hid (BytesAt wr (ad.add (k * 32)) (ls.getD k [])) := Lib.hid ((HA.out.next HQ.out.below (Nat.le_refl _)).bytes HH.out k hkl)
        have h32 : Hid ((ls.getD k []).length = 32) := Lib.hid (hashes_at HH.out k hkl).1
        have HN : Hid (4 :: (ls.take (k + 1)).flatten = (4 :: (ls.take k).flatten) ++ ls.getD k []) := Lib.hid (by
          rw [List.take_succ_eq_append_getElem hkl, List.flatten_append, List.getD_eq_getElem?_getD, List.getElem?_eq_getElem hkl]; simp)
        clear hkl
        go_wp2_with (at_builtin; refine wpList_appendB rfl (.tmp 14) (.tmp 18) rfl (w.heap.size + 1) _ _ _ _ rfl HQ.out.own (ad.add (k * 32)) 32 32 rfl h32.out HB.out (by omega) (by have := HQ.out.out.lt; omega) ?_)
        intro v' w1 hown hg
        have HQ2 : Hid (KeyH w w1 v' (1 + 32 * (k + 1)) (4 :: (ls.take (k + 1)).flatten)) := Lib.hid (by rw [HN.out, show 1 + 32 * (k + 1) = 1 + 32 * k + 32 by omega]; exact HQ.out.put hown hg)
        clear hown hg
        go_wp2
        go_roundw
        case rel => exact ⟨k + 1, _, by go_num, rfl, by omega, HQ2⟩
        case measure => simp [intOf]; omega
      · have hk9 : k = 512 := by omega
        have HQ2 : Hid (KeyH w wr v 16385 (4 :: ls.flatten)) := Lib.hid (by
          have := HQ.out
          rw [hk9, List.take_of_length_le (by rw [hl.out]; exact Nat.le_refl _)] at this
          exact this)
        clear HQ hk9
        have c1 : (convert 48 9 v).run Tryd.prog wr = .ok (.string S) wr := by rw [hS.out]; exact convB HQ2.out.own (by decide)
        go_wp2_with (go_at_call 38; (with_reducible refine (X1.out _).mono ?_); rintro e w1 ⟨rfl, hb⟩; have HR := Lib.hid (HQ2.out.out.next hb); have HB := Lib.hid (below_new HQ2.out.below hb); clear hb c1; have s6 := HR.out.write zZ.out zC.out oC.out)
        refine bodyPost_ret (results_cell_row rfl _ _ w.heap.size 23 _ (0, 0) _ rfl (HR.out.whole _) Tryd.underlying23 rfl (sizeH _ zC.out)) rfl ⟨rfl, below_setRow HB.out (Nat.le_refl _)⟩
  · have d1 : ((n : Int) != 512) = true := by simp; omega
    have HF : Hid (keyF ls = zeroL) := Lib.hid (keyF_no (by rw [← hn.out]; exact h5))
    clear hA hh hm h5
    go_enter Tryd.func86, Tryd.ntmps86
    go_upto_region 1 with fail
    refine world_gen (fun X => OutH w X) H0.out (fun X HX => ?_)
    have HX := Lib.hid HX
    go_wp2_with (refine wpList_store_row rfl 23 _ _ rfl w.heap.size (nums .u8 (List.replicate 32 0)) rfl rfl 23 _ HX.out.1 hZ (by rw [zZ.out]) oZ.out ?_)
    refine bodyPost_ret (results_cell_row rfl _ _ w.heap.size 23 _ (0, 0) _ rfl (HX.out.1.whole _) Tryd.underlying23 rfl hZ) rfl ⟨by rw [HF.out]; rfl, below_setRow HX.out.2 (Nat.le_refl _)⟩
end Go.Proofs.YtpndccoikhejgaaDoor
