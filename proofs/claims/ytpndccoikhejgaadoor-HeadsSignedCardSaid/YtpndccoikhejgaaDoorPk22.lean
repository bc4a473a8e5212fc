/-
  PathRefCome.
-/
import Derived.Test.YtpndccoikhejgaaDoorPk21
import Derived.Test.YtpndccoikhejgaaDoorPk17
namespace Go.Proofs.YtpndccoikhejgaaDoor
open Go.RowKit Go.Great
set_option linter.unusedVariables false
set_option maxRecDepth 100000

/-- What come holds: the leaf, its result, the path. -/
structure ComeH (w wr : World) (C : Array Value) (A : Option Addr) (p : List (List Int)) : Prop where
  h : Row wr w.heap.size 23 C
  out : Row wr (w.heap.size + 1) 23 (nums .u8 (List.replicate 32 0))
  hl : HL wr w.heap.size A p
  below : Below w.heap.size w wr
theorem ComeH.next {w wr w1 : World} {C : Array Value} {A : Option Addr} {p : List (List Int)} (h : ComeH w wr C A p) (hb : Below wr.heap.size wr w1) : ComeH w w1 C A p :=
  ⟨h.h.next hb, h.out.next hb, h.hl.next hb h.below.size, below_new h.below hb⟩
theorem ComeH.drew {w wr : World} {C : Array Value} {A : Option Addr} {p : List (List Int)} (h : ComeH w wr C A p) : ComeH w wr.drew C A p := ⟨h.h.drew, h.out.drew, h.hl, h.below.drew⟩
theorem ComeH.start {w : World} {C : Array Value} {A : Option Addr} {p : List (List Int)} (h3 : HL w w.heap.size A p) :
    ComeH w ((w.alloc (.cells C 23)).alloc (.cells (nums .u8 (List.replicate 32 0)) 23)) C A p := by
  have hb : Below w.heap.size w ((w.alloc (.cells C 23)).alloc (.cells (nums .u8 (List.replicate 32 0)) 23)) := ((Below.refl _ _).alloc (Nat.le_refl _) _).alloc (by simp) _
  exact ⟨(Row.made _ _ _).alloc _, Row.made2 _ _ _ _, h3.next hb (Nat.le_refl _), hb⟩
attribute [local go_sem ↓ high] read_at write_at
set_option maxHeartbeats 8000000 in
theorem refCome_any (r : List (List Int)) : ∀ (h : List Int) (i n : Nat) (A : Option Addr) (c : Nat) (w : World), (h.length = 32 ∧ bytes h) → i < n → n ≤ 9223372036854775807 → hashes r.reverse → HL w w.heap.size A r.reverse → r.length ≤ c → c ≤ 9223372036854775807 →
    Calls Tryd.prog 87 #[.agg (nums .u8 h), .int .i64 (i : Int), .int .i64 (n : Int), .slice A r.length c] w (GivesC w (comeR h i n r)) := by
  induction r with
  | nil =>
    intro h i n A c w h32 hi hn hp hA hc hcm
    obtain ⟨C, hC⟩ : ∃ C, Hid (C = nums .u8 h) := ⟨_, Lib.hid rfl⟩
    have zC : Hid (C.size = 32) := Lib.hid (by rw [hC.out, nums_size]; exact h32.1)
    have oC : Hid (C.all (·.oneCell') = true) := Lib.hid (by rw [hC.out]; exact nums_one _ _)
    have zZ : Hid ((nums .u8 (List.replicate 32 0)).size = 32) := Lib.hid (by rw [nums_size]; simp)
    have H0 := Lib.hid (ComeH.start (C := C) hA)
    have H32 := Lib.hid h32
    rw [← hC.out]
    clear hp hA h32
    by_cases h1 : n = 1
    · have HF : Hid (comeR h i n [] = some h) := Lib.hid (by unfold comeR; rw [if_pos h1])
      have d1 : ((n : Int) == 1) = true := by rw [h1]; rfl
      clear h1
      go_enter Tryd.func87, Tryd.ntmps87
      go_upto_region 1 with fail
      refine world_gen (fun wx => ComeH w wx C A []) H0.out (fun wx HX => ?_)
      have HX := Lib.hid HX
      have s5 := HX.out.h.read zC.out
      have s6 := HX.out.out.write zZ.out zC.out oC.out
      go_wp2
      refine bodyPost_ret (results_row2 rfl _ _ (w.heap.size + 1) 23 _ (0, 0) _ rfl (HX.out.out.whole C) Tryd.underlying23 rfl (sizeH _ zC.out) _ rfl) rfl ?_
      rw [HF.out]
      exact ⟨⟨h, by rw [hC.out]; rfl, H32.out, fun y hy => Option.some.inj hy⟩, below_setRow HX.out.below (by omega)⟩
    · have HF : Hid (comeR h i n [] = none) := Lib.hid (by unfold comeR; rw [if_neg h1])
      have d1 : ((n : Int) == 1) = false := by simp; omega
      clear h1
      go_enter Tryd.func87, Tryd.ntmps87
      go_upto_region 1 with fail
      refine world_gen (fun wx => ComeH w wx C A []) H0.out (fun wx HX => ?_)
      have HX := Lib.hid HX
      have s5 := HX.out.h.read zC.out
      have s6 := HX.out.out.write zZ.out zC.out oC.out
      go_wp2
      refine bodyPost_ret (results_row2 rfl _ _ (w.heap.size + 1) 23 _ (0, 0) _ rfl (HX.out.out.whole C) Tryd.underlying23 rfl (sizeH _ zC.out) _ rfl) rfl ?_
      rw [HF.out]
      exact ⟨⟨h, by rw [hC.out]; rfl, H32.out, fun y hy => nomatch hy⟩, below_setRow HX.out.below (by omega)⟩
  | cons x r ih =>
    intro h i n A c w h32 hi hn hp hA hc hcm
    obtain ⟨C, hC⟩ : ∃ C, Hid (C = nums .u8 h) := ⟨_, Lib.hid rfl⟩
    have zC : Hid (C.size = 32) := Lib.hid (by rw [hC.out, nums_size]; exact h32.1)
    have oC : Hid (C.all (·.oneCell') = true) := Lib.hid (by rw [hC.out]; exact nums_one _ _)
    have zZ : Hid ((nums .u8 (List.replicate 32 0)).size = 32) := Lib.hid (by rw [nums_size]; simp)
    obtain ⟨m, hm⟩ : ∃ m, Hid (m = r.length) := ⟨_, Lib.hid rfl⟩
    obtain ⟨m1, hm1⟩ : ∃ m1, Hid (m1 = m + 1) := ⟨_, Lib.hid rfl⟩
    have e0 : (x :: r).length = m1 := by rw [hm1.out, hm.out]; rfl
    have HL0 : Hid ((x :: r).reverse = r.reverse ++ [x]) := Lib.hid (List.reverse_cons)
    obtain ⟨p, hpp⟩ : ∃ p, Hid (p = (x :: r).reverse) := ⟨_, Lib.hid rfl⟩
    rw [← hpp.out] at hp hA
    have hpl : p.length = m1 := by rw [hpp.out, List.length_reverse]; exact e0
    obtain ⟨ad, rfl⟩ := hA.some 0 (by rw [hpl, hm1.out]; omega)
    have H0 := Lib.hid (ComeH.start (C := C) hA)
    have H32 := Lib.hid h32
    rw [e0] at hc ⊢
    rw [← hC.out]
    by_cases h1 : n = 1
    · have HF : Hid (comeR h i n (x :: r) = none) := Lib.hid (by unfold comeR; rw [if_pos h1])
      have d1 : ((n : Int) == 1) = true := by rw [h1]; rfl
      have d2 : ((m1 : Int) == 0) = false := by have := hm1.out; simp; omega
      clear h1 ih hp hA h32 e0 hpl
      go_enter Tryd.func87, Tryd.ntmps87
      go_upto_region 1 with fail
      refine world_gen (fun wx => ComeH w wx C (some ad) p) H0.out (fun wx HX => ?_)
      have HX := Lib.hid HX
      have s5 := HX.out.h.read zC.out
      have s6 := HX.out.out.write zZ.out zC.out oC.out
      go_wp2
      refine bodyPost_ret (results_row2 rfl _ _ (w.heap.size + 1) 23 _ (0, 0) _ rfl (HX.out.out.whole C) Tryd.underlying23 rfl (sizeH _ zC.out) _ rfl) rfl ?_
      rw [HF.out]
      exact ⟨⟨h, by rw [hC.out]; rfl, H32.out, fun y hy => nomatch hy⟩, below_setRow HX.out.below (by omega)⟩
    · obtain ⟨k, hk⟩ : ∃ k, Hid (k = splitN n) := ⟨_, Lib.hid rfl⟩
      have hk1 : 0 < k := by rw [hk.out]; exact splitN_pos _ (by omega)
      have hk2 : k < n := by rw [hk.out]; exact splitN_lt _ (by omega)
      have d1 : ((n : Int) == 1) = false := by simp; omega
      have d2 : ((m1 : Int) == 0) = false := by have := hm1.out; simp; omega
      have e1 : (m1 : Int) - 1 = (m : Int) := by have := hm1.out; omega
      have b1 : (m : Int) < (m1 : Int) := by have := hm1.out; omega
      have b2 : (m : Int) ≤ (c : Int) := by have := hm1.out; omega
      have b3 : (m : Int) ≤ (m1 : Int) := by have := hm1.out; omega
      have b4 : (m1 : Int) ≤ (c : Int) := by have := hm1.out; omega
      have hmm : m1 ≤ 9223372036854775807 := by omega
      have hwm : IntKind.i64.wrap (m : Int) = (m : Int) := by rw [IntKind.wrap_i64]; have := hm1.out; omega
      have S1 : Hid (∀ W, Calls Tryd.prog 98 #[.int .i64 (n : Int)] W fun ev w' => ev = .returned (.int .i64 (k : Int)) ∧ W = w') := Lib.hid fun W =>
        (refSplit_any (n : Int) (by omega) W).mono fun ev w' ⟨he, hw⟩ => ⟨by rw [he]; unfold splitI; rw [show ((n : Int)).toNat = n by omega, hk.out], hw⟩
      have hx32 : x.length = 32 ∧ bytes x := by have := hp; rw [hpp.out] at this; exact this x (by simp)
      obtain ⟨X, hX⟩ : ∃ X, Hid (X = nums .u8 x) := ⟨_, Lib.hid rfl⟩
      have zX : Hid (X.size = 32) := Lib.hid (by rw [hX.out, nums_size]; exact hx32.1)
      have oX : Hid (X.all (·.oneCell') = true) := Lib.hid (by rw [hX.out]; exact nums_one _ _)
      have HX32 := Lib.hid hx32
      have hgx : p.getD m [] = x := by
        rw [hpp.out, HL0.out, List.getD_eq_getElem?_getD, List.getElem?_append_right (by rw [List.length_reverse, hm.out]; exact Nat.le_refl _), List.length_reverse, ← hm.out, Nat.sub_self]; rfl
      have hrr : hashes r.reverse := by have := hp; rw [hpp.out, HL0.out] at this; exact fun l hl => this l (List.mem_append_left _ hl)
      have htk : p.take m = r.reverse := by rw [hpp.out, HL0.out, List.take_left' (by rw [List.length_reverse, hm.out])]
      have RD : Hid (∀ W, ComeH w W C (some ad) p → (readAt (.pointer (some (ad.add (m * 32))))).run Tryd.prog W = .ok (.agg X) W) := Lib.hid fun W H => by
        rw [hX.out, ← hgx]; exact H.hl.read hp m (by rw [hpl, hm1.out]; omega)
      clear h1 hp h32 hx32 hgx hpl
      by_cases hlt : i < k
      · have d3 : ((i : Int) < (k : Int)) := by omega
        have X1 : Hid (∀ W, ComeH w W C (some ad) p → Calls Tryd.prog 87 #[.agg C, .int .i64 (i : Int), .int .i64 (k : Int), .slice (some ad) m c] W (GivesC W (comeR h i k r))) := Lib.hid fun W H => by
          have := ih h i k (some ad) c W H32.out (by omega) (by omega) hrr (by rw [← htk]; exact (H.hl.more H.below.size).take m) (by have := hm1.out; rw [← hm.out]; omega) hcm
          rw [← hm.out, ← hC.out] at this
          exact this
        have HF : Hid (comeR h i n (x :: r) = (comeR h i k r).map (fun y => nodeL y x)) := Lib.hid (by
          conv => lhs; unfold comeR
          rw [if_neg (by omega), ← hk.out, if_pos hlt])
        obtain ⟨R, hR⟩ : ∃ R, Hid (R = comeR h i k r) := ⟨_, Lib.hid rfl⟩
        rw [← hR.out] at X1 HF
        go_enter Tryd.func87, Tryd.ntmps87
        go_upto_region 1 with fail
        refine world_gen (fun wx => ComeH w wx C (some ad) p) H0.out (fun wx HX => ?_)
        have HX := Lib.hid HX
        go_upto_region 5 with fail
        refine wp_region_fk (Below wx.heap.size wx) (.get 0 (.get 2 (.get 3 (.get 4 (.get 5 (.get 6 (.get 7 (.fork 1 8 (.call 8 (.get 9 (.call 10 .done))) (.call 1 (.get 9 (.call 10 .done))))))))))) (by kernel_rfl) rfl (by kernel_rfl) (by kernel_rfl) (by intro c a d v w h; cases d <;> exact h) ((Below.refl wx.heap.size wx).drew) (fun Q' hQ => ?_)
        have HS := Lib.hid ((Below.refl wx.heap.size wx).drew)
        have HQ := Lib.hid hQ
        clear hQ
        refine wpFk_get rfl (by rfl) (fun K hK => ?_)
        refine ⟨?_, fun w' hS' => ?_, ?_⟩
        rotate_left
        · go_simp
          try (with_reducible rfl)
        try go_simp
        refine hK _ ?_
        clear hK K
        refine wpFk_get rfl (by rfl) (fun K hK => ?_)
        refine ⟨?_, fun w' hS' => ?_, ?_⟩
        rotate_left
        · go_simp
          try (with_reducible rfl)
        try go_simp
        refine hK _ ?_
        clear hK K
        refine wpFk_get rfl (by rfl) (fun K hK => ?_)
        refine ⟨?_, fun w' hS' => ?_, ?_⟩
        rotate_left
        · go_simp
          try (with_reducible rfl)
        try go_simp
        refine hK _ ?_
        clear hK K
        refine wpFk_get rfl (by rfl) (fun K hK => ?_)
        refine ⟨?_, fun w' hS' => ?_, ?_⟩
        rotate_left
        · go_simp
          try (with_reducible rfl)
        try go_simp
        refine hK _ ?_
        clear hK K
        refine wpFk_get rfl (by rfl) (fun K hK => ?_)
        refine ⟨?_, fun w' hS' => ?_, ?_⟩
        rotate_left
        · go_simp
          try (with_reducible rfl)
        try go_simp
        refine hK _ ?_
        clear hK K
        refine wpFk_get rfl (by rfl) (fun K hK => ?_)
        refine ⟨?_, fun w' hS' => ?_, ?_⟩
        rotate_left
        · go_simp
          try (with_reducible rfl)
        try go_simp
        refine hK _ ?_
        clear hK K
        refine wpFk_get rfl (by rfl) (fun K hK => ?_)
        refine ⟨_, fun w' hS' => get_load rfl rfl (RD.out _ (HX.out.next hS')), ?_⟩
        try go_simp
        refine hK _ ?_
        clear hK K
        refine wpFk_fork ?_ ?_
        · refine wpFk_call rfl (by rfl) (fun K hK => ?_)
          go_simp
          go_at_call 98
          refine (S1.out _).mono ?_
          rintro e w' ⟨rfl, rfl⟩
          refine hK _ _ HS.out ?_
          clear hK K
          refine wpFk_call rfl (by rfl) (fun K hK => ?_)
          go_simp
          obtain ⟨w5, s5, hr5, hb5, hz5⟩ := made_writeD wx X zX.out oX.out
          have HR5 := Lib.hid hr5
          have HB5 := Lib.hid hb5
          clear hr5 hb5 hz5
          replace HS := Lib.hid (HS.out.alloc HS.out.size (.cells (nums .u8 (List.replicate 32 0)) 23))
          refine hK _ _ HS.out ?_
          clear hK K
          refine wpFk_get rfl (by rfl) (fun K hK => ?_)
          refine ⟨?_, fun w' hS' => ?_, ?_⟩
          rotate_left
          · go_simp
            try (with_reducible rfl)
          try go_simp
          refine hK _ ?_
          clear hK K
          refine wpFk_call rfl (by rfl) (fun K hK => ?_)
          go_simp
          replace HS : Hid (Below wx.heap.size wx w5) := HB5
          clear s5
          refine hK _ _ HS.out ?_
          clear hK K
          refine wpFk_done ?_
          refine HQ.out _ _ ?_
          have HC5 := Lib.hid (HX.out.next HS.out)
          have s4 := HC5.out.h.read zC.out
          go_wp2_with (first
            | (go_at_call 87; (with_reducible refine (X1.out _ HC5.out).mono ?_); rintro e w6 ⟨⟨Z, rfl, hz, hy⟩, hb⟩; obtain ⟨Y, hY⟩ : ∃ Y, Hid (Y = nums .u8 Z) := ⟨_, Lib.hid rfl⟩; obtain ⟨V, hV⟩ : ∃ V, Hid (V = nums .u8 (nodeL Z x)) := ⟨_, Lib.hid rfl⟩; rw [← hY.out]; have HZ := Lib.hid hz; have HYY := Lib.hid hy; clear hz hy; have zY : Hid (Y.size = 32) := Lib.hid (by rw [hY.out, nums_size]; exact HZ.out.1); have oY : Hid (Y.all (·.oneCell') = true) := Lib.hid (by rw [hY.out]; exact nums_one _ _); have zV : Hid (V.size = 32) := Lib.hid (by rw [hV.out, nums_size]; exact (nodeL_is _ _).1); have oV : Hid (V.all (·.oneCell') = true) := Lib.hid (by rw [hV.out]; exact nums_one _ _); have N1 : Hid (∀ W, Calls Tryd.prog 99 #[.agg Y, .agg X] W fun ev w' => ev = .returned (.agg V) ∧ Below W.heap.size W w') := Lib.hid (fun W => by rw [hY.out, hX.out, hV.out]; exact refNode_any _ _ HZ.out.1 HX32.out.1 W); obtain ⟨w7, s7, hr7, hb7, hz7⟩ := made_write w6 Y zY.out oY.out; have HC7 := Lib.hid ((HC5.out.next hb).next hb7); have s8 := hr7.read zY.out; have s9 := ((HR5.out.next hb).next hb7).read zX.out; clear hr7 hb7 hz7 hb s4)
            | (go_at_call 99; (with_reducible refine (N1.out _).mono ?_); rintro e w8 ⟨rfl, hb⟩; have HC8 := Lib.hid (HC7.out.next hb); clear hb s7 s8 s9; have s6 := HC8.out.out.write zZ.out zV.out oV.out))
          refine bodyPost_ret (results_row2 rfl _ _ (w.heap.size + 1) 23 _ (0, 0) _ rfl (HC8.out.out.whole V) Tryd.underlying23 rfl (sizeH _ zV.out) _ rfl) rfl ?_
          rw [HF.out]
          refine ⟨⟨nodeL Z x, by rw [hV.out, Option.isSome_map]; rfl, nodeL_is _ _, fun y hy => ?_⟩, below_setRow HC8.out.below (by omega)⟩
          cases hRR : R with
          | none => rw [hRR] at hy; cases hy
          | some z =>
            rw [hRR] at hy
            rw [HYY.out z hRR]
            exact Option.some.inj hy
        · refine wpFk_call rfl (by rfl) (fun K hK => ?_)
          go_simp
          obtain ⟨w5, s5, hr5, hb5, hz5⟩ := made_writeD wx X zX.out oX.out
          have HR5 := Lib.hid hr5
          have HB5 := Lib.hid hb5
          clear hr5 hb5 hz5
          replace HS := Lib.hid (HS.out.alloc HS.out.size (.cells (nums .u8 (List.replicate 32 0)) 23))
          refine hK _ _ HS.out ?_
          clear hK K
          refine wpFk_call rfl (by rfl) (fun K hK => ?_)
          go_simp
          go_at_call 98
          refine (S1.out _).mono ?_
          rintro e w' ⟨rfl, rfl⟩
          refine hK _ _ HS.out ?_
          clear hK K
          refine wpFk_get rfl (by rfl) (fun K hK => ?_)
          refine ⟨?_, fun w' hS' => ?_, ?_⟩
          rotate_left
          · go_simp
            try (with_reducible rfl)
          try go_simp
          refine hK _ ?_
          clear hK K
          refine wpFk_call rfl (by rfl) (fun K hK => ?_)
          go_simp
          replace HS : Hid (Below wx.heap.size wx w5) := HB5
          clear s5
          refine hK _ _ HS.out ?_
          clear hK K
          refine wpFk_done ?_
          refine HQ.out _ _ ?_
          have HC5 := Lib.hid (HX.out.next HS.out)
          have s4 := HC5.out.h.read zC.out
          go_wp2_with (first
            | (go_at_call 87; (with_reducible refine (X1.out _ HC5.out).mono ?_); rintro e w6 ⟨⟨Z, rfl, hz, hy⟩, hb⟩; obtain ⟨Y, hY⟩ : ∃ Y, Hid (Y = nums .u8 Z) := ⟨_, Lib.hid rfl⟩; obtain ⟨V, hV⟩ : ∃ V, Hid (V = nums .u8 (nodeL Z x)) := ⟨_, Lib.hid rfl⟩; rw [← hY.out]; have HZ := Lib.hid hz; have HYY := Lib.hid hy; clear hz hy; have zY : Hid (Y.size = 32) := Lib.hid (by rw [hY.out, nums_size]; exact HZ.out.1); have oY : Hid (Y.all (·.oneCell') = true) := Lib.hid (by rw [hY.out]; exact nums_one _ _); have zV : Hid (V.size = 32) := Lib.hid (by rw [hV.out, nums_size]; exact (nodeL_is _ _).1); have oV : Hid (V.all (·.oneCell') = true) := Lib.hid (by rw [hV.out]; exact nums_one _ _); have N1 : Hid (∀ W, Calls Tryd.prog 99 #[.agg Y, .agg X] W fun ev w' => ev = .returned (.agg V) ∧ Below W.heap.size W w') := Lib.hid (fun W => by rw [hY.out, hX.out, hV.out]; exact refNode_any _ _ HZ.out.1 HX32.out.1 W); obtain ⟨w7, s7, hr7, hb7, hz7⟩ := made_write w6 Y zY.out oY.out; have HC7 := Lib.hid ((HC5.out.next hb).next hb7); have s8 := hr7.read zY.out; have s9 := ((HR5.out.next hb).next hb7).read zX.out; clear hr7 hb7 hz7 hb s4)
            | (go_at_call 99; (with_reducible refine (N1.out _).mono ?_); rintro e w8 ⟨rfl, hb⟩; have HC8 := Lib.hid (HC7.out.next hb); clear hb s7 s8 s9; have s6 := HC8.out.out.write zZ.out zV.out oV.out))
          refine bodyPost_ret (results_row2 rfl _ _ (w.heap.size + 1) 23 _ (0, 0) _ rfl (HC8.out.out.whole V) Tryd.underlying23 rfl (sizeH _ zV.out) _ rfl) rfl ?_
          rw [HF.out]
          refine ⟨⟨nodeL Z x, by rw [hV.out, Option.isSome_map]; rfl, nodeL_is _ _, fun y hy => ?_⟩, below_setRow HC8.out.below (by omega)⟩
          cases hRR : R with
          | none => rw [hRR] at hy; cases hy
          | some z =>
            rw [hRR] at hy
            rw [HYY.out z hRR]
            exact Option.some.inj hy
      · have d3 : ¬ ((i : Int) < (k : Int)) := by omega
        have X1 : Hid (∀ W, ComeH w W C (some ad) p → Calls Tryd.prog 87 #[.agg C, .int .i64 ((i : Int) - (k : Int) : Int), .int .i64 ((n : Int) - (k : Int) : Int), .slice (some ad) m c] W (GivesC W (comeR h (i - k) (n - k) r))) := Lib.hid fun W H => by
          have := ih h (i - k) (n - k) (some ad) c W H32.out (by omega) (by omega) hrr (by rw [← htk]; exact (H.hl.more H.below.size).take m) (by have := hm1.out; rw [← hm.out]; omega) hcm
          rw [← hm.out, ← hC.out] at this
          rwa [show (((i - k : Nat)) : Int) = (i : Int) - (k : Int) by omega, show (((n - k : Nat)) : Int) = (n : Int) - (k : Int) by omega] at this
        have HF : Hid (comeR h i n (x :: r) = (comeR h (i - k) (n - k) r).map (fun y => nodeL x y)) := Lib.hid (by
          conv => lhs; unfold comeR
          rw [if_neg (by omega), ← hk.out, if_neg hlt])
        obtain ⟨R, hR⟩ : ∃ R, Hid (R = comeR h (i - k) (n - k) r) := ⟨_, Lib.hid rfl⟩
        rw [← hR.out] at X1 HF
        go_enter Tryd.func87, Tryd.ntmps87
        go_upto_region 1 with fail
        refine world_gen (fun wx => ComeH w wx C (some ad) p) H0.out (fun wx HX => ?_)
        have HX := Lib.hid HX
        go_upto_region 5 with fail
        refine wp_region_fk (Below wx.heap.size wx) (.get 0 (.get 2 (.get 3 (.get 4 (.get 5 (.get 6 (.get 7 (.fork 1 8 (.call 8 (.get 9 (.call 10 .done))) (.call 1 (.get 9 (.call 10 .done))))))))))) (by kernel_rfl) rfl (by kernel_rfl) (by kernel_rfl) (by intro c a d v w h; cases d <;> exact h) ((Below.refl wx.heap.size wx).drew) (fun Q' hQ => ?_)
        have HS := Lib.hid ((Below.refl wx.heap.size wx).drew)
        have HQ := Lib.hid hQ
        clear hQ
        refine wpFk_get rfl (by rfl) (fun K hK => ?_)
        refine ⟨?_, fun w' hS' => ?_, ?_⟩
        rotate_left
        · go_simp
          try (with_reducible rfl)
        try go_simp
        refine hK _ ?_
        clear hK K
        refine wpFk_get rfl (by rfl) (fun K hK => ?_)
        refine ⟨?_, fun w' hS' => ?_, ?_⟩
        rotate_left
        · go_simp
          try (with_reducible rfl)
        try go_simp
        refine hK _ ?_
        clear hK K
        refine wpFk_get rfl (by rfl) (fun K hK => ?_)
        refine ⟨?_, fun w' hS' => ?_, ?_⟩
        rotate_left
        · go_simp
          try (with_reducible rfl)
        try go_simp
        refine hK _ ?_
        clear hK K
        refine wpFk_get rfl (by rfl) (fun K hK => ?_)
        refine ⟨?_, fun w' hS' => ?_, ?_⟩
        rotate_left
        · go_simp
          try (with_reducible rfl)
        try go_simp
        refine hK _ ?_
        clear hK K
        refine wpFk_get rfl (by rfl) (fun K hK => ?_)
        refine ⟨?_, fun w' hS' => ?_, ?_⟩
        rotate_left
        · go_simp
          try (with_reducible rfl)
        try go_simp
        refine hK _ ?_
        clear hK K
        refine wpFk_get rfl (by rfl) (fun K hK => ?_)
        refine ⟨?_, fun w' hS' => ?_, ?_⟩
        rotate_left
        · go_simp
          try (with_reducible rfl)
        try go_simp
        refine hK _ ?_
        clear hK K
        refine wpFk_get rfl (by rfl) (fun K hK => ?_)
        refine ⟨_, fun w' hS' => get_load rfl rfl (RD.out _ (HX.out.next hS')), ?_⟩
        try go_simp
        refine hK _ ?_
        clear hK K
        refine wpFk_fork ?_ ?_
        · refine wpFk_call rfl (by rfl) (fun K hK => ?_)
          go_simp
          go_at_call 98
          refine (S1.out _).mono ?_
          rintro e w' ⟨rfl, rfl⟩
          refine hK _ _ HS.out ?_
          clear hK K
          refine wpFk_call rfl (by rfl) (fun K hK => ?_)
          go_simp
          obtain ⟨w5, s5, hr5, hb5, hz5⟩ := made_writeD wx X zX.out oX.out
          have HR5 := Lib.hid hr5
          have HB5 := Lib.hid hb5
          clear hr5 hb5 hz5
          replace HS := Lib.hid (HS.out.alloc HS.out.size (.cells (nums .u8 (List.replicate 32 0)) 23))
          refine hK _ _ HS.out ?_
          clear hK K
          refine wpFk_get rfl (by rfl) (fun K hK => ?_)
          refine ⟨?_, fun w' hS' => ?_, ?_⟩
          rotate_left
          · go_simp
            try (with_reducible rfl)
          try go_simp
          refine hK _ ?_
          clear hK K
          refine wpFk_call rfl (by rfl) (fun K hK => ?_)
          go_simp
          replace HS : Hid (Below wx.heap.size wx w5) := HB5
          clear s5
          refine hK _ _ HS.out ?_
          clear hK K
          refine wpFk_done ?_
          refine HQ.out _ _ ?_
          have HC5 := Lib.hid (HX.out.next HS.out)
          have s4 := HC5.out.h.read zC.out
          go_wp2_with (first
            | (go_at_call 87; (with_reducible refine (X1.out _ HC5.out).mono ?_); rintro e w6 ⟨⟨Z, rfl, hz, hy⟩, hb⟩; obtain ⟨Y, hY⟩ : ∃ Y, Hid (Y = nums .u8 Z) := ⟨_, Lib.hid rfl⟩; obtain ⟨V, hV⟩ : ∃ V, Hid (V = nums .u8 (nodeL x Z)) := ⟨_, Lib.hid rfl⟩; rw [← hY.out]; have HZ := Lib.hid hz; have HYY := Lib.hid hy; clear hz hy; have zY : Hid (Y.size = 32) := Lib.hid (by rw [hY.out, nums_size]; exact HZ.out.1); have oY : Hid (Y.all (·.oneCell') = true) := Lib.hid (by rw [hY.out]; exact nums_one _ _); have zV : Hid (V.size = 32) := Lib.hid (by rw [hV.out, nums_size]; exact (nodeL_is _ _).1); have oV : Hid (V.all (·.oneCell') = true) := Lib.hid (by rw [hV.out]; exact nums_one _ _); have N1 : Hid (∀ W, Calls Tryd.prog 99 #[.agg X, .agg Y] W fun ev w' => ev = .returned (.agg V) ∧ Below W.heap.size W w') := Lib.hid (fun W => by rw [hY.out, hX.out, hV.out]; exact refNode_any _ _ HX32.out.1 HZ.out.1 W); obtain ⟨w7, s7, hr7, hb7, hz7⟩ := made_write w6 Y zY.out oY.out; have HC7 := Lib.hid ((HC5.out.next hb).next hb7); have s8 := hr7.read zY.out; have s9 := ((HR5.out.next hb).next hb7).read zX.out; clear hr7 hb7 hz7 hb s4)
            | (go_at_call 99; (with_reducible refine (N1.out _).mono ?_); rintro e w8 ⟨rfl, hb⟩; have HC8 := Lib.hid (HC7.out.next hb); clear hb s7 s8 s9; have s6 := HC8.out.out.write zZ.out zV.out oV.out))
          refine bodyPost_ret (results_row2 rfl _ _ (w.heap.size + 1) 23 _ (0, 0) _ rfl (HC8.out.out.whole V) Tryd.underlying23 rfl (sizeH _ zV.out) _ rfl) rfl ?_
          rw [HF.out]
          refine ⟨⟨nodeL x Z, by rw [hV.out, Option.isSome_map]; rfl, nodeL_is _ _, fun y hy => ?_⟩, below_setRow HC8.out.below (by omega)⟩
          cases hRR : R with
          | none => rw [hRR] at hy; cases hy
          | some z =>
            rw [hRR] at hy
            rw [HYY.out z hRR]
            exact Option.some.inj hy
        · refine wpFk_call rfl (by rfl) (fun K hK => ?_)
          go_simp
          obtain ⟨w5, s5, hr5, hb5, hz5⟩ := made_writeD wx X zX.out oX.out
          have HR5 := Lib.hid hr5
          have HB5 := Lib.hid hb5
          clear hr5 hb5 hz5
          replace HS := Lib.hid (HS.out.alloc HS.out.size (.cells (nums .u8 (List.replicate 32 0)) 23))
          refine hK _ _ HS.out ?_
          clear hK K
          refine wpFk_call rfl (by rfl) (fun K hK => ?_)
          go_simp
          go_at_call 98
          refine (S1.out _).mono ?_
          rintro e w' ⟨rfl, rfl⟩
          refine hK _ _ HS.out ?_
          clear hK K
          refine wpFk_get rfl (by rfl) (fun K hK => ?_)
          refine ⟨?_, fun w' hS' => ?_, ?_⟩
          rotate_left
          · go_simp
            try (with_reducible rfl)
          try go_simp
          refine hK _ ?_
          clear hK K
          refine wpFk_call rfl (by rfl) (fun K hK => ?_)
          go_simp
          replace HS : Hid (Below wx.heap.size wx w5) := HB5
          clear s5
          refine hK _ _ HS.out ?_
          clear hK K
          refine wpFk_done ?_
          refine HQ.out _ _ ?_
          have HC5 := Lib.hid (HX.out.next HS.out)
          have s4 := HC5.out.h.read zC.out
          go_wp2_with (first
            | (go_at_call 87; (with_reducible refine (X1.out _ HC5.out).mono ?_); rintro e w6 ⟨⟨Z, rfl, hz, hy⟩, hb⟩; obtain ⟨Y, hY⟩ : ∃ Y, Hid (Y = nums .u8 Z) := ⟨_, Lib.hid rfl⟩; obtain ⟨V, hV⟩ : ∃ V, Hid (V = nums .u8 (nodeL x Z)) := ⟨_, Lib.hid rfl⟩; rw [← hY.out]; have HZ := Lib.hid hz; have HYY := Lib.hid hy; clear hz hy; have zY : Hid (Y.size = 32) := Lib.hid (by rw [hY.out, nums_size]; exact HZ.out.1); have oY : Hid (Y.all (·.oneCell') = true) := Lib.hid (by rw [hY.out]; exact nums_one _ _); have zV : Hid (V.size = 32) := Lib.hid (by rw [hV.out, nums_size]; exact (nodeL_is _ _).1); have oV : Hid (V.all (·.oneCell') = true) := Lib.hid (by rw [hV.out]; exact nums_one _ _); have N1 : Hid (∀ W, Calls Tryd.prog 99 #[.agg X, .agg Y] W fun ev w' => ev = .returned (.agg V) ∧ Below W.heap.size W w') := Lib.hid (fun W => by rw [hY.out, hX.out, hV.out]; exact refNode_any _ _ HX32.out.1 HZ.out.1 W); obtain ⟨w7, s7, hr7, hb7, hz7⟩ := made_write w6 Y zY.out oY.out; have HC7 := Lib.hid ((HC5.out.next hb).next hb7); have s8 := hr7.read zY.out; have s9 := ((HR5.out.next hb).next hb7).read zX.out; clear hr7 hb7 hz7 hb s4)
            | (go_at_call 99; (with_reducible refine (N1.out _).mono ?_); rintro e w8 ⟨rfl, hb⟩; have HC8 := Lib.hid (HC7.out.next hb); clear hb s7 s8 s9; have s6 := HC8.out.out.write zZ.out zV.out oV.out))
          refine bodyPost_ret (results_row2 rfl _ _ (w.heap.size + 1) 23 _ (0, 0) _ rfl (HC8.out.out.whole V) Tryd.underlying23 rfl (sizeH _ zV.out) _ rfl) rfl ?_
          rw [HF.out]
          refine ⟨⟨nodeL x Z, by rw [hV.out, Option.isSome_map]; rfl, nodeL_is _ _, fun y hy => ?_⟩, below_setRow HC8.out.below (by omega)⟩
          cases hRR : R with
          | none => rw [hRR] at hy; cases hy
          | some z =>
            rw [hRR] at hy
            rw [HYY.out z hRR]
            exact Option.some.inj hy
end Go.Proofs.YtpndccoikhejgaaDoor
