/-
  The walk of lamport.Secret (layer 8): one of a key's secrets, or zero. Conditions: the two tables as they were laid, a seed of at most 100000 bytes, numbers that fit. What it makes is new memory; nothing that was there changes.
-/
import Derived.Test.YtllabnhgiojmmaaDoorLampSmall
namespace Go.Proofs.YtllabnhgiojmmaaDoor
open Go.RowKit Go.Great
set_option linter.unusedVariables false
set_option maxRecDepth 100000

attribute [local go_sem ↓ high] read_at write_at
set_option maxHeartbeats 8000000 in
theorem lsecret_any : SecretSays := by
  intro seed index i bit w hT hs hx hi hb
  unfold num64 at hx hi hb
  have H0 := Lib.hid (OutH.start w)
  have zZ : Hid ((nums .u8 (List.replicate 32 0)).size = 32) := Lib.hid (by rw [nums_size]; simp)
  have oZ : Hid ((nums .u8 (List.replicate 32 0)).all (·.oneCell') = true) := Lib.hid (nums_one _ _)
  have hZ := sizeH _ zZ.out
  by_cases h1 : index < 0 ∨ 2147483647 < index
  · have KY : Hid (∀ W, Calls Tryd.prog 20 #[.int .i64 index] W fun e w' => e = .returned (.bool false) ∧ W = w') := Lib.hid fun W => isKey_no index h1 W
    have HF : Hid (secF seed index i bit = zeroL) := Lib.hid (secF_no (by omega))
    rw [HF.out]
    clear hx hi hb hs HF h1
    go_enter Tryd.func11, Tryd.ntmps11
    go_upto_region 1 with fail
    refine world_gen (fun X => OutH w X) H0.out (fun X HX => ?_)
    have HX := Lib.hid HX
    go_wp2_with (first
      | (go_at_call 20; (with_reducible refine (KY.out _).mono ?_); rintro e w1 ⟨rfl, rfl⟩)
      | (refine wpList_store_row rfl 24 _ _ rfl w.heap.size (nums .u8 (List.replicate 32 0)) rfl rfl 24 _ HX.out.1 hZ (by rw [zZ.out]) oZ.out ?_))
    refine bodyPost_ret (results_cell_row rfl _ _ w.heap.size 24 _ (0, 0) _ rfl (HX.out.1.whole _) Tryd.underlying24 rfl hZ) rfl ⟨rfl, below_setRow HX.out.2 (Nat.le_refl _)⟩
  have KY : Hid (∀ W, Calls Tryd.prog 20 #[.int .i64 index] W fun e w' => e = .returned (.bool true) ∧ W = w') := Lib.hid fun W => isKey_yes index (by omega) W
  by_cases h2 : i < 0
  · have d0 : decide (i < 0) = true := decide_eq_true h2
    have HF : Hid (secF seed index i bit = zeroL) := Lib.hid (secF_no (by omega))
    rw [HF.out]
    clear hx hi hb hs HF h1 h2
    go_enter Tryd.func11, Tryd.ntmps11
    go_upto_region 1 with fail
    refine world_gen (fun X => OutH w X) H0.out (fun X HX => ?_)
    have HX := Lib.hid HX
    go_wp2_with (first
      | (go_at_call 20; (with_reducible refine (KY.out _).mono ?_); rintro e w1 ⟨rfl, rfl⟩)
      | (refine wpList_store_row rfl 24 _ _ rfl w.heap.size (nums .u8 (List.replicate 32 0)) rfl rfl 24 _ HX.out.1 hZ (by rw [zZ.out]) oZ.out ?_))
    refine bodyPost_ret (results_cell_row rfl _ _ w.heap.size 24 _ (0, 0) _ rfl (HX.out.1.whole _) Tryd.underlying24 rfl hZ) rfl ⟨rfl, below_setRow HX.out.2 (Nat.le_refl _)⟩
  have d0 : decide (i < 0) = false := decide_eq_false h2
  by_cases h3 : 256 ≤ i
  · have d1 : decide (256 ≤ i) = true := decide_eq_true h3
    have HF : Hid (secF seed index i bit = zeroL) := Lib.hid (secF_no (by omega))
    rw [HF.out]
    clear hx hi hb hs HF h1 h2 h3
    go_enter Tryd.func11, Tryd.ntmps11
    go_upto_region 1 with fail
    refine world_gen (fun X => OutH w X) H0.out (fun X HX => ?_)
    have HX := Lib.hid HX
    go_wp2_with (first
      | (go_at_call 20; (with_reducible refine (KY.out _).mono ?_); rintro e w1 ⟨rfl, rfl⟩)
      | (refine wpList_store_row rfl 24 _ _ rfl w.heap.size (nums .u8 (List.replicate 32 0)) rfl rfl 24 _ HX.out.1 hZ (by rw [zZ.out]) oZ.out ?_))
    refine bodyPost_ret (results_cell_row rfl _ _ w.heap.size 24 _ (0, 0) _ rfl (HX.out.1.whole _) Tryd.underlying24 rfl hZ) rfl ⟨rfl, below_setRow HX.out.2 (Nat.le_refl _)⟩
  have d1 : decide (256 ≤ i) = false := decide_eq_false h3
  by_cases h4 : bit < 0
  · have d2 : decide (bit < 0) = true := decide_eq_true h4
    have HF : Hid (secF seed index i bit = zeroL) := Lib.hid (secF_no (by omega))
    rw [HF.out]
    clear hx hi hb hs HF h1 h2 h3 h4
    go_enter Tryd.func11, Tryd.ntmps11
    go_upto_region 1 with fail
    refine world_gen (fun X => OutH w X) H0.out (fun X HX => ?_)
    have HX := Lib.hid HX
    go_wp2_with (first
      | (go_at_call 20; (with_reducible refine (KY.out _).mono ?_); rintro e w1 ⟨rfl, rfl⟩)
      | (refine wpList_store_row rfl 24 _ _ rfl w.heap.size (nums .u8 (List.replicate 32 0)) rfl rfl 24 _ HX.out.1 hZ (by rw [zZ.out]) oZ.out ?_))
    refine bodyPost_ret (results_cell_row rfl _ _ w.heap.size 24 _ (0, 0) _ rfl (HX.out.1.whole _) Tryd.underlying24 rfl hZ) rfl ⟨rfl, below_setRow HX.out.2 (Nat.le_refl _)⟩
  have d2 : decide (bit < 0) = false := decide_eq_false h4
  by_cases h5 : 1 < bit
  · have d3 : decide (1 < bit) = true := decide_eq_true h5
    have HF : Hid (secF seed index i bit = zeroL) := Lib.hid (secF_no (by omega))
    rw [HF.out]
    clear hx hi hb hs HF h1 h2 h3 h4 h5
    go_enter Tryd.func11, Tryd.ntmps11
    go_upto_region 1 with fail
    refine world_gen (fun X => OutH w X) H0.out (fun X HX => ?_)
    have HX := Lib.hid HX
    go_wp2_with (first
      | (go_at_call 20; (with_reducible refine (KY.out _).mono ?_); rintro e w1 ⟨rfl, rfl⟩)
      | (refine wpList_store_row rfl 24 _ _ rfl w.heap.size (nums .u8 (List.replicate 32 0)) rfl rfl 24 _ HX.out.1 hZ (by rw [zZ.out]) oZ.out ?_))
    refine bodyPost_ret (results_cell_row rfl _ _ w.heap.size 24 _ (0, 0) _ rfl (HX.out.1.whole _) Tryd.underlying24 rfl hZ) rfl ⟨rfl, below_setRow HX.out.2 (Nat.le_refl _)⟩
  have d3 : decide (1 < bit) = false := decide_eq_false h5
  obtain ⟨I, rfl⟩ : ∃ I : Nat, index = I := ⟨index.toNat, by omega⟩
  obtain ⟨K, rfl⟩ : ∃ K : Nat, i = K := ⟨i.toNat, by omega⟩
  obtain ⟨B, rfl⟩ : ∃ B : Nat, bit = B := ⟨bit.toNat, by omega⟩
  rw [secF_ok (by omega) (by omega) (by omega), ← secN_at]
  obtain ⟨C, hC⟩ : ∃ C, Hid (C = nums .u8 (secN seed I (2 * K + B))) := ⟨_, Lib.hid rfl⟩
  have zC : Hid (C.size = 32) := Lib.hid (by rw [hC.out, nums_size]; exact (secN_is _ _ _).1)
  have oC : Hid (C.all (·.oneCell') = true) := Lib.hid (by rw [hC.out]; exact nums_one _ _)
  obtain ⟨T, hTx⟩ : ∃ T, Hid (T = keyT seed I) := ⟨_, Lib.hid rfl⟩
  obtain ⟨n, hn⟩ : ∃ n, n = 2 * K + B := ⟨_, rfl⟩
  have X1 : Hid (∀ W, Calls Tryd.prog 21 #[.string seed, .int .i64 (I : Int)] W fun e w' => e = .returned (.string T) ∧ Below W.heap.size W w') := Lib.hid fun W => by
    rw [hTx.out]; exact keyText_any seed hs I (by omega) W
  have X2 : Hid (∀ W, Tab W → Calls Tryd.prog 22 #[.string T, .int .i64 (n : Int)] W fun e w' => e = .returned (.agg C) ∧ Below W.heap.size W w') := Lib.hid fun W h => by
    have := keyT_size seed I hs
    rw [hC.out, hTx.out, hn]; exact secret_any (keyT seed I) (by omega) (2 * K + B) (by omega) W h
  have hw1 : IntKind.i64.wrap (2 * (K : Int)) = 2 * (K : Int) := by rw [IntKind.wrap_i64]; omega
  have hw2 : IntKind.i64.wrap (2 * (K : Int) + (B : Int)) = (n : Int) := by rw [IntKind.wrap_i64]; omega
  have HT := Lib.hid hT
  rw [← hC.out]
  clear h1 h2 h3 h4 h5 hx hi hb hs hn hT
  go_enter Tryd.func11, Tryd.ntmps11
  go_upto_region 1 with fail
  refine world_gen (fun X => OutH w X) H0.out (fun X HX => ?_)
  have HX := Lib.hid HX
  go_wp2_with (first
    | (go_at_call 20; (with_reducible refine (KY.out _).mono ?_); rintro e w1 ⟨rfl, rfl⟩)
    | (go_at_call 21; (with_reducible refine (X1.out _).mono ?_); rintro e w1 ⟨rfl, hb⟩; have HX := Lib.hid (HX.out.next hb); clear hb)
    | (go_at_call 22; have hq := HT.out.next HX.out.2; (with_reducible refine (X2.out _ hq).mono ?_); rintro e w2 ⟨rfl, hb⟩; have HX := Lib.hid (HX.out.next hb); clear hb hq; have s6 := HX.out.1.write zZ.out zC.out oC.out))
  refine bodyPost_ret (results_cell_row rfl _ _ w.heap.size 24 _ (0, 0) _ rfl (HX.out.1.whole _) Tryd.underlying24 rfl (sizeH _ zC.out)) rfl ⟨rfl, below_setRow HX.out.2 (Nat.le_refl _)⟩
end Go.Proofs.YtllabnhgiojmmaaDoor
