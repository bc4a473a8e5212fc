/-
  The walk of the statement RangesFull: it returns true; what it makes is new memory, nothing that was there changes. Condition: the two tables as they were laid.
-/
import Derived.Test.YtcafmnlledhdjaaDoorRangeExW
namespace Go.Proofs.YtcafmnlledhdjaaDoor
open Go.RowKit
set_option linter.unusedVariables false
set_option maxRecDepth 100000

/-- Leaves and a range of the call's own, while its hashes are appended. -/
def FullH (w1 wr : World) (s : Int) (A : Option Addr) (k c : Nat) (hs : List (List Int)) : Prop :=
  Row wr w1.heap.size 24 #[.int .i64 s, .slice A k c] ∧ wr.ownsRow (w1.heap.size + 1) 31 32 (.slice A k c) k (cellsL hs) ∧ w1.heap.size + 1 ≤ wr.heap.size ∧ Below w1.heap.size w1 wr
def fullH (i : Nat) : List Int := [(i : Int)] ++ List.replicate 31 0
theorem fullH_is (i : Nat) (h : i < 256) : (fullH i).length = 32 ∧ bytes (fullH i) := by
  refine ⟨by simp [fullH], fun x hx => ?_⟩
  simp only [fullH, List.mem_append, List.mem_singleton] at hx
  rcases hx with rfl | hx
  · omega
  · have := List.eq_of_mem_replicate hx; omega
theorem FullH.step {w1 wr w4 : World} {s : Int} {A A' : Option Addr} {k c c' : Nat} {hs : List (List Int)} {x : List Int} {C : Array Value} {t : TypeId} (h : FullH w1 wr s A k c hs)
    (ho : w4.ownsRow (w1.heap.size + 1) 31 32 (.slice A' (k + 1) c') (k + 1) (cellsL hs ++ x.map (Value.int .u8))) (hg : (wr.alloc (.cells C t)).grownBy w4 (Value.slice A k c).ownBlock) :
    Row w4 w1.heap.size 24 #[.int .i64 s, .slice A k c] ∧ FullH w1 (w4.setCell ⟨w1.heap.size, 1, none⟩ (.slice A' (k + 1) c')) s A' (k + 1) c' (hs ++ [x]) := by
  obtain ⟨h1, h2, h3, h4⟩ := h
  have hne : some w1.heap.size ≠ (Value.slice A k c).ownBlock := fun e => by have := h2.lt _ e.symm; omega
  have r0 := (h1.alloc (.cells C t)).grown hg hne
  have hb : Below w1.heap.size w1 w4 := (h4.alloc h4.size _).grown hg (by have := h4.size; simp; omega) (fun b e => by have := h2.lt b e; omega)
  refine ⟨r0, r0.put 1 _, ?_, ?_, hb.setCell (Nat.le_refl _) _⟩
  · rw [cellsL_snoc]
    exact own_at ho (fun b hb _ => Below.heap_setCell _ _ _ b (by show b ≠ w1.heap.size; omega))
  · have := hg.size
    simp [World.setCell] at this ⊢; omega
theorem ones_bits (s i : Nat) : ones (s % 2 ^ (i + 1)) = ones (s % 2 ^ i) + s / 2 ^ i % 2 := by
  induction i generalizing s with
  | zero =>
    rw [Nat.pow_zero, Nat.mod_one, ones_zero, Nat.div_one]
    rcases Nat.mod_two_eq_zero_or_one s with h | h
    · rw [show s % 2 ^ (0 + 1) = 0 by simpa using h, ones_zero]
    · rw [show s % 2 ^ (0 + 1) = 1 by simpa using h, ones_1]
  | succ i ih =>
    have e : ∀ j, ones (s % 2 ^ (j + 1)) = s % 2 + ones (s / 2 % 2 ^ j) := fun j => by
      rw [ones_half]
      have e1 : s % 2 ^ (j + 1) % 2 = s % 2 := Nat.mod_mod_of_dvd s ⟨2 ^ j, by rw [Nat.pow_succ]; omega⟩
      have e2 : s % 2 ^ (j + 1) / 2 = s / 2 % 2 ^ j := by
        rw [Nat.pow_succ, Nat.mul_comm]
        exact Nat.mod_mul_right_div_self s 2 (2 ^ j)
      rw [e1, e2]
    rw [e (i + 1), e i, ih (s / 2), Nat.div_div_eq_div_mul, show 2 * 2 ^ i = 2 ^ (i + 1) by rw [Nat.pow_succ]; omega]
    omega
attribute [local go_sem ↓ high] read_at
set_option maxHeartbeats 40000000 in
theorem fulllaw_any (mi co : Int) (hmi : 0 ≤ mi ∧ mi ≤ 255) (hco : 0 ≤ co ∧ co ≤ 255) (w : World) (hT : Tab w) :
    Calls Tryd.prog 6 #[.int .u8 mi, .int .u8 co] w fun e w' => e = .returned (.bool true) ∧ Below w.heap.size w w' := by
  obtain ⟨i0, hi, hz0, hz1, hz2⟩ := info_parts infoHash
  obtain ⟨m, rfl⟩ : ∃ m : Nat, mi = m := ⟨mi.toNat, by omega⟩
  obtain ⟨n, rfl⟩ : ∃ n : Nat, co = n := ⟨co.toNat, by omega⟩
  have hm : m ≤ 255 := by omega
  have hn : n ≤ 255 := by omega
  obtain ⟨s, hs⟩ : ∃ s : Nat, Hid (s + m = 4096) := ⟨4096 - m, Lib.hid (by omega)⟩
  have es : 4096 - (m : Int) = (s : Int) := by have := hs.out; omega
  have hs1 : s ≤ 4096 := by have := hs.out; omega
  obtain ⟨ls, hls⟩ : ∃ ls, Hid (ls = someN 3 n) := ⟨_, Lib.hid rfl⟩
  have hh : hashes ls := by rw [hls.out]; exact someN_hashes 3 (by omega) n (by omega)
  have ll : Hid (ls.length = n) := Lib.hid (by rw [hls.out, someN_length])
  have S0 : Hid (∀ W, Calls Tryd.prog 26 #[.int .i64 (n : Int), .int .u8 3] W fun ev w' => (∃ A c, ev = .returned (.slice A n c) ∧ (n ≤ c ∧ c ≤ maxLen) ∧ HW w' A ls) ∧ Below W.heap.size W w') := Lib.hid fun W =>
    (some2_any n (by omega) 3 (by omega) W).mono fun ev w' ⟨⟨A, c, he, hc, hA, _⟩, hb⟩ => ⟨⟨A, c, he, hc, by rw [hls.out]; exact hA⟩, hb⟩
  have HT := Lib.hid hT
  have hmm : (m : Int) % 256 = (m : Int) := by omega
  have hnn : (n : Int) % 256 = (n : Int) := by omega
  clear hT hmi hco
  go_enter Tryd.func6, Tryd.ntmps6
  go_upto_region 3 with (go_at_call 26; (with_reducible refine (S0.out _).mono ?_); rintro e w1 ⟨⟨LA, lc, rfl, hc, hA⟩, hb⟩; have H1 : Hid (HW w1 LA ls ∧ Tab w1 ∧ Below w.heap.size w w1) := Lib.hid ⟨hA, HT.out.next hb, hb⟩; have HC := Lib.hid hc; clear hb hA hc)
  clear S0
  refine world_gen (fun W => FullH w1 W (s : Int) none 0 0 []) ⟨Row.made _ _ _, ⟨rfl, .inl ⟨rfl, rfl⟩⟩, by simp, (Below.refl _ _).alloc (Nat.le_refl _) _⟩ (fun w2 H2 => ?_)
  have H2 : Hid (FullH w1 w2 (s : Int) none 0 0 []) := Lib.hid H2
  go_wp2
  go_loopw [7] (fun s7 wr => ∃ (i k c' : Nat) (A : Option Addr) (hs' : List (List Int)), s7 = .int .i64 (i : Int) ∧ i ≤ 13 ∧ Hid (k = ones (s % 2 ^ i) ∧ hs'.length = k ∧ hashes hs') ∧ Hid (FullH w1 wr (s : Int) A k c' hs')) (fun s7 _ => 13 - (intOf s7).toNat)
  case atStart => exact ⟨0, 0, 0, none, [], rfl, by omega, Lib.hid ⟨by rw [Nat.pow_zero, Nat.mod_one, ones_zero], rfl, fun _ h => nomatch h⟩, H2⟩
  case round =>
    clear H2
    obtain ⟨i, k, c', A, hs', rfl, hi13, HK, HF⟩ := hrel
    have c0 := HF.out.1.cell 0
    have c1 := HF.out.1.cell 1
    by_cases hlt : i < 13
    · have hq : (s : Int) / 2 ^ i = ((s / 2 ^ i : Nat) : Int) := by rw [Int.natCast_ediv, Int.natCast_pow]; rfl
      have hq2 : ((s : Int) / 2 ^ i).tmod 2 = ((s / 2 ^ i % 2 : Nat) : Int) := by
        obtain ⟨Q, hQ⟩ : ∃ Q, Q = s / 2 ^ i := ⟨_, rfl⟩
        rw [hq, ← hQ, Int.tmod_eq_emod_of_nonneg (Int.natCast_nonneg _)]; omega
      have hob := ones_bits s i
      by_cases hbit : s / 2 ^ i % 2 = 1
      · have d1 : (((s : Int) / 2 ^ i).tmod 2 == 1) = true := by rw [hq2, hbit]; rfl
        obtain ⟨C, hC⟩ : ∃ C, Hid (C = nums .u8 (fullH i)) := ⟨_, Lib.hid rfl⟩
        have hfi := fullH_is i (by omega)
        have zC : Hid ((nums .u8 (fullH i)).size = 32) := Lib.hid (by rw [nums_size]; exact hfi.1)
        have HN : Hid (k + 1 = ones (s % 2 ^ (i + 1)) ∧ (hs' ++ [fullH i]).length = k + 1 ∧ hashes (hs' ++ [fullH i])) := Lib.hid ⟨by rw [hob, hbit, ← HK.out.1], by rw [List.length_append, HK.out.2.1]; rfl, hashes_snoc HK.out.2.2 hfi⟩
        have hk8 : Hid (k + 1 ≤ 8192) := Lib.hid (by have := HK.out.1; have h2 := ones_le 13 (s % 2 ^ i) (by have := Nat.mod_le s (2 ^ i); omega); omega)
        have e0 : (i : Int) % 256 = (i : Int) := by omega
        have f1 := HF.out.1.free 1
        clear hq hq2 hob hbit hfi
        go_upto_region 7 with fail
        go_wp2_with (first
          | (refine wpList_buildOne rfl _ rfl (nums .u8 (fullH i)) rfl zC.out ?_)
          | (at_builtin; refine wpList_append_own _ rfl (.tmp 28) (.tmp 32) 22 rfl (w1.heap.size + 1) 31 i0 _ 32 32 Tryd.underlying22 hi hz0 hz1 hz2 (by simp [Value.cells, nums]) (by decide) _ _ _ rfl (HF.out.2.1.alloc _) ⟨wr.heap.size, 0, none⟩ 1 1 ((fullH i).map (Value.int .u8)) rfl ?cc0 ?cc1 ?cc2 (by have := hk8.out; unfold maxLen; omega) (by have := hk8.out; omega) ?cc5 ?_))
        case cc0 => simp [fullH]
        case cc1 =>
          intro j u hj
          rw [add_flat, cell_of_row _ wr.heap.size j _ _ _ (heap_alloc_new wr _)]
          simpa [nums] using hj
        case cc2 =>
          intro u hu
          obtain ⟨z, _, rfl⟩ := List.mem_map.1 hu
          rfl
        case cc5 => have := HF.out.2.2.1; simp; omega
        intro v' w4 hown hgrow _
        obtain ⟨A', c2, rfl⟩ := own_form hown
        have HS := Lib.hid (HF.out.step hown hgrow)
        clear hown hgrow c0 c1 f1
        have c1 := HS.out.1.cell 1
        have f1 := HS.out.1.free 1
        go_wp2
        go_roundw
        case rel => exact ⟨i + 1, k + 1, c2, A', _, by go_num, by omega, HN, Lib.hid HS.out.2⟩
        case measure => simp [intOf]; omega
      · have d1 : (((s : Int) / 2 ^ i).tmod 2 == 1) = false := by rw [hq2, show s / 2 ^ i % 2 = 0 by omega]; rfl
        have HN : Hid (k = ones (s % 2 ^ (i + 1)) ∧ hs'.length = k ∧ hashes hs') := Lib.hid ⟨by rw [hob, show s / 2 ^ i % 2 = 0 by omega, ← HK.out.1]; rfl, HK.out.2.1, HK.out.2.2⟩
        clear hq hq2 hob hbit
        go_wp2
        go_roundw
        case rel => exact ⟨i + 1, k, c', A, hs', by go_num, by omega, HN, HF⟩
        case measure => simp [intOf]; omega
    · have hi9 : Hid (i = 13) := Lib.hid (by omega)
      have hk1 : Hid (k = ones s) := Lib.hid (by have := HK.out.1; rw [hi9.out, Nat.mod_eq_of_lt (by omega)] at this; exact this)
      have hk13 : k ≤ 13 := by rw [hk1.out]; exact ones_le 13 s (by omega)
      have HHs := Lib.hid HK.out.2.2
      have hkl : Hid (hs'.length = k) := Lib.hid HK.out.2.1
      have HWr : Hid (HW wr A hs') := Lib.hid (own_HL (by rw [hkl.out]; exact HF.out.2.1) HHs.out)
      have HTr := Lib.hid (H1.out.2.1.next HF.out.2.2.2)
      have HBr := Lib.hid (below_new H1.out.2.2 HF.out.2.2.2)
      have hv : Hid (validB (s : Int) k = true) := Lib.hid (validB_yes ⟨by omega, by omega, by rw [hk1.out]; rfl⟩)
      obtain ⟨R, hR⟩ : ∃ R, Hid (R = extF (s : Int) hs' ls) := ⟨_, Lib.hid rfl⟩
      have X1 : Hid (Calls Tryd.prog 9 #[.agg #[.int .i64 (s : Int), .slice A k c'], .slice LA n lc] wr fun e w' => ∃ A2 c2, e = .returned (.tuple #[.agg #[.int .i64 R.1, .slice A2 R.2.1.length c2], .int .i64 R.2.2]) ∧ Below wr.heap.size wr w') := Lib.hid (by
        have := extend_any wr HTr.out (s : Int) (by omega) A c' hs' HHs.out HWr.out LA lc ls hh (H1.out.1.next HF.out.2.2.2) (by rw [ll.out]; exact HC.out.1) HC.out.2
        rw [hkl.out, ll.out, ← hR.out] at this
        refine this.mono ?_
        rintro e w' ⟨A2, c2, rfl, ho⟩
        exact ⟨A2, c2, rfl, ho.2⟩)
      have V1 : Hid (∀ W, Calls Tryd.prog 14 #[.agg #[.int .i64 (s : Int), .slice A k c']] W fun e w' => e = .returned (.bool true) ∧ Below W.heap.size W w') := Lib.hid fun W => by
        have := valid_any (s : Int) A k c' W
        rwa [hv.out] at this
      by_cases hfull : m < n
      · have hE : Hid (R = (0, [], 60)) := Lib.hid (by rw [hR.out]; exact extF_full (by rw [hkl.out]; exact hv.out) (by rw [ll.out]; have := hs.out; omega))
        rw [hE.out] at X1
        clear HK hi9 hi hz0 hz1 hz2
        go_upto_region 9 with (go_at_call 9; (with_reducible refine X1.out.mono ?_); rintro e w3 ⟨A2, c2, rfl, hb⟩; have HB3 := Lib.hid hb; clear hb)
        refine world_gen (fun W => Row W w1.heap.size 24 #[.int .i64 (s : Int), .slice A k c'] ∧ Row W w3.heap.size 24 #[.int .i64 0, .slice A2 0 c2] ∧ Tab W ∧ Below w.heap.size w W) ⟨(HF.out.1.next HB3.out).alloc _, Row.made _ _ _, HTr.out.next (HB3.out.alloc HB3.out.size _), (below_new HBr.out HB3.out).alloc (below_new HBr.out HB3.out).size _⟩ (fun w4 H4 => ?_)
        have H4 := Lib.hid H4
        have g0 := H4.out.1.cell 0
        have g1 := H4.out.1.cell 1
        go_wp2_with (first
          | (go_at_call 14; (with_reducible refine (V1.out _).mono ?_); rintro e w5 ⟨rfl, hb⟩; have H5 := Lib.hid (show Row w5 w1.heap.size 24 #[.int .i64 (s : Int), .slice A k c'] ∧ Row w5 w3.heap.size 24 #[.int .i64 0, .slice A2 0 c2] ∧ Tab w5 ∧ Below w.heap.size w w5 from ⟨H4.out.1.next hb, H4.out.2.1.next hb, H4.out.2.2.1.next hb, below_new H4.out.2.2.2 hb⟩); clear hb g0 g1; have HT5 := Lib.hid H5.out.2.2.1; have g0 := H5.out.1.cell 0; have g1 := H5.out.1.cell 1; have h0 := H5.out.2.1.cell 0; have h1 := H5.out.2.1.cell 1)
          | (go_at_call 8; (with_reducible refine (ranged_any _ HT5.out).mono ?_); rintro e w7 ⟨rfl, hb⟩; have HB7 := Lib.hid (below_new H5.out.2.2.2 hb); clear hb))
        go_ret
        exact ⟨rfl, HB7.out⟩
      · obtain ⟨H, hH⟩ : ∃ H, Hid (H = adds s hs' ls) := ⟨_, Lib.hid rfl⟩
        obtain ⟨q, hq⟩ : ∃ q, Hid (q = H.length) := ⟨_, Lib.hid rfl⟩
        obtain ⟨t, ht⟩ : ∃ t : Nat, Hid (t = s + n) := ⟨_, Lib.hid rfl⟩
        have e9 : (s : Int) + (n : Int) = (t : Int) := by rw [ht.out]; omega
        have hE : Hid (R = ((t : Int), H, 0)) := Lib.hid (by
          rw [hR.out, extF_ok (by rw [hkl.out]; exact hv.out) (by rw [ll.out]; have := hs.out; omega), ll.out, e9, hH.out]; rfl)
        have hq1 : Hid (q = ones t) := Lib.hid (by
          rw [hq.out, hH.out, adds_length ls s hs' (by rw [hkl.out]; exact hk1.out), ll.out, ht.out])
        have ht4 : t ≤ 4096 := by rw [ht.out]; have := hs.out; omega
        have hq13 : q ≤ 13 := by rw [hq1.out]; exact ones_le 13 t (by omega)
        have hv2 : Hid (validB (t : Int) q = true) := Lib.hid (validB_yes ⟨by omega, by omega, by rw [hq1.out]; rfl⟩)
        rw [hE.out] at X1
        rw [show ((t : Int), H, (0 : Int)).2.1.length = q from hq.out.symm] at X1
        have V2 : Hid (∀ W A2 c2, Calls Tryd.prog 14 #[.agg #[.int .i64 (t : Int), .slice A2 q c2]] W fun e w' => e = .returned (.bool true) ∧ Below W.heap.size W w') := Lib.hid fun W A2 c2 => by
          have := valid_any (t : Int) A2 q c2 W
          rwa [hv2.out] at this
        clear HK hi9 hi hz0 hz1 hz2
        go_upto_region 9 with (go_at_call 9; (with_reducible refine X1.out.mono ?_); rintro e w3 ⟨A2, c2, rfl, hb⟩; have HB3 := Lib.hid hb; clear hb)
        refine world_gen (fun W => Row W w1.heap.size 24 #[.int .i64 (s : Int), .slice A k c'] ∧ Row W w3.heap.size 24 #[.int .i64 (t : Int), .slice A2 q c2] ∧ Tab W ∧ Below w.heap.size w W) ⟨(HF.out.1.next HB3.out).alloc _, Row.made _ _ _, HTr.out.next (HB3.out.alloc HB3.out.size _), (below_new HBr.out HB3.out).alloc (below_new HBr.out HB3.out).size _⟩ (fun w4 H4 => ?_)
        have H4 := Lib.hid H4
        have g0 := H4.out.1.cell 0
        have g1 := H4.out.1.cell 1
        go_wp2_with (first
          | (go_at_call 14; (with_reducible refine (V1.out _).mono ?_); rintro e w5 ⟨rfl, hb⟩; have H5 := Lib.hid (show Row w5 w1.heap.size 24 #[.int .i64 (s : Int), .slice A k c'] ∧ Row w5 w3.heap.size 24 #[.int .i64 (t : Int), .slice A2 q c2] ∧ Tab w5 ∧ Below w.heap.size w w5 from ⟨H4.out.1.next hb, H4.out.2.1.next hb, H4.out.2.2.1.next hb, below_new H4.out.2.2.2 hb⟩); clear hb g0 g1; have HT5 := Lib.hid H5.out.2.2.1; have g0 := H5.out.1.cell 0; have g1 := H5.out.1.cell 1; have h0 := H5.out.2.1.cell 0; have h1 := H5.out.2.1.cell 1)
          | (go_at_call 14; (with_reducible refine (V2.out _ _ _).mono ?_); rintro e w6 ⟨rfl, hb⟩; have H6 := Lib.hid (show Row w6 w1.heap.size 24 #[.int .i64 (s : Int), .slice A k c'] ∧ Row w6 w3.heap.size 24 #[.int .i64 (t : Int), .slice A2 q c2] ∧ Tab w6 ∧ Below w.heap.size w w6 from ⟨H5.out.1.next hb, H5.out.2.1.next hb, H5.out.2.2.1.next hb, below_new H5.out.2.2.2 hb⟩); clear hb g0 g1 h0 h1; have HT6 := Lib.hid H6.out.2.2.1; have g0 := H6.out.1.cell 0; have g1 := H6.out.1.cell 1; have h0 := H6.out.2.1.cell 0; have h1 := H6.out.2.1.cell 1)
          | (go_at_call 8; (with_reducible refine (ranged_any _ HT6.out).mono ?_); rintro e w7 ⟨rfl, hb⟩; have HB7 := Lib.hid (below_new H6.out.2.2.2 hb); clear hb))
        go_ret
        exact ⟨rfl, HB7.out⟩
end Go.Proofs.YtcafmnlledhdjaaDoor
