/-
  The walk of joined (layer 5): a tree put behind others, in hashes of the caller's own. Conditions: the two tables as they were laid, as many hashes as the size has bits, a size that is a multiple of the tree's. Nothing else that was there changes.
-/
import Derived.Test.YtfakimbneenfdaaDoorListMem
import Derived.Test.YtfakimbneenfdaaDoorRangeClone
import Derived.Test.YtfakimbneenfdaaDoorSched
namespace Go.Proofs.YtfakimbneenfdaaDoor
open Go.RowKit
set_option linter.unusedVariables false
set_option maxRecDepth 100000

theorem i64_and_nat (a b : Nat) (ha : a < 9223372036854775808) (hb : b < 9223372036854775808) : bits .and .i64 (a : Int) (b : Int) = ((a &&& b : Nat) : Int) := by
  have hx : a &&& b < 2 ^ 63 := Nat.and_lt_two_pow _ (by omega)
  have oa : (BitVec.ofInt 64 (a : Int)).toNat = a := by rw [BitVec.toNat_ofInt]; omega
  have ob : (BitVec.ofInt 64 (b : Int)).toNat = b := by rw [BitVec.toNat_ofInt]; omega
  show IntKind.i64.wrap ((BitVec.ofInt 64 (a : Int) &&& BitVec.ofInt 64 (b : Int)).toNat : Int) = _
  rw [BitVec.toNat_and, oa, ob, IntKind.wrap_i64]
  omega
theorem bit_at (s i : Nat) (hs : s ≤ 8192) (hi : 2 ^ i ≤ 8192) : bits .and .i64 (s : Int) ((2 ^ i : Nat) : Int) = ((s / 2 ^ i % 2 * 2 ^ i : Nat) : Int) := by
  rw [i64_and_nat s (2 ^ i) (by omega) (by omega)]
  congr 1
  have hb : s.testBit i = decide (s / 2 ^ i % 2 = 1) := Nat.testBit_eq_decide_div_mod_eq
  rcases Nat.mod_two_eq_zero_or_one (s / 2 ^ i) with h | h
  · rw [h, Nat.zero_mul]
    refine Nat.eq_of_testBit_eq fun t => ?_
    rw [Nat.testBit_and, Nat.testBit_two_pow, Nat.zero_testBit]
    by_cases e : i = t
    · subst e; rw [hb, h]; rfl
    · simp [e]
  · rw [h, Nat.one_mul]
    refine Nat.eq_of_testBit_eq fun t => ?_
    rw [Nat.testBit_and, Nat.testBit_two_pow]
    by_cases e : i = t
    · subst e; rw [hb, h]; simp
    · simp [e]
/-- What joined holds: its range, its root, its result. -/
structure JoinH (w wr : World) (s : Int) (A : Option Addr) (k c : Nat) (y : Array Value) : Prop where
  rg : Row wr w.heap.size 24 #[.int .i64 s, .slice A k c]
  rt : Row wr (w.heap.size + 1) 31 y
  out : Row wr (w.heap.size + 2) 24 #[.int .i64 0, .slice none 0 0]
  below : Below w.heap.size w wr
theorem JoinH.next {w wr w1 : World} {s : Int} {A : Option Addr} {k c : Nat} {y : Array Value} (h : JoinH w wr s A k c y) (hb : Below wr.heap.size wr w1) : JoinH w w1 s A k c y :=
  ⟨h.rg.next hb, h.rt.next hb, h.out.next hb, below_new h.below hb⟩
theorem JoinH.drew {w wr : World} {s : Int} {A : Option Addr} {k c : Nat} {y : Array Value} (h : JoinH w wr s A k c y) : JoinH w wr.drew s A k c y := ⟨h.rg.drew, h.rt.drew, h.out.drew, h.below.drew⟩
theorem JoinH.start (w : World) (s : Int) (A : Option Addr) (k c : Nat) (y : Array Value) : JoinH w (((w.alloc (.cells #[.int .i64 s, .slice A k c] 24)).alloc (.cells y 31)).alloc (.cells #[.int .i64 0, .slice none 0 0] 24)) s A k c y :=
  ⟨((Row.made _ _ _).alloc _).alloc _, (Row.made2 _ _ _ _).alloc _, by have := Row.made ((w.alloc (.cells #[.int .i64 s, .slice A k c] 24)).alloc (.cells y 31)) 24 #[.int .i64 0, .slice none 0 0]; simpa using this, (((Below.refl _ _).alloc (Nat.le_refl _) _).alloc (by simp) _).alloc (by simp; omega) _⟩
theorem JoinH.root {w wr : World} {s : Int} {A : Option Addr} {k c : Nat} {y : Array Value} (h : JoinH w wr s A k c y) (z : Array Value) : JoinH w (wr.setRow (w.heap.size + 1) z) s A k c z :=
  ⟨h.rg.wfar (by omega) _, h.rt.whole _, h.out.wfar (by omega) _, below_setRow h.below (by omega)⟩
theorem JoinH.cut {w wr : World} {s : Int} {A A' : Option Addr} {k k' c c' : Nat} {y : Array Value} (h : JoinH w wr s A k c y) : JoinH w (wr.setCell ⟨w.heap.size, 1, none⟩ (.slice A' k' c')) s A' k' c' y :=
  ⟨h.rg.put 1 _, h.rt.far (by show w.heap.size + 1 ≠ w.heap.size; omega) _, h.out.far (by show w.heap.size + 2 ≠ w.heap.size; omega) _, h.below.setCell (Nat.le_refl _) _⟩
theorem take_last (hs : List (List Int)) (m : Nat) (h : m < hs.length) : (hs.take (m + 1)).dropLast = hs.take m ∧ (hs.take (m + 1)).getLastD [] = hs.getD m [] := by
  have e : hs.take (m + 1) = hs.take m ++ [hs.getD m []] := by
    rw [List.take_succ_eq_append_getElem h, List.getD_eq_getElem?_getD, List.getElem?_eq_getElem h]; rfl
  rw [e]
  exact ⟨List.dropLast_concat, by simp⟩
theorem carry_step (s i m : Nat) (hs : List (List Int)) (y : List Int) (h : m < hs.length) (ho : s / 2 ^ i % 2 = 1) : carry (s / 2 ^ i) (hs.take (m + 1)) y = carry (s / 2 ^ (i + 1)) (hs.take m) (nodeL (hs.getD m []) y) := by
  rw [carry_odd _ _ _ ho, (take_last hs m h).1, (take_last hs m h).2, Nat.div_div_eq_div_mul, Nat.pow_succ]
theorem ones_step (s i k : Nat) (hk : k = ones (s / 2 ^ i)) (ho : s / 2 ^ i % 2 = 1) : ∃ m, k = m + 1 ∧ m = ones (s / 2 ^ (i + 1)) := by
  refine ⟨ones (s / 2 ^ (i + 1)), ?_, rfl⟩
  rw [hk, ones_half, ho, Nat.div_div_eq_div_mul, Nat.pow_succ]; omega
theorem bit_le (s i : Nat) (ho : s / 2 ^ i % 2 = 1) : 2 ^ i ≤ s := by
  rcases Nat.lt_or_ge s (2 ^ i) with h | h
  · rw [Nat.div_eq_of_lt h] at ho; omega
  · exact h
attribute [local go_sem ↓ high] read_at write_at
set_option maxHeartbeats 8000000 in
theorem joined_any (w0 w : World) (hT : Tab w0) (h0 : Below w0.heap.size w0 w) (B : Nat) (hB : w0.heap.size ≤ B) (hBw : B ≤ w.heap.size) (hs : List (List Int)) (hh : hashes hs) (A : Option Addr) (c : Nat)
    (ho : w.ownsRow B 31 32 (.slice A hs.length c) hs.length (cellsL hs)) (s j : Nat) (hone : hs.length = ones s) (hj : s % 2 ^ j = 0) (hsz : s + 2 ^ j ≤ 4096) (x : List Int) (hx : x.length = 32 ∧ bytes x) :
    Calls Tryd.prog 60 #[.agg #[.int .i64 (s : Int), .slice A hs.length c], .int .i64 ((2 ^ j : Nat) : Int), .agg (nums .u8 x)] w fun e w' =>
      ∃ A' c', e = .returned (.agg #[.int .i64 ((s + 2 ^ j : Nat) : Int), .slice A' (carry (s / 2 ^ j) hs x).length c']) ∧ w'.ownsRow B 31 32 (.slice A' (carry (s / 2 ^ j) hs x).length c') (carry (s / 2 ^ j) hs x).length (cellsL (carry (s / 2 ^ j) hs x)) ∧ w.grownBy w' (Value.slice A hs.length c).ownBlock := by
  obtain ⟨n, hn⟩ : ∃ n, Hid (n = hs.length) := ⟨_, Lib.hid rfl⟩
  obtain ⟨ncap, _, hA⟩ := own_some ho
  rw [← hn.out] at ho ncap hone ⊢
  obtain ⟨p, hp⟩ : ∃ p, Hid (p = 2 ^ j) := ⟨_, Lib.hid rfl⟩
  have hp1 : 1 ≤ p := by rw [hp.out]; exact Nat.two_pow_pos j
  have hps : s + p ≤ 4096 := by rw [hp.out]; exact hsz
  have HS0 : Hid (n = ones (s / 2 ^ j)) := Lib.hid (by
    have e : s = s / 2 ^ j * 2 ^ j := by rw [Nat.mul_comm]; have := Nat.div_add_mod s (2 ^ j); omega
    rw [hone]; conv => lhs; rw [e, ones_shift])
  obtain ⟨R, hR⟩ : ∃ R, Hid (R = carry (s / 2 ^ j) hs x) := ⟨_, Lib.hid rfl⟩
  rw [← hR.out, ← hp.out]
  obtain ⟨X, hX⟩ : ∃ X, Hid (X = nums .u8 x) := ⟨_, Lib.hid rfl⟩
  rw [← hX.out]
  have HJ := Lib.hid (JoinH.start w s A n c X)
  have HO := Lib.hid ho
  have HT := Lib.hid hT
  have H0 := Lib.hid h0
  have HH := Lib.hid hh
  have HX := Lib.hid hx
  have HA := Lib.hid hA
  clear hT h0 hh ho hone hj hsz hx hA
  go_enter Tryd.func60, Tryd.ntmps60
  go_upto_region 1 with fail
  refine world_gen (fun wx => JoinH w wx s A n c X) HJ.out (fun wx HQ => ?_)
  have HQ := Lib.hid HQ
  clear HJ
  go_wp2
  go_loopw [7] (fun s7 wr => ∃ (i k z : Nat) (y : List Int) (Y : Array Value), s7 = .int .i64 (z : Int) ∧ 1 ≤ z ∧ z ≤ 8192 ∧ k ≤ n ∧ Hid (z = 2 ^ i ∧ carry (s / 2 ^ i) (hs.take k) y = R ∧ k = ones (s / 2 ^ i) ∧ y.length = 32 ∧ bytes y ∧ Y = nums .u8 y) ∧ Hid (JoinH w wr s A k c Y)) (fun s7 _ => 16384 - (intOf s7).toNat)
  case atStart => exact ⟨j, n, p, x, X, rfl, hp1, by omega, Nat.le_refl _, Lib.hid ⟨hp.out, by rw [List.take_of_length_le (by rw [← hn.out]; exact Nat.le_refl _), hR.out], HS0.out, HX.out.1, HX.out.2, hX.out⟩, HQ⟩
  case round =>
    clear HQ
    obtain ⟨i, k, z, y, Y, rfl, hz1, hz2, hk, HR, HJ⟩ := hrel
    have hz0 : Hid (2 ^ i ≤ 8192) := Lib.hid (by rw [← HR.out.1]; exact hz2)
    have hb := bit_at s i (by omega) hz0.out
    by_cases hodd : s / 2 ^ i % 2 = 1
    · obtain ⟨m, hkm, hm⟩ := ones_step s i k HR.out.2.2.1 hodd
      have hzs : z ≤ 4096 := Nat.le_trans (by rw [HR.out.1]; exact bit_le s i hodd : z ≤ s) (by omega)
      have hmn : Hid (m < hs.length) := Lib.hid (by rw [← hn.out]; omega)
      rw [hodd, Nat.one_mul, ← HR.out.1] at hb
      have d1 : ((z : Int) == 0) = false := by simp; omega
      have d2 : ((z : Int) != 0) = true := by simp; omega
      have e0 : (k : Int) - 1 = (m : Int) := by omega
      have b1 : (m : Int) < (k : Int) := by omega
      have b2 : (m : Int) ≤ (c : Int) := by omega
      have b3 : (0 : Int) ≤ (m : Int) := by omega
      obtain ⟨ad, rfl⟩ : ∃ ad, A = some ad := by
        rcases HA.out with ⟨_, h⟩ | ⟨g, h, _⟩
        · have := hmn.out; omega
        · exact ⟨_, h⟩
      obtain ⟨L, hL⟩ : ∃ L, Hid (L = nums .u8 (hs.getD m [])) := ⟨_, Lib.hid rfl⟩
      obtain ⟨N, hN⟩ : ∃ N, Hid (N = nums .u8 (nodeL (hs.getD m []) y)) := ⟨_, Lib.hid rfl⟩
      have hls := hashes_at HH.out m hmn.out
      have X3 : Hid (∀ W, Tab W → Calls Tryd.prog 36 #[.agg L, .agg Y] W fun ev w' => ev = .returned (.agg N) ∧ Below W.heap.size W w') := Lib.hid fun W H => by
        rw [hL.out, hN.out, HR.out.2.2.2.2.2]
        exact node_any _ _ hls.1 HR.out.2.2.2.1 W H
      have zY : Hid (Y.size = 32) := Lib.hid (by rw [HR.out.2.2.2.2.2, nums_size]; exact HR.out.2.2.2.1)
      have zN : Hid (N.size = 32) := Lib.hid (by rw [hN.out, nums_size]; exact (nodeL_is _ _).1)
      have oN : Hid (N.all (·.oneCell') = true) := Lib.hid (by rw [hN.out]; exact nums_one _ _)
      have HL0 : Hid (HL w w.heap.size (some ad) hs) := Lib.hid (own_HL (by rw [← hn.out]; exact HO.out) HH.out)
      have SL : Hid (∀ W, Below w.heap.size w W → (readAt (.pointer (some (ad.add (m * 32))))).run Tryd.prog W = .ok (.agg L) W) := Lib.hid fun W hW => by
        rw [hL.out]; exact (HL0.out.next hW (Nat.le_refl _)).read HH.out m hmn.out
      have HRN : Hid (2 * z = 2 ^ (i + 1) ∧ carry (s / 2 ^ (i + 1)) (hs.take m) (nodeL (hs.getD m []) y) = R ∧ m = ones (s / 2 ^ (i + 1)) ∧ (nodeL (hs.getD m []) y).length = 32 ∧ bytes (nodeL (hs.getD m []) y) ∧ N = nums .u8 (nodeL (hs.getD m []) y)) := Lib.hid
        ⟨by rw [HR.out.1, Nat.pow_succ]; omega, by rw [← carry_step s i m hs y hmn.out hodd, ← hkm]; exact HR.out.2.1, hm, (nodeL_is _ _).1, (nodeL_is _ _).2, hN.out⟩
      have HZ := Lib.hid hkm
      clear hls hkm hm hodd HR
      have c0 := HJ.out.rg.cell 0
      have c1 := HJ.out.rg.cell 1
      go_upto_region 5 with fail
      clear c0 c1
      have HQ := Lib.hid HJ.out.drew
      have HTT := Lib.hid (HT.out.next (below_new H0.out HQ.out.below))
      have c1 : wr.drew.cell? ⟨w.heap.size, 1, none⟩ = some (.slice (some ad) k c) := HQ.out.rg.cell 1
      have s1 := SL.out _ HQ.out.below
      have s2 := HQ.out.rt.read zY.out
      go_region_with (go_at_call 36; (with_reducible refine (X3.out _ HTT.out).mono ?_); rintro e w2 ⟨rfl, hb⟩; have HQ := Lib.hid (HQ.out.next hb); clear hb c1 s1 s2; have s3 := HQ.out.rt.write zY.out zN.out oN.out)
      all_goals
        refine then_gen (fun wy => JoinH w wy s (some ad) k c N) (HQ.out.root N) (fun wy HY => ?_)
        clear s3 HQ
        have HY := Lib.hid HY
        have c1 := HY.out.rg.cell 1
        have f1 := HY.out.rg.free 1
        go_wp2
        go_roundw
        case rel => exact ⟨i + 1, m, 2 * z, _, N, by go_num, by omega, by omega, by omega, HRN, Lib.hid HY.out.cut⟩
        case measure => simp [intOf]; omega
    · rw [show s / 2 ^ i % 2 = 0 by omega, Nat.zero_mul] at hb
      have hb0 : bits .and .i64 (s : Int) (z : Int) = 0 := by rw [HR.out.1]; exact hb
      have HRe : Hid (R = hs.take k ++ [y]) := Lib.hid (by rw [← HR.out.2.1, carry_even _ _ _ (by omega)])
      have hkl : Hid ((hs.take k).length = k) := Lib.hid (by rw [List.length_take, ← hn.out]; omega)
      have HRl : Hid (R.length = k + 1) := Lib.hid (by rw [HRe.out, List.length_append, hkl.out]; rfl)
      have HO2 : Hid (w.ownsRow B 31 32 (.slice A k c) k (cellsL (hs.take k))) := Lib.hid (by
        have h1 := HO.out
        rw [hn.out] at h1
        exact own_take h1 HH.out k (by rw [← hn.out]; exact hk))
      have zY : Hid (Y.size = 32) := Lib.hid (by rw [HR.out.2.2.2.2.2, nums_size]; exact HR.out.2.2.2.1)
      have eY : Hid (Y = nums .u8 y) := Lib.hid HR.out.2.2.2.2.2
      have ly : Hid (y.length = 32) := Lib.hid HR.out.2.2.2.1
      have hk9 : Hid (k + 1 ≤ 8192) := Lib.hid (by
        have h1 := HR.out.2.2.1
        have h2 : ones (s / 2 ^ i) ≤ 13 := ones_le 13 _ (by have := Nat.div_le_self s (2 ^ i); omega)
        omega)
      obtain ⟨i0, hi, hz0, hz1, hz2⟩ := info_parts infoHash
      have e9 : IntKind.i64.wrap ((s : Int) + (p : Int)) = (s : Int) + (p : Int) := by rw [IntKind.wrap_i64]; omega
      clear hodd HR hb
      have c0 := HJ.out.rg.cell 0
      have c1 := HJ.out.rg.cell 1
      go_upto_region 7 with fail
      clear c0 c1
      refine wp_region_sched (fun W => Row W w.heap.size 24 #[.int .i64 (s : Int), .slice A k c] ∧ Row W (w.heap.size + 1) 31 Y) [(false, 0), (false, 1), (false, 2), (false, 3), (false, 4), (false, 5), (false, 6), (true, 7), (true, 8), (false, 9), (true, 10)] (by kernel_rfl) rfl (by kernel_rfl) (by kernel_rfl) (by intro c a d v w h; cases d <;> exact h) ⟨HJ.out.rg.drew, HJ.out.rt.drew⟩ (fun Q' hQ => ?_)
      have HQ := Lib.hid hQ
      clear hQ
      iterate 6 (
        refine wpSched_get rfl (by rfl) (fun K hK => ?_)
        refine ⟨?_, fun w' hS' => ?_, ?_⟩
        rotate_left
        · have c0 := hS'.1.cell 0
          have c1 := hS'.1.cell 1
          go_simp
          try (with_reducible rfl)
        try go_simp
        refine hK _ ?_
        clear hK K)
      refine wpSched_get rfl (by rfl) (fun K hK => ?_)
      refine ⟨_, fun w' hS' => get_load rfl rfl (hS'.2.read zY.out), ?_⟩
      try go_simp
      refine hK _ ?_
      clear hK K
      have hbd := HJ.out.below.drew
      have HB1 : Hid (Below w.heap.size w (wr.drew.alloc (.cells Y 31))) := Lib.hid (hbd.alloc hbd.size _)
      have HS1 := Lib.hid (HJ.out.drew.next ((Below.refl wr.drew.heap.size wr.drew).alloc (Nat.le_refl _) (.cells Y 31)))
      clear hbd
      refine wpSched_call rfl (by rfl) (fun K hK => ?_)
      refine wp_buildOne _ rfl Y rfl zY.out ?_
      try go_simp
      refine hK _ _ ⟨HS1.out.rg, HS1.out.rt⟩ ?_
      clear hK K
      refine wpSched_call rfl (by rfl) (fun K hK => ?_)
      refine wp_append_own _ (.tmp 38) (.tmp 40) 22 rfl B 31 i0 _ 32 32 Tryd.underlying22 hi hz0 hz1 hz2 (by simp [Value.cells, nums]) (by decide) _ _ _ rfl (own_below HO2.out HB1.out) ⟨wr.heap.size, 0, none⟩ 1 1 (y.map (Value.int .u8)) rfl ?cc0 ?cc1 ?cc2 (by have := hk9.out; unfold maxLen; omega) (by have := hk9.out; omega) ?cc5 ?_
      case cc0 => rw [List.length_map, ly.out]
      case cc1 =>
        intro j u hj
        have hcr := cell_of_row (wr.alloc (.cells Y 31)).drew wr.heap.size j Y 31 (0, 0) (heap_alloc_new wr _)
        rw [add_flat, hcr, eY.out]
        simpa [nums] using hj
      case cc2 =>
        intro u hu
        obtain ⟨z, _, rfl⟩ := List.mem_map.1 hu
        rfl
      case cc5 => exact Nat.le_trans hBw HB1.out.size
      intro v' w4 hown hgrow _
      have hne : ∀ b, w.heap.size ≤ b → some b ≠ (Value.slice A k c).ownBlock := by
        intro b hb e
        rcases HA.out with ⟨h, _⟩ | ⟨g, h, _, h3⟩
        · rw [h] at e; cases e
        · rw [h] at e; have := Option.some.inj e; simp at this; omega
      have r1 := HS1.out.rg.grown hgrow (hne _ (Nat.le_refl _))
      have r2 := HS1.out.rt.grown hgrow (hne _ (by omega))
      have r3 := HS1.out.out.grown hgrow (hne _ (by omega))
      have HG : Hid (w.grownBy w4 (Value.slice A n c).ownBlock) := Lib.hid (grown_trans (grown_of_below HB1.out _) (by rw [ownBlock_any A n k c c]; exact hgrow))
      rw [cellsL_snoc' HRe.out] at hown
      obtain ⟨A', c', rfl⟩ := own_form hown
      have HW : Hid (w4.ownsRow B 31 32 (.slice A' R.length c') R.length (cellsL R)) := Lib.hid (by rw [HRl.out]; exact hown)
      rw [← HRl.out]
      clear hown hgrow hne
      try go_simp
      refine hK _ _ ⟨r1, r2⟩ ?_
      clear hK K
      refine wpSched_get rfl (by rfl) (fun K hK => ?_)
      refine ⟨?_, fun w' hS' => ?_, ?_⟩
      rotate_left
      · go_simp
        try (with_reducible rfl)
      try go_simp
      refine hK _ ?_
      clear hK K
      refine wpSched_call rfl (by rfl) (fun K hK => ?_)
      have c0 := r3.cell 0
      have c1 := r3.cell 1
      have f0 := r3.free 0
      have f1 := r3.free 1
      go_simp
      refine hK _ _ ⟨(r1.far (by show w.heap.size ≠ w.heap.size + 2; omega) _).far (by show w.heap.size ≠ w.heap.size + 2; omega) _, (r2.far (by show w.heap.size + 1 ≠ w.heap.size + 2; omega) _).far (by show w.heap.size + 1 ≠ w.heap.size + 2; omega) _⟩ ?_
      clear hK K
      have HF := Lib.hid ((r3.put 0 (.int .i64 ((s : Int) + (p : Int)))).put 1 (.slice A' R.length c'))
      have HD : Hid (Below w.heap.size w4 ((w4.setCell ⟨w.heap.size + 2, 0, none⟩ (.int .i64 ((s : Int) + (p : Int)))).setCell ⟨w.heap.size + 2, 1, none⟩ (.slice A' R.length c'))) := Lib.hid (((Below.refl _ _).setCell (by show w.heap.size ≤ w.heap.size + 2; omega) _).setCell (by show w.heap.size ≤ w.heap.size + 2; omega) _)
      have HV : Hid (((w4.setCell ⟨w.heap.size + 2, 0, none⟩ (.int .i64 ((s : Int) + (p : Int)))).setCell ⟨w.heap.size + 2, 1, none⟩ (.slice A' R.length c')).ownsRow B 31 32 (.slice A' R.length c') R.length (cellsL R)) := Lib.hid
        (own_far HW.out r3 (by decide) _ fun b hb => (Below.heap_setCell _ _ _ b hb).trans (Below.heap_setCell _ _ _ b hb))
      clear c0 c1 f0 f1 r1 r2 r3
      refine wpSched_done ?_
      refine HQ.out _ _ ?_
      go_wp2
      have q0 := HF.out.cell 0
      have q1 := HF.out.cell 1
      refine bodyPost_ret (v := .agg #[.int .i64 ((s : Int) + (p : Int)), .slice A' R.length c']) (by simp [results, Tryd.results60, go_sem, q0, q1]) rfl ⟨A', c', by rw [Int.natCast_add], HV.out, ?_⟩
      exact ⟨HD.out.os.trans HG.out.os, HD.out.tape.trans HG.out.tape, HD.out.output.trans HG.out.output, Nat.le_trans HG.out.size HD.out.size, fun b hb hne => (HD.out.block b hb).trans (HG.out.block b hb hne)⟩
end Go.Proofs.YtfakimbneenfdaaDoor
