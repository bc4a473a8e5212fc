/-
  The walk of the statement TreesHalves: it returns true; what it makes is new memory, nothing that was there changes. Condition: the two tables as they were laid.
-/
import Derived.Test.YthagpnakcffjeaaDoorTreeGrown
namespace Go.Proofs.YthagpnakcffjeaaDoor
open Go.RowKit
set_option linter.unusedVariables false

/-- The leaves, and what was there. -/
def HvH (w : World) (ad : Addr) (ls : List (List Int)) (wr : World) : Prop := HL wr wr.heap.size (some ad) ls ∧ Tab wr ∧ Below w.heap.size w wr
theorem HvH.next {w wr w1 : World} {ad : Addr} {ls : List (List Int)} (h : HvH w ad ls wr) (hb : Below wr.heap.size wr w1) : HvH w ad ls w1 := ⟨(h.1.next hb (Nat.le_refl _)).more hb.size, h.2.1.next hb, below_new h.2.2 hb⟩
theorem HvH.drew {w wr : World} {ad : Addr} {ls : List (List Int)} (h : HvH w ad ls wr) : HvH w ad ls wr.drew := ⟨h.1, h.2.1, h.2.2.drew⟩
theorem pow_le32 (P : Nat) (h : P ≤ 5) : 2 ^ P ≤ 32 := Nat.pow_le_pow_right (n := 2) (by omega) h
attribute [local go_sem ↓ high] read_at eq_at neq_at
set_option maxHeartbeats 40000000 in
set_option maxRecDepth 100000 in
theorem halveslaw_any (p o sd : Int) (hp : 0 ≤ p ∧ p ≤ 255) (ho : 0 ≤ o ∧ o ≤ 255) (hsd : 0 ≤ sd ∧ sd ≤ 255) (w : World) (hT : Tab w) :
    Calls Tryd.prog 8 #[.int .u8 p, .int .u8 o, .int .u8 sd] w fun e w' => e = .returned (.bool true) ∧ Below w.heap.size w w' := by
  obtain ⟨P, hP⟩ : ∃ P : Nat, Hid (p.tmod 6 = (P : Int) ∧ P ≤ 5) := ⟨(p % 6).toNat, Lib.hid ⟨by rw [Int.tmod_eq_emod_of_nonneg (by omega)]; omega, by omega⟩⟩
  obtain ⟨K, hK⟩ : ∃ K : Nat, Hid (K = 2 ^ P) := ⟨_, Lib.hid rfl⟩
  have hK1 : 1 ≤ K := by rw [hK.out]; exact Nat.two_pow_pos P
  have hK32 : K ≤ 32 := by rw [hK.out]; exact pow_le32 P hP.out.2
  obtain ⟨R, hR⟩ : ∃ R : Nat, Hid (o.tmod (K : Int) = (R : Int) ∧ R < K) := ⟨(o % (K : Int)).toNat, Lib.hid (by
    have h1 := Int.emod_nonneg o (b := (K : Int)) (by omega)
    have h2 := Int.emod_lt_of_pos o (b := (K : Int)) (by omega)
    exact ⟨by rw [Int.tmod_eq_emod_of_nonneg (by omega)]; omega, by omega⟩)⟩
  obtain ⟨M, hM⟩ : ∃ M : Nat, Hid (M = 1 + R) := ⟨_, Lib.hid rfl⟩
  obtain ⟨n, hn⟩ : ∃ n : Nat, Hid (n = K + M) := ⟨_, Lib.hid rfl⟩
  have e1 : p.tmod 6 = (P : Int) := hP.out.1
  have e2 : (2 : Int) ^ P = (K : Int) := by rw [hK.out, Int.natCast_pow]; rfl
  have e3 : o.tmod (K : Int) = (R : Int) := hR.out.1
  have e4 : 1 + (R : Int) = (M : Int) := by rw [hM.out]; omega
  have e5 : (K : Int) + (M : Int) = (n : Int) := by rw [hn.out]; omega
  have hMK : M ≤ K := by have := hM.out; have := hR.out.2; omega
  have hM1 : 1 ≤ M := by have := hM.out; omega
  have hR0 : (R : Int) ≤ 31 := by have := hR.out.2; omega
  have hP5 : (P : Int) ≤ 5 := by have := hP.out.2; omega
  have hn64 : n ≤ 64 := by have := hn.out; omega
  have hKn : K < n := by have := hn.out; omega
  have hsp : splitN n = K := by rw [splitN_is n P (by rw [← hK.out]; exact hKn) (by rw [Nat.pow_succ, ← hK.out]; have := hn.out; omega), hK.out]
  obtain ⟨ls, hls⟩ : ∃ ls, Hid (ls = someN sd n) := ⟨_, Lib.hid rfl⟩
  have hh : hashes ls := by rw [hls.out]; exact someN_hashes sd (by omega) n (by omega)
  have hln : Hid (ls.length = n) := Lib.hid (by rw [hls.out, someN_length])
  have l1 : Hid ((ls.take K).length = K) := Lib.hid (by rw [List.length_take, hln.out]; omega)
  have l2 : Hid ((ls.drop K).length = n - K) := Lib.hid (by rw [List.length_drop, hln.out])
  obtain ⟨Y, hY⟩ : ∃ C, Hid (C = nums .u8 (rootL ls)) := ⟨_, Lib.hid rfl⟩
  obtain ⟨L, hL⟩ : ∃ C, Hid (C = nums .u8 (rootL (ls.take K))) := ⟨_, Lib.hid rfl⟩
  obtain ⟨Z, hZ⟩ : ∃ C, Hid (C = nums .u8 (rootL (ls.drop K))) := ⟨_, Lib.hid rfl⟩
  have hroot : rootL ls = nodeL (rootL (ls.take K)) (rootL (ls.drop K)) := by rw [rootL_more ls (by rw [hln.out]; omega), hln.out, hsp]
  have S0 : Hid (∀ W, Calls Tryd.prog 26 #[.int .i64 (n : Int), .int .u8 sd] W fun ev w' => (∃ ad c, ev = .returned (.slice (some ad) n c) ∧ n ≤ c ∧ HL w' w'.heap.size (some ad) ls) ∧ Below W.heap.size W w') := Lib.hid fun W =>
    (some_any n (by omega) sd (by omega) W).mono fun ev w' ⟨⟨A, c, he, hc, hA, _⟩, hb⟩ => by
      obtain ⟨ad, rfl⟩ := hA.some 0 (by rw [someN_length]; omega)
      exact ⟨⟨ad, c, he, hc, by rw [hls.out]; exact hA⟩, hb⟩
  have T0 : Hid (∀ W ad, HvH w ad ls W → ∀ c, Calls Tryd.prog 24 #[.slice (some ad) n c] W fun ev w' => ev = .returned (.agg Y) ∧ Below W.heap.size W w') := Lib.hid fun W ad H c => by
    have := root_any ls hh (some ad) c W H.1 H.2.1 (by rw [hln.out]; omega)
    rwa [hln.out, ← hY.out] at this
  have T1 : Hid (∀ W ad, HvH w ad ls W → ∀ c, Calls Tryd.prog 24 #[.slice (some ad) K c] W fun ev w' => ev = .returned (.agg L) ∧ Below W.heap.size W w') := Lib.hid fun W ad H c => by
    have := root_any (ls.take K) (hashes_take hh _) (some ad) c W (H.1.take K) H.2.1 (by rw [l1.out]; omega)
    rwa [l1.out, ← hL.out] at this
  have T2 : Hid (∀ W ad, HvH w ad ls W → ∀ c, Calls Tryd.prog 24 #[.slice (some (ad.add (K * 32))) (n - K) c] W fun ev w' => ev = .returned (.agg Z) ∧ Below W.heap.size W w') := Lib.hid fun W ad H c => by
    have := root_any (ls.drop K) (hashes_drop hh _) (some (ad.add (K * 32))) c W (H.1.drop K) H.2.1 (by rw [l2.out]; omega)
    rwa [l2.out, ← hZ.out] at this
  have N0 : Hid (∀ W, Tab W → Calls Tryd.prog 20 #[.agg L, .agg Z] W fun ev w' => ev = .returned (.agg Y) ∧ Below W.heap.size W w') := Lib.hid fun W h => by
    rw [hL.out, hZ.out, hY.out, hroot]; exact node_any _ _ (rootL_is _ (hashes_take hh _)).1 (rootL_is _ (hashes_drop hh _)).1 W h
  have P1 : Hid (∀ W, Calls Tryd.prog 22 #[.int .i64 (n : Int)] W fun ev w' => ev = .returned (.int .i64 (K : Int)) ∧ W = w') := Lib.hid fun W =>
    (split_any (n : Int) (by omega) W).mono fun ev w' ⟨he, hw⟩ => ⟨by rw [he]; unfold splitI; rw [show ((n : Int)).toNat = n by omega, hsp], hw⟩
  have Q1 : ∀ W, (eqAt (.agg Y) (.agg Y)).run Tryd.prog W = .ok (.bool true) W := fun W => by
    rw [hY.out, eqAt_hash (rootL ls) (rootL ls) (rootL_is ls hh).1 (rootL_is ls hh).1 (rootL_is ls hh).2 (rootL_is ls hh).2 W, decide_eq_true rfl]
  have HT := Lib.hid hT
  have b1 : (K : Int) ≤ (n : Int) := by omega
  have b4 : (0 : Int) ≤ (K : Int) := by omega
  have b5 : ((n : Int) - (K : Int)).toNat = n - K := by omega
  have z1 : ¬ ((K : Int) = 0) := by omega
  have z2 : ((K : Int) == 0) = false := by simp; omega
  clear hT hh hsp hroot hM1 hMK
  go_enter Tryd.func8, Tryd.ntmps8
  go_upto_region 4 with (go_at_call 26; (with_reducible refine (S0.out _).mono ?_); rintro e w1 ⟨⟨ad, c, rfl, hc, hA⟩, hb⟩; have HG : Hid (HvH w ad ls w1) := Lib.hid ⟨hA, HT.out.next hb, hb⟩; clear hb hA)
  have b2 : (n : Int) ≤ (c : Int) := by omega
  have b3 : (K : Int) ≤ (c : Int) := by omega
  have b6 : ((c : Int) - (K : Int)).toNat = c - K := by omega
  have b8 : ¬ (c = K) := by omega
  have hwn : IntKind.i64.wrap (n : Int) = (n : Int) := by rw [IntKind.wrap_i64]; omega
  refine wp_region_sched (HvH w ad ls) [(false, 0), (false, 2), (false, 3), (false, 4), (false, 6), (false, 7), (false, 8), (true, 1), (true, 5), (true, 9), (true, 10), (false, 11), (false, 12), (false, 13), (false, 14), (false, 15), (false, 17), (true, 16), (false, 18), (false, 19), (false, 20), (true, 21), (false, 22), (false, 23)] (by kernel_rfl) rfl (by kernel_rfl) (by kernel_rfl) (by intro c a d v w h; cases d <;> exact h) HG.out.drew (fun Q' hQ => ?_)
  have HS := Lib.hid HG.out.drew
  have HQ := Lib.hid hQ
  clear HG S0 hQ
  iterate 7 (
    refine wpSched_get rfl (by rfl) (fun K hK => ?_)
    refine ⟨?_, fun w' hS' => ?_, ?_⟩
    rotate_left
    · go_simp
      try (with_reducible rfl)
    try go_simp
    refine hK _ ?_
    clear hK K)
  refine wpSched_call rfl (by rfl) (fun K hK => ?_)
  go_simp
  go_at_call 24
  refine (T0.out _ _ HS.out _).mono ?_
  rintro e w2 ⟨rfl, hb⟩
  replace HS := Lib.hid (HS.out.next hb)
  clear hb
  refine hK _ _ HS.out ?_
  clear hK K
  refine wpSched_call rfl (by rfl) (fun K hK => ?_)
  go_simp
  go_at_call 24
  refine (T1.out _ _ HS.out _).mono ?_
  rintro e w2 ⟨rfl, hb⟩
  replace HS := Lib.hid (HS.out.next hb)
  clear hb
  refine hK _ _ HS.out ?_
  clear hK K
  refine wpSched_call rfl (by rfl) (fun K hK => ?_)
  go_simp
  go_at_call 24
  refine (T2.out _ _ HS.out _).mono ?_
  rintro e w2 ⟨rfl, hb⟩
  replace HS := Lib.hid (HS.out.next hb)
  clear hb
  refine hK _ _ HS.out ?_
  clear hK K
  refine wpSched_call rfl (by rfl) (fun K hK => ?_)
  go_simp
  go_at_call 20
  refine (N0.out _ HS.out.2.1).mono ?_
  rintro e w2 ⟨rfl, hb⟩
  replace HS := Lib.hid (HS.out.next hb)
  clear hb
  refine hK _ _ HS.out ?_
  clear hK K
  refine wpSched_get rfl (by rfl) (fun K hK => ?_)
  refine ⟨_, fun w' hS' => get_eqH rfl rfl rfl (Q1 _), ?_⟩
  try go_simp
  refine hK _ ?_
  clear hK K
  iterate 5 (
    refine wpSched_get rfl (by rfl) (fun K hK => ?_)
    refine ⟨?_, fun w' hS' => ?_, ?_⟩
    rotate_left
    · go_simp
      try (with_reducible rfl)
    try go_simp
    refine hK _ ?_
    clear hK K)
  refine wpSched_call rfl (by rfl) (fun K hK => ?_)
  go_simp
  go_at_call 22
  refine (P1.out _).mono ?_
  rintro e w' ⟨rfl, rfl⟩
  refine hK _ _ HS.out ?_
  clear hK K
  iterate 3 (
    refine wpSched_get rfl (by rfl) (fun K hK => ?_)
    refine ⟨?_, fun w' hS' => ?_, ?_⟩
    rotate_left
    · go_simp
      try (with_reducible rfl)
    try go_simp
    refine hK _ ?_
    clear hK K)
  refine wpSched_call rfl (by rfl) (fun K hK => ?_)
  go_simp
  go_at_call 17
  refine (grown_any _ HS.out.2.1).mono ?_
  rintro e w2 ⟨rfl, hb⟩
  replace HS := Lib.hid (HS.out.next hb)
  clear hb
  refine hK _ _ HS.out ?_
  clear hK K
  iterate 2 (
    refine wpSched_get rfl (by rfl) (fun K hK => ?_)
    refine ⟨?_, fun w' hS' => ?_, ?_⟩
    rotate_left
    · go_simp
      try (with_reducible rfl)
    try go_simp
    refine hK _ ?_
    clear hK K)
  refine wpSched_done ?_
  refine HQ.out _ _ ?_
  go_wp2
  go_ret
  exact ⟨rfl, HS.out.2.2⟩
end Go.Proofs.YthagpnakcffjeaaDoor
