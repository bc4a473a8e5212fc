/-
  The walk of the statement RangesSame: it returns true; what it makes is new memory, nothing that was there changes. Conditions: the two tables as they were laid, a list of hashes in memory.
-/
import Derived.Test.YtcafmnlledhdjaaDoorRangeExW
import Derived.Test.YtcafmnlledhdjaaDoorListCard
namespace Go.Proofs.YtcafmnlledhdjaaDoor
open Go.RowKit
set_option linter.unusedVariables false
set_option maxRecDepth 100000

/-- What the walk holds on to all along: the list, the tables. -/
def SmH (w : World) (A : Option Addr) (ls : List (List Int)) (W : World) : Prop := HW W A ls ∧ Tab W ∧ Below w.heap.size w W
theorem SmH.next {w W W1 : World} {A : Option Addr} {ls : List (List Int)} (h : SmH w A ls W) (hb : Below W.heap.size W W1) : SmH w A ls W1 := ⟨h.1.next hb, h.2.1.next hb, below_new h.2.2 hb⟩
/-- The four ranges that lie there at the end, all the same. -/
def BB (w : World) (A0 : Option Addr) (ls : List (List Int)) (s : Int) (q : Nat) (H : List (List Int)) (b1 b2 b3 b4 : Nat) (A1 A2 A3 A4 : Option Addr) (k1 k2 k3 k4 : Nat) (W : World) : Prop :=
  SmH w A0 ls W ∧ RgW W b1 s A1 q k1 H ∧ RgW W b2 s A2 q k2 H ∧ RgW W b3 s A3 q k3 H ∧ RgW W b4 s A4 q k4 H
/-- Their cells. -/
def BBc (b1 b2 b3 b4 : Nat) (s : Int) (q : Nat) (A1 A2 A3 A4 : Option Addr) (k1 k2 k3 k4 : Nat) (W : World) : Prop :=
  W.cell? ⟨b1, 0, none⟩ = some (.int .i64 s) ∧ W.cell? ⟨b1, 1, none⟩ = some (.slice A1 q k1) ∧ W.cell? ⟨b2, 0, none⟩ = some (.int .i64 s) ∧ W.cell? ⟨b2, 1, none⟩ = some (.slice A2 q k2) ∧
  W.cell? ⟨b3, 0, none⟩ = some (.int .i64 s) ∧ W.cell? ⟨b3, 1, none⟩ = some (.slice A3 q k3) ∧ W.cell? ⟨b4, 0, none⟩ = some (.int .i64 s) ∧ W.cell? ⟨b4, 1, none⟩ = some (.slice A4 q k4)
theorem BB.next {w W W1 : World} {A0 : Option Addr} {ls H : List (List Int)} {s : Int} {q b1 b2 b3 b4 k1 k2 k3 k4 : Nat} {A1 A2 A3 A4 : Option Addr} (h : BB w A0 ls s q H b1 b2 b3 b4 A1 A2 A3 A4 k1 k2 k3 k4 W) (hb : Below W.heap.size W W1) : BB w A0 ls s q H b1 b2 b3 b4 A1 A2 A3 A4 k1 k2 k3 k4 W1 :=
  ⟨h.1.next hb, h.2.1.next hb, h.2.2.1.next hb, h.2.2.2.1.next hb, h.2.2.2.2.next hb⟩
theorem BB.cells {w W : World} {A0 : Option Addr} {ls H : List (List Int)} {s : Int} {q b1 b2 b3 b4 k1 k2 k3 k4 : Nat} {A1 A2 A3 A4 : Option Addr} (h : BB w A0 ls s q H b1 b2 b3 b4 A1 A2 A3 A4 k1 k2 k3 k4 W) : BBc b1 b2 b3 b4 s q A1 A2 A3 A4 k1 k2 k3 k4 W :=
  ⟨h.2.1.1.cell 0, h.2.1.1.cell 1, h.2.2.1.1.cell 0, h.2.2.1.1.cell 1, h.2.2.2.1.1.cell 0, h.2.2.2.1.1.cell 1, h.2.2.2.2.1.cell 0, h.2.2.2.2.1.cell 1⟩
attribute [local go_sem ↓ high] read_at write_at eq_at neq_at
set_option maxHeartbeats 40000000 in
theorem samelaw_some (at0 : Int) (hat : 0 ≤ at0 ∧ at0 ≤ 255) (ls : List (List Int)) (hh : hashes ls) (w : World) (hT : Tab w) (hn80 : ls.length ≤ 80) (ad : Addr) (c : Nat) (hL : HL w w.heap.size (some ad) ls) (hc : ls.length ≤ c) (hcm : c ≤ maxLen) :
    Calls Tryd.prog 5 #[.slice (some ad) ls.length c, .int .u8 at0] w fun e w' => e = .returned (.bool true) ∧ Below w.heap.size w w' := by
  obtain ⟨n, hn⟩ : ∃ n, Hid (n = ls.length) := ⟨_, Lib.hid rfl⟩
  rw [← hn.out] at hn80 hc ⊢
  obtain ⟨k, hk⟩ : ∃ k : Nat, Hid (at0.tmod ((n : Int) + 1) = (k : Int) ∧ k ≤ n) := ⟨(at0 % ((n : Int) + 1)).toNat, Lib.hid (by
    have h1 := Int.emod_nonneg at0 (b := (n : Int) + 1) (by omega)
    have h2 := Int.emod_lt_of_pos at0 (b := (n : Int) + 1) (by omega)
    exact ⟨by rw [Int.tmod_eq_emod_of_nonneg (by omega)]; omega, by omega⟩)⟩
  have ek : at0.tmod ((n : Int) + 1) = (k : Int) := hk.out.1
  have hkn : k ≤ n := hk.out.2
  have hcm2 : c ≤ 9223372036854775807 := by unfold maxLen at hcm; omega
  have d80 : decide (80 < (n : Int)) = false := by simp; omega
  have b1 : (k : Int) ≤ (n : Int) := by omega
  have b2 : (k : Int) ≤ (c : Int) := by omega
  have b4 : (n : Int) ≤ (c : Int) := by omega
  have b5 : ((n : Int) - (k : Int)).toNat = n - k := by omega
  have b6 : ((c : Int) - (k : Int)).toNat = c - k := by omega
  have hw1 : IntKind.i64.wrap ((n : Int) + 1) = (n : Int) + 1 := by rw [IntKind.wrap_i64]; omega
  obtain ⟨ADx, eAD⟩ : ∃ A, (if c = k then some ad else some (ad.add (k * 32))) = A := ⟨_, rfl⟩
  have HLW : Hid (∀ W, SmH w (some ad) ls W → HW W (some ad) (ls.take k) ∧ HW W ADx (ls.drop k)) := Lib.hid fun W h => ⟨h.1.take k, by rw [← eAD]; exact h.1.rest c k (by rw [← hn.out]; exact hc)⟩
  have lt1 : Hid ((ls.take k).length = k) := Lib.hid (by rw [List.length_take, ← hn.out]; omega)
  have ld1 : Hid ((ls.drop k).length = n - k) := Lib.hid (by rw [List.length_drop, ← hn.out])
  have SM0 : Hid (SmH w (some ad) ls w) := Lib.hid ⟨hL, hT, Below.refl _ _⟩
  have hcc : Hid (k ≤ c ∧ n - k ≤ c - k ∧ c - k ≤ maxLen ∧ n ≤ c ∧ c ≤ maxLen) := Lib.hid ⟨by omega, by omega, by omega, hc, hcm⟩

  obtain ⟨H, hH⟩ : ∃ H, Hid (H = adds 0 [] ls) := ⟨_, Lib.hid rfl⟩
  obtain ⟨Hk, hHk⟩ : ∃ H, Hid (H = adds 0 [] (ls.take k)) := ⟨_, Lib.hid rfl⟩
  obtain ⟨P, hP⟩ : ∃ P, Hid (P = rootsL k (ls.drop k)) := ⟨_, Lib.hid rfl⟩
  obtain ⟨q, hq⟩ : ∃ q, Hid (q = H.length) := ⟨_, Lib.hid rfl⟩
  obtain ⟨qk, hqk⟩ : ∃ q, Hid (q = Hk.length) := ⟨_, Lib.hid rfl⟩
  obtain ⟨qp, hqp⟩ : ∃ q, Hid (q = P.length) := ⟨_, Lib.hid rfl⟩
  have hhH : Hid (hashes H) := Lib.hid (by rw [hH.out]; exact adds_hashes ls 0 [] hh (fun _ h => nomatch h))
  have hhk : Hid (hashes Hk) := Lib.hid (by rw [hHk.out]; exact adds_hashes _ 0 [] (hashes_take hh _) (fun _ h => nomatch h))
  have hhP : Hid (hashes P) := Lib.hid (by rw [hP.out]; exact rootsL_hashes _ _ (hashes_drop hh _))
  have lH : ∀ i, i ≤ n → (adds 0 [] (ls.take i)).length = ones i := fun i hi => by
    have := adds_length (ls.take i) 0 [] (by rw [ones_zero]; rfl)
    rw [this, List.length_take, ← hn.out, Nat.zero_add, Nat.min_eq_left hi]
  have eH : H = adds 0 [] (ls.take n) := by rw [hH.out, List.take_of_length_le (by rw [← hn.out]; exact Nat.le_refl _)]
  have q1 : Hid (q = ones n) := Lib.hid (by rw [hq.out, eH]; exact lH _ (Nat.le_refl _))
  have qk1 : Hid (qk = ones k) := Lib.hid (by rw [hqk.out, hHk.out]; exact lH _ hkn)
  have v1 : validB (n : Int) q = true := validB_yes ⟨by omega, by omega, by rw [q1.out]; rfl⟩
  have vk : validB (k : Int) qk = true := validB_yes ⟨by omega, by omega, by rw [qk1.out]; rfl⟩
  have E1 : extF 0 [] ls = ((n : Int), H, 0) := by
    rw [extF_ok (validB_yes ⟨by decide, by decide, by rw [show (0 : Int).toNat = 0 from rfl, ones_zero]; rfl⟩) (by rw [← hn.out]; omega), ← hn.out, Int.zero_add, hH.out]; rfl
  have E2 : extF 0 [] (ls.take k) = ((k : Int), Hk, 0) := by
    rw [extF_ok (validB_yes ⟨by decide, by decide, by rw [show (0 : Int).toNat = 0 from rfl, ones_zero]; rfl⟩) (by rw [lt1.out]; omega), lt1.out, Int.zero_add, hHk.out]; rfl
  have eA : adds k Hk (ls.drop k) = H := by
    have := adds_app (ls.take k) (ls.drop k) 0 []
    rw [List.take_append_drop, lt1.out, Nat.zero_add, ← hHk.out, ← hH.out] at this
    exact this.symm
  have E3 : extF (k : Int) Hk (ls.drop k) = ((n : Int), H, 0) := by
    rw [extF_ok (by rw [← hqk.out]; exact vk) (by rw [ld1.out]; omega), ld1.out, show (k : Int) + ((n - k : Nat) : Int) = (n : Int) by omega]
    show (_, adds k Hk (ls.drop k), _) = _
    rw [eA]
  have E4 : partF (k : Int) (ls.drop k) = (P, 0) := by
    rw [partF_ok (by rw [ld1.out]; omega), hP.out]; rfl
  have E5 : mergeF (k : Int) Hk (n : Int) P = ((n : Int), H, 0) := by
    have hpl : P.length = (partsL k n).length := by rw [hP.out, rootsL_length, ld1.out, show k + (n - k) = n by omega]
    rw [mergeF_ok ⟨by rw [← hqk.out]; exact vk, by omega, by omega, hpl⟩]
    show (_, pushes (partsL k n) P k Hk, _) = _
    have := pushes_parts _ k Hk (ls.drop k) rfl
    rw [ld1.out, show k + (n - k) = n by omega, ← hP.out, eA] at this
    rw [this]
  have E6 : rootF (n : Int) H = (rootL ls, 0) := by
    rw [rootF_ok (by rw [← hq.out]; exact v1), hH.out, adds_root ls (by rw [← hn.out]; omega)]
  obtain ⟨F, hF⟩ : ∃ F, Hid (F = nums .u8 (rootL ls)) := ⟨_, Lib.hid rfl⟩
  have hrl := rootL_is ls hh
  have zF : Hid (F.size = 32) := Lib.hid (by rw [hF.out, nums_size]; exact hrl.1)
  have oF : Hid (F.all (·.oneCell') = true) := Lib.hid (by rw [hF.out]; exact nums_one _ _)
  have CO : Hid (∀ W, SmH w (some ad) ls W → Calls Tryd.prog 21 #[.slice (some ad) n c] W fun e w' => ∃ A c', e = .returned (.tuple #[.agg #[.int .i64 (n : Int), .slice A q c'], .int .i64 0]) ∧ q ≤ c' ∧ HW w' A H ∧ Below W.heap.size W w') := Lib.hid fun W h => by
    have := of_any W h.2.1 (some ad) c ls hh h.1 (by rw [← hn.out]; exact hcc.out.2.2.2.1) hcc.out.2.2.2.2
    rw [E1, ← hn.out] at this
    refine this.mono ?_
    rintro e w' ⟨A, c', rfl, ho⟩
    exact ⟨A, c', by rw [hq.out], by rw [hq.out]; exact (own_some ho.1).1, own_HW ho rfl hhH.out, ho.2⟩
  have CH : Hid (∀ W, SmH w (some ad) ls W → Calls Tryd.prog 21 #[.slice (some ad) k c] W fun e w' => ∃ A c', e = .returned (.tuple #[.agg #[.int .i64 (k : Int), .slice A qk c'], .int .i64 0]) ∧ HW w' A Hk ∧ Below W.heap.size W w') := Lib.hid fun W h => by
    have := of_any W h.2.1 (some ad) c (ls.take k) (hashes_take hh _) (HLW.out W h).1 (by rw [lt1.out]; exact hcc.out.1) hcc.out.2.2.2.2
    rw [E2, lt1.out] at this
    refine this.mono ?_
    rintro e w' ⟨A, c', rfl, ho⟩
    exact ⟨A, c', by rw [hqk.out], own_HW ho rfl hhk.out, ho.2⟩
  have C2 : Hid (∀ W A d, SmH w (some ad) ls W → HW W A Hk → Calls Tryd.prog 9 #[.agg #[.int .i64 (k : Int), .slice A qk d], .slice ADx (n - k) (c - k)] W fun e w' => ∃ A c', e = .returned (.tuple #[.agg #[.int .i64 (n : Int), .slice A q c'], .int .i64 0]) ∧ OwnL W w' (.slice A q c') q H) := Lib.hid fun W A d h hA => by
    have := extend_any W h.2.1 (k : Int) (by omega) A d Hk hhk.out hA ADx (c - k) (ls.drop k) (hashes_drop hh _) (HLW.out W h).2 (by rw [ld1.out]; exact hcc.out.2.1) hcc.out.2.2.1
    rw [E3, ld1.out, ← hqk.out] at this
    refine this.mono ?_
    rintro e w' ⟨A, c', rfl, ho⟩
    exact ⟨A, c', by rw [hq.out], by rw [hq.out]; exact ho⟩
  have CP : Hid (∀ W, SmH w (some ad) ls W → Calls Tryd.prog 18 #[.int .i64 (k : Int), .slice ADx (n - k) (c - k)] W fun e w' => ∃ A c', e = .returned (.tuple #[.slice A qp c', .int .i64 0]) ∧ HW w' A P ∧ Below W.heap.size W w') := Lib.hid fun W h => by
    have := part_any W h.2.1 (k : Int) (by omega) ADx (c - k) (ls.drop k) (hashes_drop hh _) (HLW.out W h).2 (by rw [ld1.out]; exact hcc.out.2.1) hcc.out.2.2.1
    rw [E4, ld1.out] at this
    refine this.mono ?_
    rintro e w' ⟨A, c', rfl, _, _, h4, hb⟩
    exact ⟨A, c', by rw [hqp.out], h4, hb⟩
  have C3 : Hid (∀ W A d B d2, SmH w (some ad) ls W → HW W A Hk → HW W B P → Calls Tryd.prog 16 #[.agg #[.int .i64 (k : Int), .slice A qk d], .int .i64 (n : Int), .slice B qp d2] W fun e w' => ∃ A c', e = .returned (.tuple #[.agg #[.int .i64 (n : Int), .slice A q c'], .int .i64 0]) ∧ HW w' A H ∧ Below W.heap.size W w') := Lib.hid fun W A d B d2 h hA hB => by
    have hpl : P.length ≤ 9223372036854775807 := by
      have h1 : P.length = (partsL k n).length := by rw [hP.out, rootsL_length, ld1.out, show k + (n - k) = n by omega]
      have h2 := partsL_length k n
      omega
    have := merge_any W h.2.1 (k : Int) A d Hk hhk.out hA (n : Int) B d2 P hhP.out hB hpl
    rw [E5, ← hqk.out, ← hqp.out] at this
    refine this.mono ?_
    rintro e w' ⟨A, c', rfl, ho⟩
    exact ⟨A, c', by rw [hq.out], own_HW ho rfl hhH.out, ho.2⟩
  have CV : Hid (∀ W A d, Calls Tryd.prog 14 #[.agg #[.int .i64 (n : Int), .slice A q d]] W fun e w' => e = .returned (.bool true) ∧ Below W.heap.size W w') := Lib.hid fun W A d => by
    have := valid_any (n : Int) A q d W
    rwa [v1] at this
  have CS : Hid (∀ W A d B d2, HW W A H → HW W B H → Calls Tryd.prog 23 #[.agg #[.int .i64 (n : Int), .slice A q d], .agg #[.int .i64 (n : Int), .slice B q d2]] W fun e w' => e = .returned (.bool true) ∧ Below W.heap.size W w') := Lib.hid fun W A d B d2 hA hB => by
    have hql : H.length ≤ 9223372036854775807 := by
      have h2 := ones_le 13 n (by omega)
      rw [← hq.out, q1.out]; omega
    have := rsame_any W (n : Int) (n : Int) A B d d2 H H hhH.out hhH.out hql hql hA hB
    rw [← hq.out, show sameB (n : Int) H (n : Int) H = true from decide_eq_true ⟨rfl, rfl⟩] at this
    exact this
  have CR : Hid (∀ W A d, SmH w (some ad) ls W → HW W A H → q ≤ d → Calls Tryd.prog 11 #[.agg #[.int .i64 (n : Int), .slice A q d]] W fun e w' => e = .returned (.tuple #[.agg F, .int .i64 0]) ∧ Below W.heap.size W w') := Lib.hid fun W A d h hA hd => by
    have := rroot_any W h.2.1 (n : Int) A d H hhH.out hA (by rw [← hq.out]; exact hd)
    rw [E6, ← hq.out] at this
    unfold GivesH at this
    rw [hF.out]
    exact this
  have CT : Hid (∀ W, SmH w (some ad) ls W → Calls Tryd.prog 25 #[.slice (some ad) n c] W fun e w' => e = .returned (.agg F) ∧ Below W.heap.size W w') := Lib.hid fun W h => by
    have := root_any ls hh (some ad) c W h.1 h.2.1 (by rw [← hn.out]; omega)
    rw [← hn.out, ← hF.out] at this
    exact this
  have QF : ∀ W, (eqAt (.agg F) (.agg F)).run Tryd.prog W = .ok (.bool true) W := fun W => by
    rw [hF.out, eqAt_hash _ _ hrl.1 hrl.1 hrl.2 hrl.2 W, decide_eq_true rfl]
  have CA : Hid (∀ (i : Nat) W A d, i < n → SmH w (some ad) ls W → HW W A (adds 0 [] (ls.take i)) → ∀ X, X = nums .u8 (ls.getD i []) → Calls Tryd.prog 24 #[.agg #[.int .i64 (i : Int), .slice A (ones i) d], .agg X] W fun e w' => ∃ A c', e = .returned (.tuple #[.agg #[.int .i64 ((i + 1 : Nat) : Int), .slice A (ones (i + 1)) c'], .int .i64 0]) ∧ OwnL W w' (.slice A (ones (i + 1)) c') (ones (i + 1)) (adds 0 [] (ls.take (i + 1)))) := Lib.hid fun i W A d hi h hA X hX => by
    have hi2 : i < ls.length := by rw [← hn.out]; exact hi
    have hxi := hashes_at hh i hi2
    have := append_any W h.2.1 (i : Int) (by omega) A d (adds 0 [] (ls.take i)) (adds_hashes _ 0 [] (hashes_take hh _) (fun _ h => nomatch h)) hA (ls.getD i []) hxi
    have hE : extF (i : Int) (adds 0 [] (ls.take i)) [ls.getD i []] = (((i + 1 : Nat) : Int), adds 0 [] (ls.take (i + 1)), 0) := by
      rw [extF_ok (validB_yes ⟨by omega, by omega, by rw [lH i (by omega)]; rfl⟩) (by simp; omega)]
      have h1 := adds_app (ls.take i) [ls.getD i []] 0 []
      rw [List.length_take, ← hn.out, Nat.zero_add, Nat.min_eq_left (by omega)] at h1
      have h2 : ls.take i ++ [ls.getD i []] = ls.take (i + 1) := by
        rw [List.take_succ_eq_append_getElem hi2, List.getD_eq_getElem?_getD, List.getElem?_eq_getElem hi2]; rfl
      rw [h2] at h1
      rw [h1]; rfl
    rw [hE, lH i (by omega), ← hX] at this
    refine this.mono ?_
    rintro e w' ⟨A, c', rfl, ho⟩
    have e1 := lH (i + 1) (by omega)
    have ho2 : OwnL W w' (.slice A (adds 0 [] (ls.take (i + 1))).length c') (adds 0 [] (ls.take (i + 1))).length (adds 0 [] (ls.take (i + 1))) := ho
    rw [e1] at ho2
    exact ⟨A, c', by rw [← e1], ho2⟩
  have hat2 : at0 % 256 = at0 := by omega
  clear hT E1 E2 E3 E4 E5 E6 eA hrl v1 vk hat hL hc hcm

  go_enter Tryd.func5, Tryd.ntmps5
  go_upto_region 5 with (go_at_call 21; (with_reducible refine (CO.out _ SM0.out).mono ?_); rintro e w1 ⟨Aw, cw, rfl, hqc, hA, hb⟩; have H1 : Hid (SmH w (some ad) ls w1 ∧ HW w1 Aw H) := Lib.hid ⟨SM0.out.next hb, hA⟩; have HQC := Lib.hid hqc; clear hb hA hqc)
  have HP := Lib.hid (range_put w1 (n : Int) Aw q cw)
  refine world_gen (fun W => SmH w (some ad) ls W ∧ RgW W w1.heap.size (n : Int) Aw q cw H) ⟨H1.out.1.next HP.out.2, HP.out.1, H1.out.2.next HP.out.2⟩ (fun w2 H2 => ?_)
  clear HP H1 CO SM0
  have H2 := Lib.hid H2
  have c0 : w2.cell? ⟨w1.heap.size, 0, none⟩ = some (.int .i64 (n : Int)) := H2.out.2.1.cell 0
  have c1 : w2.cell? ⟨w1.heap.size, 1, none⟩ = some (.slice Aw q cw) := H2.out.2.1.cell 1
  go_wp2_with (go_at_call 14; (with_reducible refine (CV.out _ _ _).mono ?_); rintro e w3 ⟨rfl, hb⟩; have H3 : Hid (SmH w (some ad) ls w3 ∧ RgW w3 w1.heap.size (n : Int) Aw q cw H) := Lib.hid ⟨H2.out.1.next hb, H2.out.2.next hb⟩; clear hb c0 c1)
  have HP : Hid (Below w3.heap.size w3 (w3.alloc (.cells #[.int .i64 0, .slice none 0 0] 24))) := Lib.hid ((Below.refl _ _).alloc (Nat.le_refl _) _)
  refine world_gen (fun W => Below w3.heap.size w3 W ∧ RgW W w3.heap.size 0 none 0 0 []) ⟨HP.out, Row.made _ _ _, HL.nil _ _ _⟩ (fun w4 H4 => ?_)
  clear HP H2 CV
  have H4 := Lib.hid H4
  have ez : Hid (ones 0 = 0) := Lib.hid ones_zero
  go_loopw [7, 9] (fun s7 s9 wr => ∃ (i p d : Nat) (A : Option Addr), s7 = .int .i64 0 ∧ s9 = .int .i64 (i : Int) ∧ i ≤ n ∧ Hid (p = ones i) ∧ Hid (Below w3.heap.size w3 wr ∧ RgW wr w3.heap.size (i : Int) A p d (adds 0 [] (ls.take i)))) (fun _ s9 _ => (n - intOf s9).toNat)
  case atStart => exact ⟨0, 0, 0, none, rfl, rfl, Nat.zero_le _, Lib.hid ez.out.symm, Lib.hid ⟨H4.out.1, by rw [List.take_zero]; exact H4.out.2⟩⟩
  case round =>
    clear H4 ez
    obtain ⟨i, p, d, A, rfl, rfl, hi, hp, HR⟩ := hrel
    by_cases hlt : i < n
    · have hi2 : i < ls.length := by rw [← hn.out]; exact hlt
      have i1 : (i : Int) < (n : Int) := by omega
      obtain ⟨X, hX⟩ : ∃ X, Hid (X = nums .u8 (ls.getD i [])) := ⟨_, Lib.hid rfl⟩
      obtain ⟨p1, hp1⟩ : ∃ p1, Hid (p1 = ones (i + 1)) := ⟨_, Lib.hid rfl⟩
      have lp1 : Hid (p1 = (adds 0 [] (ls.take (i + 1))).length) := Lib.hid (by rw [hp1.out, lH (i + 1) (by omega)])
      have hp1h : Hid (hashes (adds 0 [] (ls.take (i + 1)))) := Lib.hid (adds_hashes _ 0 [] (hashes_take hh _) (fun _ h => nomatch h))
      have RX : Hid (∀ W, Below w3.heap.size w3 W → (readAt (.pointer (some (ad.add (i * 32))))).run Tryd.prog W = .ok (.agg X) W) := Lib.hid fun W h => by
        rw [hX.out]; exact HL.read (H3.out.1.next h).1 hh i hi2
      have CA' : Hid (∀ W, Below wr.heap.size wr W → Calls Tryd.prog 24 #[.agg #[.int .i64 (i : Int), .slice A p d], .agg X] W fun e w' => ∃ A c', e = .returned (.tuple #[.agg #[.int .i64 ((i + 1 : Nat) : Int), .slice A p1 c'], .int .i64 0]) ∧ OwnL W w' (.slice A p1 c') p1 (adds 0 [] (ls.take (i + 1)))) := Lib.hid fun W hW => by
        rw [hp.out, hp1.out]
        exact CA.out i W A d hlt (H3.out.1.next (HR.out.1.trans (hW.mono HR.out.1.size))) (HR.out.2.2.next hW) X hX.out
      go_upto_region 11 with fail
      have HB0 := Lib.hid (Below.refl wr.heap.size wr).drew
      have s1 := RX.out _ (HR.out.1.trans (HB0.out.mono HR.out.1.size))
      have c0 : wr.drew.cell? ⟨w3.heap.size, 0, none⟩ = some (.int .i64 (i : Int)) := HR.out.2.1.cell 0
      have c1 : wr.drew.cell? ⟨w3.heap.size, 1, none⟩ = some (.slice A p d) := HR.out.2.1.cell 1
      go_region_with (go_at_call 24; (with_reducible refine (CA'.out _ HB0.out).mono ?_); rintro e w5 ⟨A5, c5, rfl, ho⟩; have HO := Lib.hid ho; have HB5 := Lib.hid (below_new HB0.out ho.2); clear ho c0 c1 s1; have HZ5 : Hid (Row w5 w3.heap.size 24 #[.int .i64 (i : Int), .slice A p d]) := Lib.hid (HR.out.2.1.next HB5.out); have z0 := HZ5.out.cell 0; have z1 := HZ5.out.cell 1; have f0 := HZ5.out.free 0; have f1 := HZ5.out.free 1)
      all_goals
        go_wp2
        go_roundw
        case rel =>
          have HF := Lib.hid ((HZ5.out.put 0 (.int .i64 ((i + 1 : Nat) : Int))).put 1 (.slice A5 p1 c5))
          have HG : Hid (Below w3.heap.size w3 ((w5.setCell ⟨w3.heap.size, 0, none⟩ (.int .i64 ((i + 1 : Nat) : Int))).setCell ⟨w3.heap.size, 1, none⟩ (.slice A5 p1 c5))) := Lib.hid ((((HR.out.1.trans (HB5.out.mono HR.out.1.size))).setCell (p := ⟨w3.heap.size, 0, none⟩) (Nat.le_refl _) _).setCell (p := ⟨w3.heap.size, 1, none⟩) (Nat.le_refl _) _)
          exact ⟨i + 1, p1, c5, A5, rfl, by go_num, by omega, hp1, Lib.hid ⟨HG.out, HF.out, own_HW2 HO.out.1 lp1.out hp1h.out HR.out.2.1.lt _ _⟩⟩
        case measure => simp [intOf]; omega
    · have hin : n = i := by omega
      have hpq : p = q := by rw [hp.out, q1.out, ← hin]
      subst hpq
      have H5 : Hid (SmH w (some ad) ls wr ∧ RgW wr w1.heap.size (n : Int) Aw p cw H ∧ RgW wr w3.heap.size (n : Int) A p d H) := Lib.hid ⟨H3.out.1.next HR.out.1, H3.out.2.next HR.out.1, by
        have := HR.out.2
        rw [← hin, ← eH] at this
        exact this⟩
      clear HR H3 CA hp lH eH
      subst hin
      go_upto_region 15 with (go_at_call 21; (with_reducible refine (CH.out _ H5.out.1).mono ?_); rintro e w6 ⟨Ah, ch, rfl, hA, hb⟩; have H6 : Hid ((SmH w (some ad) ls w6 ∧ RgW w6 w1.heap.size (n : Int) Aw p cw H ∧ RgW w6 w3.heap.size (n : Int) A p d H) ∧ HW w6 Ah Hk) := Lib.hid ⟨⟨H5.out.1.next hb, H5.out.2.1.next hb, H5.out.2.2.next hb⟩, hA⟩; clear hb hA)
      have HP := Lib.hid (range_put w6 (k : Int) Ah qk ch)
      refine world_gen (fun W => (SmH w (some ad) ls W ∧ RgW W w1.heap.size (n : Int) Aw p cw H ∧ RgW W w3.heap.size (n : Int) A p d H) ∧ RgW W w6.heap.size (k : Int) Ah qk ch Hk) ⟨⟨H6.out.1.1.next HP.out.2, H6.out.1.2.1.next HP.out.2, H6.out.1.2.2.next HP.out.2⟩, HP.out.1, H6.out.2.next HP.out.2⟩ (fun w7 H7 => ?_)
      clear HP H6 H5 CH
      have H7 := Lib.hid H7
      go_cut [12, 13] (fun s12 s13 wx => ∃ b A' c', s12 = .pointer (some ⟨b, 0, none⟩) ∧ s13 = .int .i64 0 ∧ Hid (((SmH w (some ad) ls wx ∧ RgW wx w1.heap.size (n : Int) Aw p cw H ∧ RgW wx w3.heap.size (n : Int) A p d H) ∧ RgW wx w6.heap.size (k : Int) Ah qk ch Hk) ∧ RgW wx b (n : Int) A' p c' H))
      case first =>
        have X2 : Hid (∀ W, Below w7.heap.size w7 W → Calls Tryd.prog 9 #[.agg #[.int .i64 (k : Int), .slice Ah qk ch], .slice ADx (n - k) (c - k)] W fun e w' => ∃ A c', e = .returned (.tuple #[.agg #[.int .i64 (n : Int), .slice A p c'], .int .i64 0]) ∧ OwnL W w' (.slice A p c') p H) := Lib.hid fun W hW => C2.out W Ah ch (H7.out.1.1.next hW) (H7.out.2.2.next hW)
        refine wp_region_fk (Below w7.heap.size w7) (.get 0 (.get 1 (.get 2 (.get 3 (.fork 4 8 (.get 5 (.get 6 (.get 7 (.call 8 (.call 9 (.get 10 .done)))))) (.call 4 (.get 5 (.get 6 (.get 7 (.call 9 (.get 10 .done))))))))))) (by kernel_rfl) rfl (by kernel_rfl) (by kernel_rfl) (by intro c a d v w h; cases d <;> exact h) ((Below.refl w7.heap.size w7).drew) (fun Q' hQ => ?_)
        have HS := Lib.hid ((Below.refl w7.heap.size w7).drew)
        have HQ := Lib.hid hQ
        clear hQ
        refine wpFk_get rfl (by rfl) (fun K hK => ?_)
        refine ⟨?_, fun w' hS' => ?_, ?_⟩
        rotate_left
        · have c0 := (H7.out.2.next hS').1.cell 0
          have c1 := (H7.out.2.next hS').1.cell 1
          go_simp
          try (with_reducible rfl)
        try go_simp
        refine hK _ ?_
        clear hK K
        refine wpFk_get rfl (by rfl) (fun K hK => ?_)
        refine ⟨?_, fun w' hS' => ?_, ?_⟩
        rotate_left
        · go_simp
          try (with_reducible rfl)
        try go_simp
        refine hK _ ?_
        clear hK K
        refine wpFk_get rfl (by rfl) (fun K hK => ?_)
        refine ⟨?_, fun w' hS' => ?_, ?_⟩
        rotate_left
        · go_simp
          try (with_reducible rfl)
        try go_simp
        refine hK _ ?_
        clear hK K
        refine wpFk_get rfl (by rfl) (fun K hK => ?_)
        refine ⟨?_, fun w' hS' => ?_, ?_⟩
        rotate_left
        · go_simp
          try (with_reducible rfl)
        try go_simp
        refine hK _ ?_
        clear hK K
        refine wpFk_fork ?_ ?_
        · refine wpFk_call rfl (by rfl) (fun K hK => ?_)
          go_simp
          go_at_call 9
          refine (X2.out _ HS.out).mono ?_
          rintro e w8 ⟨Ab, cb, rfl, ho⟩
          have HO := Lib.hid ho
          have hb := ho.2
          replace HS := Lib.hid (below_new HS.out hb)
          clear hb ho
          refine hK _ _ HS.out ?_
          clear hK K
          refine wpFk_get rfl (by rfl) (fun K hK => ?_)
          refine ⟨?_, fun w' hS' => ?_, ?_⟩
          rotate_left
          · go_simp
            try (with_reducible rfl)
          try go_simp
          refine hK _ ?_
          clear hK K
          refine wpFk_get rfl (by rfl) (fun K hK => ?_)
          refine ⟨?_, fun w' hS' => ?_, ?_⟩
          rotate_left
          · go_simp
            try (with_reducible rfl)
          try go_simp
          refine hK _ ?_
          clear hK K
          refine wpFk_get rfl (by rfl) (fun K hK => ?_)
          refine ⟨?_, fun w' hS' => ?_, ?_⟩
          rotate_left
          · go_simp
            try (with_reducible rfl)
          try go_simp
          refine hK _ ?_
          clear hK K
          refine wpFk_call rfl (by rfl) (fun K hK => ?_)
          go_simp
          have HSb := HS
          have HZ := Lib.hid (Row.made w8 24 #[.int .i64 0, .slice none 0 0])
          replace HS := Lib.hid (HS.out.alloc HS.out.size (.cells #[.int .i64 0, .slice none 0 0] 24))
          refine hK _ _ HS.out ?_
          clear hK K
          refine wpFk_call rfl (by rfl) (fun K hK => ?_)
          go_simp
          have HF := Lib.hid (Row.made w8 24 #[.int .i64 (n : Int), .slice Ab p cb])
          replace HS := Lib.hid (HSb.out.alloc HSb.out.size (.cells #[.int .i64 (n : Int), .slice Ab p cb] 24))
          refine hK _ _ HS.out ?_
          clear hK K
          refine wpFk_get rfl (by rfl) (fun K hK => ?_)
          refine ⟨?_, fun w' hS' => ?_, ?_⟩
          rotate_left
          · go_simp
            try (with_reducible rfl)
          try go_simp
          refine hK _ ?_
          clear hK K
          refine wpFk_done ?_
          refine HQ.out _ _ ?_
          go_wp2
          go_meet
          case rel => exact ⟨_, _, _, rfl, rfl, Lib.hid ⟨⟨⟨H7.out.1.1.next HS.out, H7.out.1.2.1.next HS.out, H7.out.1.2.2.next HS.out⟩, H7.out.2.next HS.out⟩, HF.out, (own_HW HO.out hq.out hhH.out).next ((Below.refl w8.heap.size w8).alloc (Nat.le_refl _) _)⟩⟩
        · refine wpFk_call rfl (by rfl) (fun K hK => ?_)
          go_simp
          have HSb := HS
          have HZ := Lib.hid (Row.made w7.drew 24 #[.int .i64 0, .slice none 0 0])
          replace HS := Lib.hid (HS.out.alloc HS.out.size (.cells #[.int .i64 0, .slice none 0 0] 24))
          refine hK _ _ HS.out ?_
          clear hK K
          refine wpFk_call rfl (by rfl) (fun K hK => ?_)
          go_simp
          go_at_call 9
          refine (X2.out _ HS.out).mono ?_
          rintro e w8 ⟨Ab, cb, rfl, ho⟩
          have HO := Lib.hid ho
          have hb := ho.2
          have HZ4 : Hid (Row w8 w7.heap.size 24 #[.int .i64 0, .slice none 0 0]) := Lib.hid (HZ.out.next hb)
          have z0 := HZ4.out.cell 0
          have z1 := HZ4.out.cell 1
          have f0 := HZ4.out.free 0
          have f1 := HZ4.out.free 1
          replace HS := Lib.hid (below_new HS.out hb)
          clear hb ho
          refine hK _ _ HS.out ?_
          clear hK K
          refine wpFk_get rfl (by rfl) (fun K hK => ?_)
          refine ⟨?_, fun w' hS' => ?_, ?_⟩
          rotate_left
          · go_simp
            try (with_reducible rfl)
          try go_simp
          refine hK _ ?_
          clear hK K
          refine wpFk_get rfl (by rfl) (fun K hK => ?_)
          refine ⟨?_, fun w' hS' => ?_, ?_⟩
          rotate_left
          · go_simp
            try (with_reducible rfl)
          try go_simp
          refine hK _ ?_
          clear hK K
          refine wpFk_get rfl (by rfl) (fun K hK => ?_)
          refine ⟨?_, fun w' hS' => ?_, ?_⟩
          rotate_left
          · go_simp
            try (with_reducible rfl)
          try go_simp
          refine hK _ ?_
          clear hK K
          refine wpFk_call rfl (by rfl) (fun K hK => ?_)
          go_simp
          have HF := Lib.hid ((HZ4.out.put 0 (.int .i64 (n : Int))).put 1 (.slice Ab p cb))
          replace HS := Lib.hid ((HS.out.setCell (p := ⟨w7.heap.size, 0, none⟩) (Nat.le_refl _) (.int .i64 (n : Int))).setCell (p := ⟨w7.heap.size, 1, none⟩) (Nat.le_refl _) (.slice Ab p cb))
          refine hK _ _ HS.out ?_
          clear hK K
          refine wpFk_get rfl (by rfl) (fun K hK => ?_)
          refine ⟨?_, fun w' hS' => ?_, ?_⟩
          rotate_left
          · go_simp
            try (with_reducible rfl)
          try go_simp
          refine hK _ ?_
          clear hK K
          refine wpFk_done ?_
          refine HQ.out _ _ ?_
          go_wp2
          go_meet
          case rel => exact ⟨_, _, _, rfl, rfl, Lib.hid ⟨⟨⟨H7.out.1.1.next HS.out, H7.out.1.2.1.next HS.out, H7.out.1.2.2.next HS.out⟩, H7.out.2.next HS.out⟩, HF.out, own_HW2 HO.out.1 hq.out hhH.out (by simp) _ _⟩⟩
      case rest =>
        obtain ⟨b8, At, ct, rfl, rfl, H8⟩ := hcut
        clear H7 C2
        go_upto_region 17 with (go_at_call 18; (with_reducible refine (CP.out _ H8.out.1.1.1).mono ?_); rintro e w9 ⟨Ap, cp, rfl, hP9, hb⟩; have H9 : Hid ((((SmH w (some ad) ls w9 ∧ RgW w9 w1.heap.size (n : Int) Aw p cw H ∧ RgW w9 w3.heap.size (n : Int) A p d H) ∧ RgW w9 w6.heap.size (k : Int) Ah qk ch Hk) ∧ RgW w9 b8 (n : Int) At p ct H) ∧ HW w9 Ap P) := Lib.hid ⟨⟨⟨⟨H8.out.1.1.1.next hb, H8.out.1.1.2.1.next hb, H8.out.1.1.2.2.next hb⟩, H8.out.1.2.next hb⟩, H8.out.2.next hb⟩, hP9⟩; clear hP9 hb)
        clear H8 CP
        have c0 := H9.out.1.1.2.1.cell 0
        have c1 := H9.out.1.1.2.1.cell 1
        have g9 := H9.out.1.1.2.2
        have s9 := H9.out.1.1.1.1
        have p9 := H9.out.2
        go_upto_region 18 with (go_at_call 16; (with_reducible refine (C3.out _ _ _ _ _ s9 g9 p9).mono ?_); rintro e w10 ⟨Am, cm, rfl, hA, hb⟩; have H10 : Hid ((SmH w (some ad) ls w10 ∧ RgW w10 w1.heap.size (n : Int) Aw p cw H ∧ RgW w10 w3.heap.size (n : Int) A p d H) ∧ RgW w10 b8 (n : Int) At p ct H) := Lib.hid ⟨⟨H9.out.1.1.1.1.next hb, H9.out.1.1.1.2.1.next hb, H9.out.1.1.1.2.2.next hb⟩, H9.out.1.2.next hb⟩; have M10 := Lib.hid hA; clear c0 c1 g9 s9 p9 hA hb)
        have HP := Lib.hid (range_put w10 (n : Int) Am p cm)
        refine world_gen (fun W => BB w (some ad) ls (n : Int) p H w1.heap.size w3.heap.size b8 w10.heap.size Aw A At Am cw d ct cm W) ⟨H10.out.1.1.next HP.out.2, H10.out.1.2.1.next HP.out.2, H10.out.1.2.2.next HP.out.2, H10.out.2.next HP.out.2, HP.out.1, M10.out.next HP.out.2⟩ (fun w11 hc => ?_)
        clear HP H9 H10 M10 C3
        have HC := Lib.hid hc
        clear hc
        have e4 : Hid (BBc w1.heap.size w3.heap.size b8 w10.heap.size (n : Int) p Aw A At Am cw d ct cm w11) := Lib.hid HC.out.cells
        obtain ⟨c0, c1, c2, c3, c4, c5, c6, c7⟩ := e4.out
        have g0 := HC.out.2.1.2
        have g1 := HC.out.2.2.1.2
        have g2 := HC.out.2.2.2.1.2
        have g3 := HC.out.2.2.2.2.2
        go_upto_region 20 with (go_at_call 23; (first | (with_reducible refine (CS.out _ _ _ _ _ g0 g1).mono ?_) | (with_reducible refine (CS.out _ _ _ _ _ g0 g2).mono ?_) | (with_reducible refine (CS.out _ _ _ _ _ g0 g3).mono ?_)); rintro e wz ⟨rfl, hb⟩; clear c0 c1 c2 c3 c4 c5 c6 c7 g0 g1 g2 g3 e4; replace HC := Lib.hid (HC.out.next hb); clear hb; have e4 : Hid (BBc w1.heap.size w3.heap.size b8 w10.heap.size (n : Int) p Aw A At Am cw d ct cm wz) := Lib.hid HC.out.cells; obtain ⟨c0, c1, c2, c3, c4, c5, c6, c7⟩ := e4.out; have g0 := HC.out.2.1.2; have g1 := HC.out.2.2.1.2; have g2 := HC.out.2.2.2.1.2; have g3 := HC.out.2.2.2.2.2)
        clear g1 g2 g3 c2 c3 c4 c5 c6 c7 e4
        have s0 := HC.out.1
        have h0 := HQC.out
        go_upto_region 21 with (go_at_call 11; (with_reducible refine (CR.out _ _ _ s0 g0 h0).mono ?_); rintro e w12 ⟨rfl, hb⟩; obtain ⟨w13, s13, hr13, hb13, hz13⟩ := made_write w12 F zF.out oF.out; have H13 : Hid (SmH w (some ad) ls w13 ∧ Row w13 w12.heap.size 31 F) := Lib.hid ⟨(s0.next hb).next hb13, hr13⟩; clear c0 c1 hr13 hb13 hz13 hb)
        clear HC g0 s0 h0 CR CS HQC
        refine wp_region_fk (Below w13.heap.size w13) (.get 0 (.get 1 (.get 2 (.get 3 (.get 4 (.call 5 (.get 6 (.get 7 (.get 8 (.call 9 (.get 10 (.get 11 .done)))))))))))) (by kernel_rfl) rfl (by kernel_rfl) (by kernel_rfl) (by intro c a d v w h; cases d <;> exact h) ((Below.refl w13.heap.size w13).drew) (fun Q' hQ => ?_)
        have HS := Lib.hid ((Below.refl w13.heap.size w13).drew)
        have HQ := Lib.hid hQ
        clear hQ
        refine wpFk_get rfl (by rfl) (fun K hK => ?_)
        refine ⟨?_, fun w' hS' => ?_, ?_⟩
        rotate_left
        · go_simp
          try (with_reducible rfl)
        try go_simp
        refine hK _ ?_
        clear hK K
        refine wpFk_get rfl (by rfl) (fun K hK => ?_)
        refine ⟨?_, fun w' hS' => ?_, ?_⟩
        rotate_left
        · go_simp
          try (with_reducible rfl)
        try go_simp
        refine hK _ ?_
        clear hK K
        refine wpFk_get rfl (by rfl) (fun K hK => ?_)
        refine ⟨?_, fun w' hS' => ?_, ?_⟩
        rotate_left
        · go_simp
          try (with_reducible rfl)
        try go_simp
        refine hK _ ?_
        clear hK K
        refine wpFk_get rfl (by rfl) (fun K hK => ?_)
        refine ⟨_, fun w' hS' => get_load rfl rfl ((H13.out.2.next hS').read zF.out), ?_⟩
        try go_simp
        refine hK _ ?_
        clear hK K
        refine wpFk_get rfl (by rfl) (fun K hK => ?_)
        refine ⟨?_, fun w' hS' => ?_, ?_⟩
        rotate_left
        · go_simp
          try (with_reducible rfl)
        try go_simp
        refine hK _ ?_
        clear hK K
        refine wpFk_call rfl (by rfl) (fun K hK => ?_)
        go_simp
        go_at_call 25
        refine (CT.out _ (H13.out.1.next HS.out)).mono ?_
        rintro e w2x ⟨rfl, hb⟩
        replace HS := Lib.hid (below_new HS.out hb)
        clear hb
        refine hK _ _ HS.out ?_
        clear hK K
        refine wpFk_get rfl (by rfl) (fun K hK => ?_)
        refine ⟨_, fun w' hS' => get_eqH rfl rfl rfl (QF _), ?_⟩
        try go_simp
        refine hK _ ?_
        clear hK K
        refine wpFk_get rfl (by rfl) (fun K hK => ?_)
        refine ⟨?_, fun w' hS' => ?_, ?_⟩
        rotate_left
        · go_simp
          try (with_reducible rfl)
        try go_simp
        refine hK _ ?_
        clear hK K
        refine wpFk_get rfl (by rfl) (fun K hK => ?_)
        refine ⟨?_, fun w' hS' => ?_, ?_⟩
        rotate_left
        · go_simp
          try (with_reducible rfl)
        try go_simp
        refine hK _ ?_
        clear hK K
        refine wpFk_call rfl (by rfl) (fun K hK => ?_)
        go_simp
        go_at_call 8
        refine (ranged_any _ (H13.out.1.next HS.out).2.1).mono ?_
        rintro e w2x ⟨rfl, hb⟩
        replace HS := Lib.hid (below_new HS.out hb)
        clear hb
        refine hK _ _ HS.out ?_
        clear hK K
        refine wpFk_get rfl (by rfl) (fun K hK => ?_)
        refine ⟨?_, fun w' hS' => ?_, ?_⟩
        rotate_left
        · go_simp
          try (with_reducible rfl)
        try go_simp
        refine hK _ ?_
        clear hK K
        refine wpFk_get rfl (by rfl) (fun K hK => ?_)
        refine ⟨?_, fun w' hS' => ?_, ?_⟩
        rotate_left
        · go_simp
          try (with_reducible rfl)
        try go_simp
        refine hK _ ?_
        clear hK K
        refine wpFk_done ?_
        refine HQ.out _ _ ?_
        go_wp2
        go_ret
        exact ⟨rfl, below_new H13.out.1.2.2 HS.out⟩

attribute [local go_sem ↓ high] read_at write_at eq_at neq_at
set_option maxHeartbeats 40000000 in
theorem samelaw_none (at0 : Int) (hat : 0 ≤ at0 ∧ at0 ≤ 255) (ls : List (List Int)) (hh : hashes ls) (w : World) (hT : Tab w) (h0 : ls = []) :
    Calls Tryd.prog 5 #[.slice none 0 0, .int .u8 at0] w fun e w' => e = .returned (.bool true) ∧ Below w.heap.size w w' := by
  obtain ⟨n, hn⟩ : ∃ n, Hid (n = ls.length) := ⟨_, Lib.hid rfl⟩
  obtain ⟨k, hk⟩ : ∃ k : Nat, Hid (k = 0) := ⟨_, Lib.hid rfl⟩
  have hn0 : n = 0 := by rw [hn.out, h0]; rfl
  have hk0 : k = 0 := hk.out
  subst hn0 hk0
  have ek : at0.tmod 1 = 0 := Int.tmod_one _
  have hn80 : (0 : Nat) ≤ 80 := by omega
  have hkn : (0 : Nat) ≤ 0 := by omega
  have HLW : Hid (∀ W, SmH w none ls W → HW W none (ls.take 0) ∧ HW W none (ls.drop 0)) := Lib.hid fun W h => ⟨h.1.take 0, by rw [List.drop_zero]; exact h.1⟩
  have lt1 : Hid ((ls.take 0).length = 0) := Lib.hid (by rw [List.take_zero]; rfl)
  have ld1 : Hid ((ls.drop 0).length = 0) := Lib.hid (by rw [List.drop_zero, h0]; rfl)
  have SM0 : Hid (SmH w none ls w) := Lib.hid ⟨by rw [h0]; exact HL.nil _ _ _, hT, Below.refl _ _⟩
  have hcc : Hid ((0 : Nat) ≤ 0 ∧ 0 - 0 ≤ 0 - 0 ∧ 0 - 0 ≤ maxLen ∧ 0 ≤ 0 ∧ 0 ≤ maxLen) := Lib.hid (by decide)
  clear h0

  obtain ⟨H, hH⟩ : ∃ H, Hid (H = adds 0 [] ls) := ⟨_, Lib.hid rfl⟩
  obtain ⟨Hk, hHk⟩ : ∃ H, Hid (H = adds 0 [] (ls.take 0)) := ⟨_, Lib.hid rfl⟩
  obtain ⟨P, hP⟩ : ∃ P, Hid (P = rootsL 0 (ls.drop 0)) := ⟨_, Lib.hid rfl⟩
  obtain ⟨q, hq⟩ : ∃ q, Hid (q = H.length) := ⟨_, Lib.hid rfl⟩
  obtain ⟨qk, hqk⟩ : ∃ q, Hid (q = Hk.length) := ⟨_, Lib.hid rfl⟩
  obtain ⟨qp, hqp⟩ : ∃ q, Hid (q = P.length) := ⟨_, Lib.hid rfl⟩
  have hhH : Hid (hashes H) := Lib.hid (by rw [hH.out]; exact adds_hashes ls 0 [] hh (fun _ h => nomatch h))
  have hhk : Hid (hashes Hk) := Lib.hid (by rw [hHk.out]; exact adds_hashes _ 0 [] (hashes_take hh _) (fun _ h => nomatch h))
  have hhP : Hid (hashes P) := Lib.hid (by rw [hP.out]; exact rootsL_hashes _ _ (hashes_drop hh _))
  have lH : ∀ i, i ≤ 0 → (adds 0 [] (ls.take i)).length = ones i := fun i hi => by
    have := adds_length (ls.take i) 0 [] (by rw [ones_zero]; rfl)
    rw [this, List.length_take, ← hn.out, Nat.zero_add, Nat.min_eq_left hi]
  have eH : H = adds 0 [] (ls.take 0) := by rw [hH.out, List.take_of_length_le (by rw [← hn.out]; exact Nat.le_refl _)]
  have q1 : Hid (q = ones 0) := Lib.hid (by rw [hq.out, eH]; exact lH _ (Nat.le_refl _))
  have qk1 : Hid (qk = ones 0) := Lib.hid (by rw [hqk.out, hHk.out]; exact lH _ hkn)
  have v1 : validB 0 q = true := validB_yes ⟨by omega, by omega, by rw [q1.out]; rfl⟩
  have vk : validB 0 qk = true := validB_yes ⟨by omega, by omega, by rw [qk1.out]; rfl⟩
  have E1 : extF 0 [] ls = (0, H, 0) := by
    rw [extF_ok (validB_yes ⟨by decide, by decide, by rw [show (0 : Int).toNat = 0 from rfl, ones_zero]; rfl⟩) (by rw [← hn.out]; omega), ← hn.out, Int.zero_add, hH.out]; rfl
  have E2 : extF 0 [] (ls.take 0) = (0, Hk, 0) := by
    rw [extF_ok (validB_yes ⟨by decide, by decide, by rw [show (0 : Int).toNat = 0 from rfl, ones_zero]; rfl⟩) (by rw [lt1.out]; omega), lt1.out, Int.zero_add, hHk.out]; rfl
  have eA : adds 0 Hk (ls.drop 0) = H := by
    have := adds_app (ls.take 0) (ls.drop 0) 0 []
    rw [List.take_append_drop, lt1.out, Nat.zero_add, ← hHk.out, ← hH.out] at this
    exact this.symm
  have E3 : extF 0 Hk (ls.drop 0) = (0, H, 0) := by
    rw [extF_ok (by rw [← hqk.out]; exact vk) (by rw [ld1.out]; omega), ld1.out, show 0 + ((0 - 0 : Nat) : Int) = 0 by omega]
    show (_, adds 0 Hk (ls.drop 0), _) = _
    rw [eA]
  have E4 : partF 0 (ls.drop 0) = (P, 0) := by
    rw [partF_ok (by rw [ld1.out]; omega), hP.out]; rfl
  have E5 : mergeF 0 Hk 0 P = (0, H, 0) := by
    have hpl : P.length = (partsL 0 0).length := by rw [hP.out, rootsL_length, ld1.out, show 0 + (0 - 0) = 0 by omega]
    rw [mergeF_ok ⟨by rw [← hqk.out]; exact vk, by omega, by omega, hpl⟩]
    show (_, pushes (partsL 0 0) P 0 Hk, _) = _
    have := pushes_parts _ 0 Hk (ls.drop 0) rfl
    rw [ld1.out, show 0 + (0 - 0) = 0 by omega, ← hP.out, eA] at this
    rw [this]
  have E6 : rootF 0 H = (rootL ls, 0) := by
    rw [rootF_ok (by rw [← hq.out]; exact v1), hH.out, adds_root ls (by rw [← hn.out]; omega)]
  obtain ⟨F, hF⟩ : ∃ F, Hid (F = nums .u8 (rootL ls)) := ⟨_, Lib.hid rfl⟩
  have hrl := rootL_is ls hh
  have zF : Hid (F.size = 32) := Lib.hid (by rw [hF.out, nums_size]; exact hrl.1)
  have oF : Hid (F.all (·.oneCell') = true) := Lib.hid (by rw [hF.out]; exact nums_one _ _)
  have CO : Hid (∀ W, SmH w none ls W → Calls Tryd.prog 21 #[.slice none 0 0] W fun e w' => ∃ A c', e = .returned (.tuple #[.agg #[.int .i64 0, .slice A q c'], .int .i64 0]) ∧ q ≤ c' ∧ HW w' A H ∧ Below W.heap.size W w') := Lib.hid fun W h => by
    have := of_any W h.2.1 none 0 ls hh h.1 (by rw [← hn.out]; exact hcc.out.2.2.2.1) hcc.out.2.2.2.2
    rw [E1, ← hn.out] at this
    refine this.mono ?_
    rintro e w' ⟨A, c', rfl, ho⟩
    exact ⟨A, c', by rw [hq.out], by rw [hq.out]; exact (own_some ho.1).1, own_HW ho rfl hhH.out, ho.2⟩
  have CH : Hid (∀ W, SmH w none ls W → Calls Tryd.prog 21 #[.slice none 0 0] W fun e w' => ∃ A c', e = .returned (.tuple #[.agg #[.int .i64 0, .slice A qk c'], .int .i64 0]) ∧ HW w' A Hk ∧ Below W.heap.size W w') := Lib.hid fun W h => by
    have := of_any W h.2.1 none 0 (ls.take 0) (hashes_take hh _) (HLW.out W h).1 (by rw [lt1.out]; exact hcc.out.1) hcc.out.2.2.2.2
    rw [E2, lt1.out] at this
    refine this.mono ?_
    rintro e w' ⟨A, c', rfl, ho⟩
    exact ⟨A, c', by rw [hqk.out], own_HW ho rfl hhk.out, ho.2⟩
  have C2 : Hid (∀ W A d, SmH w none ls W → HW W A Hk → Calls Tryd.prog 9 #[.agg #[.int .i64 0, .slice A qk d], .slice none 0 0] W fun e w' => ∃ A c', e = .returned (.tuple #[.agg #[.int .i64 0, .slice A q c'], .int .i64 0]) ∧ OwnL W w' (.slice A q c') q H) := Lib.hid fun W A d h hA => by
    have := extend_any W h.2.1 0 (by omega) A d Hk hhk.out hA none 0 (ls.drop 0) (hashes_drop hh _) (HLW.out W h).2 (by rw [ld1.out]; exact hcc.out.2.1) hcc.out.2.2.1
    rw [E3, ld1.out, ← hqk.out] at this
    refine this.mono ?_
    rintro e w' ⟨A, c', rfl, ho⟩
    exact ⟨A, c', by rw [hq.out], by rw [hq.out]; exact ho⟩
  have CP : Hid (∀ W, SmH w none ls W → Calls Tryd.prog 18 #[.int .i64 0, .slice none 0 0] W fun e w' => ∃ A c', e = .returned (.tuple #[.slice A qp c', .int .i64 0]) ∧ HW w' A P ∧ Below W.heap.size W w') := Lib.hid fun W h => by
    have := part_any W h.2.1 0 (by omega) none 0 (ls.drop 0) (hashes_drop hh _) (HLW.out W h).2 (by rw [ld1.out]; exact hcc.out.2.1) hcc.out.2.2.1
    rw [E4, ld1.out] at this
    refine this.mono ?_
    rintro e w' ⟨A, c', rfl, _, _, h4, hb⟩
    exact ⟨A, c', by rw [hqp.out], h4, hb⟩
  have C3 : Hid (∀ W A d B d2, SmH w none ls W → HW W A Hk → HW W B P → Calls Tryd.prog 16 #[.agg #[.int .i64 0, .slice A qk d], .int .i64 0, .slice B qp d2] W fun e w' => ∃ A c', e = .returned (.tuple #[.agg #[.int .i64 0, .slice A q c'], .int .i64 0]) ∧ HW w' A H ∧ Below W.heap.size W w') := Lib.hid fun W A d B d2 h hA hB => by
    have hpl : P.length ≤ 9223372036854775807 := by
      have h1 : P.length = (partsL 0 0).length := by rw [hP.out, rootsL_length, ld1.out, show 0 + (0 - 0) = 0 by omega]
      have h2 := partsL_length 0 0
      omega
    have := merge_any W h.2.1 0 A d Hk hhk.out hA 0 B d2 P hhP.out hB hpl
    rw [E5, ← hqk.out, ← hqp.out] at this
    refine this.mono ?_
    rintro e w' ⟨A, c', rfl, ho⟩
    exact ⟨A, c', by rw [hq.out], own_HW ho rfl hhH.out, ho.2⟩
  have CV : Hid (∀ W A d, Calls Tryd.prog 14 #[.agg #[.int .i64 0, .slice A q d]] W fun e w' => e = .returned (.bool true) ∧ Below W.heap.size W w') := Lib.hid fun W A d => by
    have := valid_any 0 A q d W
    rwa [v1] at this
  have CS : Hid (∀ W A d B d2, HW W A H → HW W B H → Calls Tryd.prog 23 #[.agg #[.int .i64 0, .slice A q d], .agg #[.int .i64 0, .slice B q d2]] W fun e w' => e = .returned (.bool true) ∧ Below W.heap.size W w') := Lib.hid fun W A d B d2 hA hB => by
    have hql : H.length ≤ 9223372036854775807 := by
      have h2 := ones_le 13 0 (by omega)
      rw [← hq.out, q1.out]; omega
    have := rsame_any W 0 0 A B d d2 H H hhH.out hhH.out hql hql hA hB
    rw [← hq.out, show sameB 0 H 0 H = true from decide_eq_true ⟨rfl, rfl⟩] at this
    exact this
  have CR : Hid (∀ W A d, SmH w none ls W → HW W A H → q ≤ d → Calls Tryd.prog 11 #[.agg #[.int .i64 0, .slice A q d]] W fun e w' => e = .returned (.tuple #[.agg F, .int .i64 0]) ∧ Below W.heap.size W w') := Lib.hid fun W A d h hA hd => by
    have := rroot_any W h.2.1 0 A d H hhH.out hA (by rw [← hq.out]; exact hd)
    rw [E6, ← hq.out] at this
    unfold GivesH at this
    rw [hF.out]
    exact this
  have CT : Hid (∀ W, SmH w none ls W → Calls Tryd.prog 25 #[.slice none 0 0] W fun e w' => e = .returned (.agg F) ∧ Below W.heap.size W w') := Lib.hid fun W h => by
    have := root_any ls hh none 0 W h.1 h.2.1 (by rw [← hn.out]; omega)
    rw [← hn.out, ← hF.out] at this
    exact this
  have QF : ∀ W, (eqAt (.agg F) (.agg F)).run Tryd.prog W = .ok (.bool true) W := fun W => by
    rw [hF.out, eqAt_hash _ _ hrl.1 hrl.1 hrl.2 hrl.2 W, decide_eq_true rfl]
  have CA : Hid (∀ (i : Nat) W A d, i < 0 → SmH w none ls W → HW W A (adds 0 [] (ls.take i)) → ∀ X, X = nums .u8 (ls.getD i []) → Calls Tryd.prog 24 #[.agg #[.int .i64 (i : Int), .slice A (ones i) d], .agg X] W fun e w' => ∃ A c', e = .returned (.tuple #[.agg #[.int .i64 ((i + 1 : Nat) : Int), .slice A (ones (i + 1)) c'], .int .i64 0]) ∧ OwnL W w' (.slice A (ones (i + 1)) c') (ones (i + 1)) (adds 0 [] (ls.take (i + 1)))) := Lib.hid fun i W A d hi h hA X hX => by
    have hi2 : i < ls.length := by rw [← hn.out]; exact hi
    have hxi := hashes_at hh i hi2
    have := append_any W h.2.1 (i : Int) (by omega) A d (adds 0 [] (ls.take i)) (adds_hashes _ 0 [] (hashes_take hh _) (fun _ h => nomatch h)) hA (ls.getD i []) hxi
    have hE : extF (i : Int) (adds 0 [] (ls.take i)) [ls.getD i []] = (((i + 1 : Nat) : Int), adds 0 [] (ls.take (i + 1)), 0) := by
      rw [extF_ok (validB_yes ⟨by omega, by omega, by rw [lH i (by omega)]; rfl⟩) (by simp; omega)]
      have h1 := adds_app (ls.take i) [ls.getD i []] 0 []
      rw [List.length_take, ← hn.out, Nat.zero_add, Nat.min_eq_left (by omega)] at h1
      have h2 : ls.take i ++ [ls.getD i []] = ls.take (i + 1) := by
        rw [List.take_succ_eq_append_getElem hi2, List.getD_eq_getElem?_getD, List.getElem?_eq_getElem hi2]; rfl
      rw [h2] at h1
      rw [h1]; rfl
    rw [hE, lH i (by omega), ← hX] at this
    refine this.mono ?_
    rintro e w' ⟨A, c', rfl, ho⟩
    have e1 := lH (i + 1) (by omega)
    have ho2 : OwnL W w' (.slice A (adds 0 [] (ls.take (i + 1))).length c') (adds 0 [] (ls.take (i + 1))).length (adds 0 [] (ls.take (i + 1))) := ho
    rw [e1] at ho2
    exact ⟨A, c', by rw [← e1], ho2⟩
  have hat2 : at0 % 256 = at0 := by omega
  clear hT E1 E2 E3 E4 E5 E6 eA hrl v1 vk hat

  go_enter Tryd.func5, Tryd.ntmps5
  go_upto_region 5 with (go_at_call 21; (with_reducible refine (CO.out _ SM0.out).mono ?_); rintro e w1 ⟨Aw, cw, rfl, hqc, hA, hb⟩; have H1 : Hid (SmH w none ls w1 ∧ HW w1 Aw H) := Lib.hid ⟨SM0.out.next hb, hA⟩; have HQC := Lib.hid hqc; clear hb hA hqc)
  have HP := Lib.hid (range_put w1 0 Aw q cw)
  refine world_gen (fun W => SmH w none ls W ∧ RgW W w1.heap.size 0 Aw q cw H) ⟨H1.out.1.next HP.out.2, HP.out.1, H1.out.2.next HP.out.2⟩ (fun w2 H2 => ?_)
  clear HP H1 CO SM0
  have H2 := Lib.hid H2
  have c0 : w2.cell? ⟨w1.heap.size, 0, none⟩ = some (.int .i64 0) := H2.out.2.1.cell 0
  have c1 : w2.cell? ⟨w1.heap.size, 1, none⟩ = some (.slice Aw q cw) := H2.out.2.1.cell 1
  go_wp2_with (go_at_call 14; (with_reducible refine (CV.out _ _ _).mono ?_); rintro e w3 ⟨rfl, hb⟩; have H3 : Hid (SmH w none ls w3 ∧ RgW w3 w1.heap.size 0 Aw q cw H) := Lib.hid ⟨H2.out.1.next hb, H2.out.2.next hb⟩; clear hb c0 c1)
  have HP : Hid (Below w3.heap.size w3 (w3.alloc (.cells #[.int .i64 0, .slice none 0 0] 24))) := Lib.hid ((Below.refl _ _).alloc (Nat.le_refl _) _)
  refine world_gen (fun W => Below w3.heap.size w3 W ∧ RgW W w3.heap.size 0 none 0 0 []) ⟨HP.out, Row.made _ _ _, HL.nil _ _ _⟩ (fun w4 H4 => ?_)
  clear HP H2 CV
  have H4 := Lib.hid H4
  have ez : Hid (ones 0 = 0) := Lib.hid ones_zero
  go_loopw [7, 9] (fun s7 s9 wr => ∃ (i p d : Nat) (A : Option Addr), s7 = .int .i64 0 ∧ s9 = .int .i64 (i : Int) ∧ i ≤ 0 ∧ Hid (p = ones i) ∧ Hid (Below w3.heap.size w3 wr ∧ RgW wr w3.heap.size (i : Int) A p d (adds 0 [] (ls.take i)))) (fun _ s9 _ => (0 - intOf s9).toNat)
  case atStart => exact ⟨0, 0, 0, none, rfl, rfl, Nat.zero_le _, Lib.hid ez.out.symm, Lib.hid ⟨H4.out.1, by rw [List.take_zero]; exact H4.out.2⟩⟩
  case round =>
    clear H4 ez
    obtain ⟨i, p, d, A, rfl, rfl, hi, hp, HR⟩ := hrel
    · have hin : 0 = i := by omega
      have hpq : p = q := by rw [hp.out, q1.out, ← hin]
      subst hpq
      have H5 : Hid (SmH w none ls wr ∧ RgW wr w1.heap.size 0 Aw p cw H ∧ RgW wr w3.heap.size 0 A p d H) := Lib.hid ⟨H3.out.1.next HR.out.1, H3.out.2.next HR.out.1, by
        have := HR.out.2
        rw [← hin, ← eH] at this
        exact this⟩
      clear HR H3 CA hp lH eH
      subst hin
      go_upto_region 15 with (go_at_call 21; (with_reducible refine (CH.out _ H5.out.1).mono ?_); rintro e w6 ⟨Ah, ch, rfl, hA, hb⟩; have H6 : Hid ((SmH w none ls w6 ∧ RgW w6 w1.heap.size 0 Aw p cw H ∧ RgW w6 w3.heap.size 0 A p d H) ∧ HW w6 Ah Hk) := Lib.hid ⟨⟨H5.out.1.next hb, H5.out.2.1.next hb, H5.out.2.2.next hb⟩, hA⟩; clear hb hA)
      have HP := Lib.hid (range_put w6 0 Ah qk ch)
      refine world_gen (fun W => (SmH w none ls W ∧ RgW W w1.heap.size 0 Aw p cw H ∧ RgW W w3.heap.size 0 A p d H) ∧ RgW W w6.heap.size 0 Ah qk ch Hk) ⟨⟨H6.out.1.1.next HP.out.2, H6.out.1.2.1.next HP.out.2, H6.out.1.2.2.next HP.out.2⟩, HP.out.1, H6.out.2.next HP.out.2⟩ (fun w7 H7 => ?_)
      clear HP H6 H5 CH
      have H7 := Lib.hid H7
      go_cut [12, 13] (fun s12 s13 wx => ∃ b A' c', s12 = .pointer (some ⟨b, 0, none⟩) ∧ s13 = .int .i64 0 ∧ Hid (((SmH w none ls wx ∧ RgW wx w1.heap.size 0 Aw p cw H ∧ RgW wx w3.heap.size 0 A p d H) ∧ RgW wx w6.heap.size 0 Ah qk ch Hk) ∧ RgW wx b 0 A' p c' H))
      case first =>
        have X2 : Hid (∀ W, Below w7.heap.size w7 W → Calls Tryd.prog 9 #[.agg #[.int .i64 0, .slice Ah qk ch], .slice none 0 0] W fun e w' => ∃ A c', e = .returned (.tuple #[.agg #[.int .i64 0, .slice A p c'], .int .i64 0]) ∧ OwnL W w' (.slice A p c') p H) := Lib.hid fun W hW => C2.out W Ah ch (H7.out.1.1.next hW) (H7.out.2.2.next hW)
        refine wp_region_fk (Below w7.heap.size w7) (.get 0 (.get 1 (.get 2 (.get 3 (.fork 4 8 (.get 5 (.get 6 (.get 7 (.call 8 (.call 9 (.get 10 .done)))))) (.call 4 (.get 5 (.get 6 (.get 7 (.call 9 (.get 10 .done))))))))))) (by kernel_rfl) rfl (by kernel_rfl) (by kernel_rfl) (by intro c a d v w h; cases d <;> exact h) ((Below.refl w7.heap.size w7).drew) (fun Q' hQ => ?_)
        have HS := Lib.hid ((Below.refl w7.heap.size w7).drew)
        have HQ := Lib.hid hQ
        clear hQ
        refine wpFk_get rfl (by rfl) (fun K hK => ?_)
        refine ⟨?_, fun w' hS' => ?_, ?_⟩
        rotate_left
        · have c0 := (H7.out.2.next hS').1.cell 0
          have c1 := (H7.out.2.next hS').1.cell 1
          go_simp
          try (with_reducible rfl)
        try go_simp
        refine hK _ ?_
        clear hK K
        refine wpFk_get rfl (by rfl) (fun K hK => ?_)
        refine ⟨?_, fun w' hS' => ?_, ?_⟩
        rotate_left
        · go_simp
          try (with_reducible rfl)
        try go_simp
        refine hK _ ?_
        clear hK K
        refine wpFk_get rfl (by rfl) (fun K hK => ?_)
        refine ⟨?_, fun w' hS' => ?_, ?_⟩
        rotate_left
        · go_simp
          try (with_reducible rfl)
        try go_simp
        refine hK _ ?_
        clear hK K
        refine wpFk_get rfl (by rfl) (fun K hK => ?_)
        refine ⟨?_, fun w' hS' => ?_, ?_⟩
        rotate_left
        · go_simp
          try (with_reducible rfl)
        try go_simp
        refine hK _ ?_
        clear hK K
        refine wpFk_fork ?_ ?_
        · refine wpFk_call rfl (by rfl) (fun K hK => ?_)
          go_simp
          go_at_call 9
          refine (X2.out _ HS.out).mono ?_
          rintro e w8 ⟨Ab, cb, rfl, ho⟩
          have HO := Lib.hid ho
          have hb := ho.2
          replace HS := Lib.hid (below_new HS.out hb)
          clear hb ho
          refine hK _ _ HS.out ?_
          clear hK K
          refine wpFk_get rfl (by rfl) (fun K hK => ?_)
          refine ⟨?_, fun w' hS' => ?_, ?_⟩
          rotate_left
          · go_simp
            try (with_reducible rfl)
          try go_simp
          refine hK _ ?_
          clear hK K
          refine wpFk_get rfl (by rfl) (fun K hK => ?_)
          refine ⟨?_, fun w' hS' => ?_, ?_⟩
          rotate_left
          · go_simp
            try (with_reducible rfl)
          try go_simp
          refine hK _ ?_
          clear hK K
          refine wpFk_get rfl (by rfl) (fun K hK => ?_)
          refine ⟨?_, fun w' hS' => ?_, ?_⟩
          rotate_left
          · go_simp
            try (with_reducible rfl)
          try go_simp
          refine hK _ ?_
          clear hK K
          refine wpFk_call rfl (by rfl) (fun K hK => ?_)
          go_simp
          have HSb := HS
          have HZ := Lib.hid (Row.made w8 24 #[.int .i64 0, .slice none 0 0])
          replace HS := Lib.hid (HS.out.alloc HS.out.size (.cells #[.int .i64 0, .slice none 0 0] 24))
          refine hK _ _ HS.out ?_
          clear hK K
          refine wpFk_call rfl (by rfl) (fun K hK => ?_)
          go_simp
          have HF := Lib.hid (Row.made w8 24 #[.int .i64 0, .slice Ab p cb])
          replace HS := Lib.hid (HSb.out.alloc HSb.out.size (.cells #[.int .i64 0, .slice Ab p cb] 24))
          refine hK _ _ HS.out ?_
          clear hK K
          refine wpFk_get rfl (by rfl) (fun K hK => ?_)
          refine ⟨?_, fun w' hS' => ?_, ?_⟩
          rotate_left
          · go_simp
            try (with_reducible rfl)
          try go_simp
          refine hK _ ?_
          clear hK K
          refine wpFk_done ?_
          refine HQ.out _ _ ?_
          go_wp2
          go_meet
          case rel => exact ⟨_, _, _, rfl, rfl, Lib.hid ⟨⟨⟨H7.out.1.1.next HS.out, H7.out.1.2.1.next HS.out, H7.out.1.2.2.next HS.out⟩, H7.out.2.next HS.out⟩, HF.out, (own_HW HO.out hq.out hhH.out).next ((Below.refl w8.heap.size w8).alloc (Nat.le_refl _) _)⟩⟩
        · refine wpFk_call rfl (by rfl) (fun K hK => ?_)
          go_simp
          have HSb := HS
          have HZ := Lib.hid (Row.made w7.drew 24 #[.int .i64 0, .slice none 0 0])
          replace HS := Lib.hid (HS.out.alloc HS.out.size (.cells #[.int .i64 0, .slice none 0 0] 24))
          refine hK _ _ HS.out ?_
          clear hK K
          refine wpFk_call rfl (by rfl) (fun K hK => ?_)
          go_simp
          go_at_call 9
          refine (X2.out _ HS.out).mono ?_
          rintro e w8 ⟨Ab, cb, rfl, ho⟩
          have HO := Lib.hid ho
          have hb := ho.2
          have HZ4 : Hid (Row w8 w7.heap.size 24 #[.int .i64 0, .slice none 0 0]) := Lib.hid (HZ.out.next hb)
          have z0 := HZ4.out.cell 0
          have z1 := HZ4.out.cell 1
          have f0 := HZ4.out.free 0
          have f1 := HZ4.out.free 1
          replace HS := Lib.hid (below_new HS.out hb)
          clear hb ho
          refine hK _ _ HS.out ?_
          clear hK K
          refine wpFk_get rfl (by rfl) (fun K hK => ?_)
          refine ⟨?_, fun w' hS' => ?_, ?_⟩
          rotate_left
          · go_simp
            try (with_reducible rfl)
          try go_simp
          refine hK _ ?_
          clear hK K
          refine wpFk_get rfl (by rfl) (fun K hK => ?_)
          refine ⟨?_, fun w' hS' => ?_, ?_⟩
          rotate_left
          · go_simp
            try (with_reducible rfl)
          try go_simp
          refine hK _ ?_
          clear hK K
          refine wpFk_get rfl (by rfl) (fun K hK => ?_)
          refine ⟨?_, fun w' hS' => ?_, ?_⟩
          rotate_left
          · go_simp
            try (with_reducible rfl)
          try go_simp
          refine hK _ ?_
          clear hK K
          refine wpFk_call rfl (by rfl) (fun K hK => ?_)
          go_simp
          have HF := Lib.hid ((HZ4.out.put 0 (.int .i64 0)).put 1 (.slice Ab p cb))
          replace HS := Lib.hid ((HS.out.setCell (p := ⟨w7.heap.size, 0, none⟩) (Nat.le_refl _) (.int .i64 0)).setCell (p := ⟨w7.heap.size, 1, none⟩) (Nat.le_refl _) (.slice Ab p cb))
          refine hK _ _ HS.out ?_
          clear hK K
          refine wpFk_get rfl (by rfl) (fun K hK => ?_)
          refine ⟨?_, fun w' hS' => ?_, ?_⟩
          rotate_left
          · go_simp
            try (with_reducible rfl)
          try go_simp
          refine hK _ ?_
          clear hK K
          refine wpFk_done ?_
          refine HQ.out _ _ ?_
          go_wp2
          go_meet
          case rel => exact ⟨_, _, _, rfl, rfl, Lib.hid ⟨⟨⟨H7.out.1.1.next HS.out, H7.out.1.2.1.next HS.out, H7.out.1.2.2.next HS.out⟩, H7.out.2.next HS.out⟩, HF.out, own_HW2 HO.out.1 hq.out hhH.out (by simp) _ _⟩⟩
      case rest =>
        obtain ⟨b8, At, ct, rfl, rfl, H8⟩ := hcut
        clear H7 C2
        go_upto_region 17 with (go_at_call 18; (with_reducible refine (CP.out _ H8.out.1.1.1).mono ?_); rintro e w9 ⟨Ap, cp, rfl, hP9, hb⟩; have H9 : Hid ((((SmH w none ls w9 ∧ RgW w9 w1.heap.size 0 Aw p cw H ∧ RgW w9 w3.heap.size 0 A p d H) ∧ RgW w9 w6.heap.size 0 Ah qk ch Hk) ∧ RgW w9 b8 0 At p ct H) ∧ HW w9 Ap P) := Lib.hid ⟨⟨⟨⟨H8.out.1.1.1.next hb, H8.out.1.1.2.1.next hb, H8.out.1.1.2.2.next hb⟩, H8.out.1.2.next hb⟩, H8.out.2.next hb⟩, hP9⟩; clear hP9 hb)
        clear H8 CP
        have c0 := H9.out.1.1.2.1.cell 0
        have c1 := H9.out.1.1.2.1.cell 1
        have g9 := H9.out.1.1.2.2
        have s9 := H9.out.1.1.1.1
        have p9 := H9.out.2
        go_upto_region 18 with (go_at_call 16; (with_reducible refine (C3.out _ _ _ _ _ s9 g9 p9).mono ?_); rintro e w10 ⟨Am, cm, rfl, hA, hb⟩; have H10 : Hid ((SmH w none ls w10 ∧ RgW w10 w1.heap.size 0 Aw p cw H ∧ RgW w10 w3.heap.size 0 A p d H) ∧ RgW w10 b8 0 At p ct H) := Lib.hid ⟨⟨H9.out.1.1.1.1.next hb, H9.out.1.1.1.2.1.next hb, H9.out.1.1.1.2.2.next hb⟩, H9.out.1.2.next hb⟩; have M10 := Lib.hid hA; clear c0 c1 g9 s9 p9 hA hb)
        have HP := Lib.hid (range_put w10 0 Am p cm)
        refine world_gen (fun W => BB w none ls 0 p H w1.heap.size w3.heap.size b8 w10.heap.size Aw A At Am cw d ct cm W) ⟨H10.out.1.1.next HP.out.2, H10.out.1.2.1.next HP.out.2, H10.out.1.2.2.next HP.out.2, H10.out.2.next HP.out.2, HP.out.1, M10.out.next HP.out.2⟩ (fun w11 hc => ?_)
        clear HP H9 H10 M10 C3
        have HC := Lib.hid hc
        clear hc
        have e4 : Hid (BBc w1.heap.size w3.heap.size b8 w10.heap.size 0 p Aw A At Am cw d ct cm w11) := Lib.hid HC.out.cells
        obtain ⟨c0, c1, c2, c3, c4, c5, c6, c7⟩ := e4.out
        have g0 := HC.out.2.1.2
        have g1 := HC.out.2.2.1.2
        have g2 := HC.out.2.2.2.1.2
        have g3 := HC.out.2.2.2.2.2
        go_upto_region 20 with (go_at_call 23; (first | (with_reducible refine (CS.out _ _ _ _ _ g0 g1).mono ?_) | (with_reducible refine (CS.out _ _ _ _ _ g0 g2).mono ?_) | (with_reducible refine (CS.out _ _ _ _ _ g0 g3).mono ?_)); rintro e wz ⟨rfl, hb⟩; clear c0 c1 c2 c3 c4 c5 c6 c7 g0 g1 g2 g3 e4; replace HC := Lib.hid (HC.out.next hb); clear hb; have e4 : Hid (BBc w1.heap.size w3.heap.size b8 w10.heap.size 0 p Aw A At Am cw d ct cm wz) := Lib.hid HC.out.cells; obtain ⟨c0, c1, c2, c3, c4, c5, c6, c7⟩ := e4.out; have g0 := HC.out.2.1.2; have g1 := HC.out.2.2.1.2; have g2 := HC.out.2.2.2.1.2; have g3 := HC.out.2.2.2.2.2)
        clear g1 g2 g3 c2 c3 c4 c5 c6 c7 e4
        have s0 := HC.out.1
        have h0 := HQC.out
        go_upto_region 21 with (go_at_call 11; (with_reducible refine (CR.out _ _ _ s0 g0 h0).mono ?_); rintro e w12 ⟨rfl, hb⟩; obtain ⟨w13, s13, hr13, hb13, hz13⟩ := made_write w12 F zF.out oF.out; have H13 : Hid (SmH w none ls w13 ∧ Row w13 w12.heap.size 31 F) := Lib.hid ⟨(s0.next hb).next hb13, hr13⟩; clear c0 c1 hr13 hb13 hz13 hb)
        clear HC g0 s0 h0 CR CS HQC
        refine wp_region_fk (Below w13.heap.size w13) (.get 0 (.get 1 (.get 2 (.get 3 (.get 4 (.call 5 (.get 6 (.get 7 (.get 8 (.call 9 (.get 10 (.get 11 .done)))))))))))) (by kernel_rfl) rfl (by kernel_rfl) (by kernel_rfl) (by intro c a d v w h; cases d <;> exact h) ((Below.refl w13.heap.size w13).drew) (fun Q' hQ => ?_)
        have HS := Lib.hid ((Below.refl w13.heap.size w13).drew)
        have HQ := Lib.hid hQ
        clear hQ
        refine wpFk_get rfl (by rfl) (fun K hK => ?_)
        refine ⟨?_, fun w' hS' => ?_, ?_⟩
        rotate_left
        · go_simp
          try (with_reducible rfl)
        try go_simp
        refine hK _ ?_
        clear hK K
        refine wpFk_get rfl (by rfl) (fun K hK => ?_)
        refine ⟨?_, fun w' hS' => ?_, ?_⟩
        rotate_left
        · go_simp
          try (with_reducible rfl)
        try go_simp
        refine hK _ ?_
        clear hK K
        refine wpFk_get rfl (by rfl) (fun K hK => ?_)
        refine ⟨?_, fun w' hS' => ?_, ?_⟩
        rotate_left
        · go_simp
          try (with_reducible rfl)
        try go_simp
        refine hK _ ?_
        clear hK K
        refine wpFk_get rfl (by rfl) (fun K hK => ?_)
        refine ⟨_, fun w' hS' => get_load rfl rfl ((H13.out.2.next hS').read zF.out), ?_⟩
        try go_simp
        refine hK _ ?_
        clear hK K
        refine wpFk_get rfl (by rfl) (fun K hK => ?_)
        refine ⟨?_, fun w' hS' => ?_, ?_⟩
        rotate_left
        · go_simp
          try (with_reducible rfl)
        try go_simp
        refine hK _ ?_
        clear hK K
        refine wpFk_call rfl (by rfl) (fun K hK => ?_)
        go_simp
        go_at_call 25
        refine (CT.out _ (H13.out.1.next HS.out)).mono ?_
        rintro e w2x ⟨rfl, hb⟩
        replace HS := Lib.hid (below_new HS.out hb)
        clear hb
        refine hK _ _ HS.out ?_
        clear hK K
        refine wpFk_get rfl (by rfl) (fun K hK => ?_)
        refine ⟨_, fun w' hS' => get_eqH rfl rfl rfl (QF _), ?_⟩
        try go_simp
        refine hK _ ?_
        clear hK K
        refine wpFk_get rfl (by rfl) (fun K hK => ?_)
        refine ⟨?_, fun w' hS' => ?_, ?_⟩
        rotate_left
        · go_simp
          try (with_reducible rfl)
        try go_simp
        refine hK _ ?_
        clear hK K
        refine wpFk_get rfl (by rfl) (fun K hK => ?_)
        refine ⟨?_, fun w' hS' => ?_, ?_⟩
        rotate_left
        · go_simp
          try (with_reducible rfl)
        try go_simp
        refine hK _ ?_
        clear hK K
        refine wpFk_call rfl (by rfl) (fun K hK => ?_)
        go_simp
        go_at_call 8
        refine (ranged_any _ (H13.out.1.next HS.out).2.1).mono ?_
        rintro e w2x ⟨rfl, hb⟩
        replace HS := Lib.hid (below_new HS.out hb)
        clear hb
        refine hK _ _ HS.out ?_
        clear hK K
        refine wpFk_get rfl (by rfl) (fun K hK => ?_)
        refine ⟨?_, fun w' hS' => ?_, ?_⟩
        rotate_left
        · go_simp
          try (with_reducible rfl)
        try go_simp
        refine hK _ ?_
        clear hK K
        refine wpFk_get rfl (by rfl) (fun K hK => ?_)
        refine ⟨?_, fun w' hS' => ?_, ?_⟩
        rotate_left
        · go_simp
          try (with_reducible rfl)
        try go_simp
        refine hK _ ?_
        clear hK K
        refine wpFk_done ?_
        refine HQ.out _ _ ?_
        go_wp2
        go_ret
        exact ⟨rfl, below_new H13.out.1.2.2 HS.out⟩
/-- A list of more than eighty: the plain examples alone. -/
theorem samelaw_big (at0 : Int) (n c : Nat) (A : Option Addr) (h80 : 80 < n) (w : World) (hT : Tab w) :
    Calls Tryd.prog 5 #[.slice A n c, .int .u8 at0] w fun e w' => e = .returned (.bool true) ∧ Below w.heap.size w w' := by
  have d80 : decide (80 < (n : Int)) = true := by simp; omega
  go_enter Tryd.func5, Tryd.ntmps5
  go_wp2_with (go_at_call 8; (with_reducible refine (ranged_any _ hT).mono ?_); rintro e w1 ⟨rfl, hb⟩)
  go_ret
  exact ⟨rfl, hb⟩
theorem samelaw_any (at0 : Int) (hat : 0 ≤ at0 ∧ at0 ≤ 255) (A : Option Addr) (c : Nat) (ls : List (List Int)) (hh : hashes ls) (w : World) (hL : HL w w.heap.size A ls) (hc : ls.length ≤ c) (hcm : c ≤ maxLen) (hz : A = none → ls.length = 0 ∧ c = 0) (hT : Tab w) :
    Calls Tryd.prog 5 #[.slice A ls.length c, .int .u8 at0] w fun e w' => e = .returned (.bool true) ∧ Below w.heap.size w w' := by
  by_cases h80 : ls.length ≤ 80
  · cases A with
    | some ad => exact samelaw_some at0 hat ls hh w hT h80 ad c hL hc hcm
    | none =>
      obtain ⟨h1, rfl⟩ := hz rfl
      rw [h1]
      exact samelaw_none at0 hat ls hh w hT (List.eq_nil_of_length_eq_zero h1)
  · exact samelaw_big at0 ls.length c A (by omega) w hT
/-- A list that is none has no elements and no room. -/
theorem list_none {H : Type} {enc : TypeId × Value → H} {W : World} {base n c : Nat} {sp : Nat → Bool} {A : Option Addr} {d : DataW H} {ps : List MemPlace} (h : DataW.Trod enc Tryd.prog W base sp true 22 (.slice A n c) d ps) :
    A = none → n = 0 ∧ c = 0 := by
  intro hA
  obtain ⟨fuel, hf⟩ := h
  rcases DataW.trod_slice Tryd.underlying22 hf with ⟨hcs, hx⟩ | ⟨a, len', cap', elems, rest, n', _, hcs, hx, hb, hl, hm, hlen, hel, _⟩
  · simp [Value.cells] at hcs
    exact ⟨hcs.2.1, hcs.2.2⟩
  · simp [Value.cells, hA] at hcs
end Go.Proofs.YtcafmnlledhdjaaDoor
