/-
  The chapter's examples, as the statements of layer 7 call them ('proved'): true; the call makes new memory, nothing that was there changes. Condition: the two tables as they were laid.
-/
import Derived.Test.YtkjgkeigfebcmaaDoorProofCheck
import Derived.Test.YtkjgkeigfebcmaaDoorProofProof
import Derived.Test.YtkjgkeigfebcmaaDoorPathSome
import Derived.Test.YtkjgkeigfebcmaaDoorListSame
namespace Go.Proofs.YtkjgkeigfebcmaaDoor
open Go.RowKit Go.Great
set_option linter.unusedVariables false
set_option maxRecDepth 100000

theorem split5 : splitN 5 = 4 := splitN_is 5 2 (by decide) (by decide)
theorem split4 : splitN 4 = 2 := splitN_is 4 1 (by decide) (by decide)
theorem split2 : splitN 2 = 1 := splitN_is 2 0 (by decide) (by decide)
theorem sub_three (a b c d e : List Int) : subL [a, b, c, d, e] 3 true = [c, d, nodeL a b, e] := by
  rw [subL_left [a, b, c, d, e] 3 true (by decide) (by simp) (by show 3 ≤ splitN 5; rw [split5]; decide)]
  show subL (List.take (splitN 5) [a, b, c, d, e]) 3 true ++ [rootL (List.drop (splitN 5) [a, b, c, d, e])] = _
  rw [split5]
  show subL [a, b, c, d] 3 true ++ [rootL [e]] = _
  rw [subL_right [a, b, c, d] 3 true (by decide) (by simp) (by show ¬ 3 ≤ splitN 4; rw [split4]; decide)]
  show (subL (List.drop (splitN 4) [a, b, c, d]) (3 - splitN 4) false ++ [rootL (List.take (splitN 4) [a, b, c, d])]) ++ _ = _
  rw [split4]
  show (subL [c, d] 1 false ++ [rootL [a, b]]) ++ [rootL [e]] = _
  rw [subL_left [c, d] 1 false (by decide) (by simp) (by show 1 ≤ splitN 2; rw [split2]; decide)]
  show ((subL (List.take (splitN 2) [c, d]) 1 false ++ [rootL (List.drop (splitN 2) [c, d])]) ++ _) ++ _ = _
  rw [split2, rootL_more [a, b] (by simp)]
  show ((subL [c] 1 false ++ [rootL [d]]) ++ [nodeL (rootL (List.take (splitN 2) [a, b])) (rootL (List.drop (splitN 2) [a, b]))]) ++ _ = _
  rw [split2]
  show ((subL [c] 1 false ++ [rootL [d]]) ++ [nodeL (rootL [a]) (rootL [b])]) ++ [rootL [e]] = _
  rw [subL_not [c] 1 (by simp), rootL_one [c] rfl, rootL_one [d] rfl, rootL_one [a] rfl, rootL_one [b] rfl, rootL_one [e] rfl]
  rfl
theorem sub_four (a b c d e : List Int) : subL [a, b, c, d, e] 4 true = [e] := by
  rw [subL_left [a, b, c, d, e] 4 true (by decide) (by simp) (by show 4 ≤ splitN 5; rw [split5]; decide)]
  show subL (List.take (splitN 5) [a, b, c, d, e]) 4 true ++ [rootL (List.drop (splitN 5) [a, b, c, d, e])] = _
  rw [split5]
  show subL [a, b, c, d] 4 true ++ [rootL [e]] = _
  rw [subL_known [a, b, c, d] 4 (by simp), rootL_one [e] rfl]
  rfl
/-- What the examples hold on to. -/
def FdH (w : World) (g : Nat) (ls : List (List Int)) (W : World) : Prop := HW W (some ⟨g, 0, none⟩) ls ∧ Tab W ∧ Below w.heap.size w W
theorem FdH.next {w W W1 : World} {g : Nat} {ls : List (List Int)} (h : FdH w g ls W) (hb : Below W.heap.size W W1) : FdH w g ls W1 := ⟨h.1.next hb, h.2.1.next hb, below_new h.2.2 hb⟩
attribute [local go_sem ↓ high] read_at write_at eq_at neq_at
set_option maxHeartbeats 40000000 in
theorem proved_any (w : World) (hT : Tab w) :
    Calls Tryd.prog 7 #[] w fun e w' => e = .returned (.bool true) ∧ Below w.heap.size w w' := by
  obtain ⟨ls, hls⟩ : ∃ ls, Hid (ls = someM 2 5) := ⟨_, Lib.hid rfl⟩
  have hh : hashes ls := by rw [hls.out]; exact someM_hashes 2 (by omega) 5 (by omega)
  obtain ⟨x0, hx0⟩ : ∃ x, Hid (x = someG 2 0) := ⟨_, Lib.hid rfl⟩
  obtain ⟨x1, hx1⟩ : ∃ x, Hid (x = someG 2 1) := ⟨_, Lib.hid rfl⟩
  obtain ⟨x2, hx2⟩ : ∃ x, Hid (x = someG 2 2) := ⟨_, Lib.hid rfl⟩
  obtain ⟨x3, hx3⟩ : ∃ x, Hid (x = someG 2 3) := ⟨_, Lib.hid rfl⟩
  obtain ⟨x4, hx4⟩ : ∃ x, Hid (x = someG 2 4) := ⟨_, Lib.hid rfl⟩
  have hl5 : Hid (ls = [x0, x1, x2, x3, x4]) := Lib.hid (by rw [hls.out, hx0.out, hx1.out, hx2.out, hx3.out, hx4.out]; rfl)
  have i0 := hh x0 (by rw [hl5.out]; simp)
  have i1 := hh x1 (by rw [hl5.out]; simp)
  have i2 := hh x2 (by rw [hl5.out]; simp)
  have i3 := hh x3 (by rw [hl5.out]; simp)
  have i4 := hh x4 (by rw [hl5.out]; simp)
  obtain ⟨X0, hX0⟩ : ∃ X, Hid (X = nums .u8 x0) := ⟨_, Lib.hid rfl⟩
  obtain ⟨X1, hX1⟩ : ∃ X, Hid (X = nums .u8 x1) := ⟨_, Lib.hid rfl⟩
  obtain ⟨X2, hX2⟩ : ∃ X, Hid (X = nums .u8 x2) := ⟨_, Lib.hid rfl⟩
  obtain ⟨X3, hX3⟩ : ∃ X, Hid (X = nums .u8 x3) := ⟨_, Lib.hid rfl⟩
  obtain ⟨X4, hX4⟩ : ∃ X, Hid (X = nums .u8 x4) := ⟨_, Lib.hid rfl⟩
  have ll : Hid (ls.length = 5) := Lib.hid (by rw [hl5.out]; rfl)
  obtain ⟨Pa, hPa⟩ : ∃ P, Hid (P = [x2, x3, nodeL x0 x1, x4]) := ⟨_, Lib.hid rfl⟩
  obtain ⟨Pb, hPb⟩ : ∃ P, Hid (P = [x4]) := ⟨_, Lib.hid rfl⟩
  obtain ⟨r4, hr4⟩ : ∃ r, Hid (r = rootL (ls.take 4)) := ⟨_, Lib.hid rfl⟩
  obtain ⟨r3, hr3⟩ : ∃ r, Hid (r = rootL (ls.take 3)) := ⟨_, Lib.hid rfl⟩
  obtain ⟨rt, hrt⟩ : ∃ r, Hid (r = rootL ls) := ⟨_, Lib.hid rfl⟩
  have hr432 : r4.length = 32 ∧ bytes r4 := by rw [hr4.out]; exact rootL_is _ (hashes_take hh _)
  have hr332 : r3.length = 32 ∧ bytes r3 := by rw [hr3.out]; exact rootL_is _ (hashes_take hh _)
  have hrt32 : rt.length = 32 ∧ bytes rt := by rw [hrt.out]; exact rootL_is _ hh
  obtain ⟨N1, hN1⟩ : ∃ X, Hid (X = nums .u8 (nodeL x0 x1)) := ⟨_, Lib.hid rfl⟩
  obtain ⟨R4, hR4⟩ : ∃ X, Hid (X = nums .u8 r4) := ⟨_, Lib.hid rfl⟩
  obtain ⟨R3, hR3⟩ : ∃ X, Hid (X = nums .u8 r3) := ⟨_, Lib.hid rfl⟩
  obtain ⟨RT, hRT⟩ : ∃ X, Hid (X = nums .u8 rt) := ⟨_, Lib.hid rfl⟩
  have hpa : Hid (proofL ls 3 = Pa) := Lib.hid (by rw [proofL_some ls 3 (by decide), hl5.out, hPa.out]; exact sub_three _ _ _ _ _)
  have hpb : Hid (proofL ls 4 = Pb) := Lib.hid (by rw [proofL_some ls 4 (by decide), hl5.out, hPb.out]; exact sub_four _ _ _ _ _)
  have hpc : Hid (proofL ls 5 = []) := Lib.hid (by rw [proofL_some ls 5 (by decide)]; exact subL_known ls 5 (by rw [ll.out]; decide))
  have haa : Hid (hashes Pa) := Lib.hid (by rw [← hpa.out]; exact proofL_hashes 3 hh)
  have hbb : Hid (hashes Pb) := Lib.hid (by rw [← hpb.out]; exact proofL_hashes 4 hh)
  have la : Hid (Pa.length = 4) := Lib.hid (by rw [hPa.out]; rfl)
  have lb : Hid (Pb.length = 1) := Lib.hid (by rw [hPb.out]; rfl)
  have K1 : Hid (checkP (4 : Nat) (5 : Nat) r4 rt Pb = 0) := Lib.hid (by
    have := checkP_proof (ls := ls) (m := 4) (by rw [ll.out]; decide) (by rw [ll.out]; decide)
    rw [ll.out, hpb.out, ← hrt.out, ← hr4.out] at this
    exact this)
  have K2 : Hid (checkP (3 : Nat) (5 : Nat) r3 rt Pb = 80) := Lib.hid (by
    have := checkP_length (ls := ls) (m := 3) (older := r3) (newer := rt) (p := Pb) (by rw [ll.out]; decide) (by rw [ll.out]; decide) (by rw [hpa.out, la.out, lb.out]; decide)
    rw [ll.out] at this
    exact this)
  have S0 : Hid (∀ W, Calls Tryd.prog 13 #[.int .i64 5, .int .u8 2] W fun ev w' => (∃ g c, ev = .returned (.slice (some ⟨g, 0, none⟩) 5 c) ∧ (5 ≤ c ∧ c ≤ maxLen) ∧ HW w' (some ⟨g, 0, none⟩) ls) ∧ Below W.heap.size W w') := Lib.hid fun W => by
    refine (someG_any 5 (by omega) 2 (by omega) W).mono ?_
    rintro ev w' ⟨⟨A, c, he, hc, hA, h0⟩, hb⟩
    rcases h0 with h0 | ⟨g, rfl⟩
    · omega
    · exact ⟨⟨g, c, he, hc, by rw [hls.out]; exact hA⟩, hb⟩
  have PT : Hid (∀ W g c i, FdH w g ls W → (5 ≤ c ∧ c ≤ maxLen) → Calls Tryd.prog 8 #[.slice (some ⟨g, 0, none⟩) 5 c, .int .i64 i] W (GivesL W (proofF ls i))) := Lib.hid fun W g c i h hc => by
    have := proof_any ls hh (some ⟨g, 0, none⟩) c W h.1 h.2.1 (by rw [ll.out]; exact hc.1) hc.2 i
    rwa [ll.out] at this
  have F3 : Hid (proofF ls 3 = (Pa, 0)) := Lib.hid (by rw [show (3 : Int) = ((3 : Nat) : Int) from rfl, proofF_ok (by rw [ll.out]; decide), hpa.out])
  have F4 : Hid (proofF ls 4 = (Pb, 0)) := Lib.hid (by rw [show (4 : Int) = ((4 : Nat) : Int) from rfl, proofF_ok (by rw [ll.out]; decide), hpb.out])
  have F5 : Hid (proofF ls 5 = ([], 0)) := Lib.hid (by rw [show (5 : Int) = ((5 : Nat) : Int) from rfl, proofF_ok (by rw [ll.out]; decide), hpc.out])
  have F0 : Hid (proofF ls 0 = ([], 0)) := Lib.hid (by rw [show (0 : Int) = ((0 : Nat) : Int) from rfl, proofF_ok (by omega), proofL_zero]; rfl)
  have F6 : Hid (proofF ls 6 = ([], 2)) := Lib.hid (proofF_no (.inr (by rw [ll.out]; decide)))
  have P3 : Hid (∀ W g c, FdH w g ls W → (5 ≤ c ∧ c ≤ maxLen) → Calls Tryd.prog 8 #[.slice (some ⟨g, 0, none⟩) 5 c, .int .i64 3] W fun e w' => ∃ A c', e = .returned (.tuple #[.slice A 4 c', .int .i64 0]) ∧ (4 ≤ c' ∧ c' ≤ maxLen) ∧ HW w' A Pa ∧ Below W.heap.size W w') := Lib.hid fun W g c h hc => by
    refine (PT.out W g c 3 h hc).mono ?_
    rintro e w' ⟨A, c', he, h1, h2, h3, h4⟩
    rw [F3.out] at he h1 h3
    rw [la.out] at he h1
    exact ⟨A, c', he, ⟨h1, h2⟩, h3, h4⟩
  have P4 : Hid (∀ W g c, FdH w g ls W → (5 ≤ c ∧ c ≤ maxLen) → Calls Tryd.prog 8 #[.slice (some ⟨g, 0, none⟩) 5 c, .int .i64 4] W fun e w' => ∃ A c', e = .returned (.tuple #[.slice A 1 c', .int .i64 0]) ∧ (1 ≤ c' ∧ c' ≤ maxLen) ∧ HW w' A Pb ∧ Below W.heap.size W w') := Lib.hid fun W g c h hc => by
    refine (PT.out W g c 4 h hc).mono ?_
    rintro e w' ⟨A, c', he, h1, h2, h3, h4⟩
    rw [F4.out] at he h1 h3
    rw [lb.out] at he h1
    exact ⟨A, c', he, ⟨h1, h2⟩, h3, h4⟩
  have P5 : Hid (∀ W g c, FdH w g ls W → (5 ≤ c ∧ c ≤ maxLen) → Calls Tryd.prog 8 #[.slice (some ⟨g, 0, none⟩) 5 c, .int .i64 5] W fun e w' => ∃ A c', e = .returned (.tuple #[.slice A 0 c', .int .i64 0]) ∧ (0 ≤ c' ∧ c' ≤ maxLen) ∧ HW w' A [] ∧ Below W.heap.size W w') := Lib.hid fun W g c h hc => by
    refine (PT.out W g c 5 h hc).mono ?_
    rintro e w' ⟨A, c', he, h1, h2, h3, h4⟩
    rw [F5.out] at he h1 h3
    exact ⟨A, c', he, ⟨h1, h2⟩, h3, h4⟩
  have P0 : Hid (∀ W g c, FdH w g ls W → (5 ≤ c ∧ c ≤ maxLen) → Calls Tryd.prog 8 #[.slice (some ⟨g, 0, none⟩) 5 c, .int .i64 0] W fun e w' => ∃ A c', e = .returned (.tuple #[.slice A 0 c', .int .i64 0]) ∧ (0 ≤ c' ∧ c' ≤ maxLen) ∧ HW w' A [] ∧ Below W.heap.size W w') := Lib.hid fun W g c h hc => by
    refine (PT.out W g c 0 h hc).mono ?_
    rintro e w' ⟨A, c', he, h1, h2, h3, h4⟩
    rw [F0.out] at he h1 h3
    exact ⟨A, c', he, ⟨h1, h2⟩, h3, h4⟩
  have P6 : Hid (∀ W g c, FdH w g ls W → (5 ≤ c ∧ c ≤ maxLen) → Calls Tryd.prog 8 #[.slice (some ⟨g, 0, none⟩) 5 c, .int .i64 6] W fun e w' => ∃ A c', e = .returned (.tuple #[.slice A 0 c', .int .i64 2]) ∧ (0 ≤ c' ∧ c' ≤ maxLen) ∧ HW w' A [] ∧ Below W.heap.size W w') := Lib.hid fun W g c h hc => by
    refine (PT.out W g c 6 h hc).mono ?_
    rintro e w' ⟨A, c', he, h1, h2, h3, h4⟩
    rw [F6.out] at he h1 h3
    exact ⟨A, c', he, ⟨h1, h2⟩, h3, h4⟩
  have RR : Hid (∀ W g c, FdH w g ls W → Calls Tryd.prog 14 #[.slice (some ⟨g, 0, none⟩) 5 c] W fun ev w' => ev = .returned (.agg RT) ∧ Below W.heap.size W w') := Lib.hid fun W g c h => by
    have := root_any ls hh (some ⟨g, 0, none⟩) c W h.1 h.2.1 (by rw [ll.out]; decide)
    rwa [ll.out, ← hrt.out, ← hRT.out] at this
  have zRT : Hid (RT.size = 32) := Lib.hid (by rw [hRT.out, nums_size]; exact hrt32.1)
  have oRT : Hid (RT.all (·.oneCell') = true) := Lib.hid (by rw [hRT.out]; exact nums_one _ _)
  have RR4 : Hid (∀ W g c, FdH w g ls W → Calls Tryd.prog 14 #[.slice (some ⟨g, 0, none⟩) 4 c] W fun ev w' => ev = .returned (.agg R4) ∧ Below W.heap.size W w') := Lib.hid fun W g c h => by
    have l4 : (ls.take 4).length = 4 := by rw [List.length_take, ll.out]; rfl
    have := root_any (ls.take 4) (hashes_take hh 4) (some ⟨g, 0, none⟩) c W (HL.take h.1 4) h.2.1 (by rw [l4]; decide)
    rwa [l4, ← hr4.out, ← hR4.out] at this
  have RR3 : Hid (∀ W g c, FdH w g ls W → Calls Tryd.prog 14 #[.slice (some ⟨g, 0, none⟩) 3 c] W fun ev w' => ev = .returned (.agg R3) ∧ Below W.heap.size W w') := Lib.hid fun W g c h => by
    have l3 : (ls.take 3).length = 3 := by rw [List.length_take, ll.out]; rfl
    have := root_any (ls.take 3) (hashes_take hh 3) (some ⟨g, 0, none⟩) c W (HL.take h.1 3) h.2.1 (by rw [l3]; decide)
    rwa [l3, ← hr3.out, ← hR3.out] at this
  have N01 : Hid (∀ W, Tab W → Calls Tryd.prog 15 #[.agg X0, .agg X1] W fun e w' => e = .returned (.agg N1) ∧ Below W.heap.size W w') := Lib.hid fun W hW => by
    rw [hX0.out, hX1.out, hN1.out]; exact node_any _ _ i0.1 i1.1 W hW
  have RD : Hid (∀ W g, FdH w g ls W → (readAt (.pointer (some ⟨g, 0, none⟩))).run Tryd.prog W = .ok (.agg X0) W ∧ (readAt (.pointer (some ⟨g, 32, none⟩))).run Tryd.prog W = .ok (.agg X1) W ∧ (readAt (.pointer (some ⟨g, 64, none⟩))).run Tryd.prog W = .ok (.agg X2) W ∧ (readAt (.pointer (some ⟨g, 96, none⟩))).run Tryd.prog W = .ok (.agg X3) W ∧ (readAt (.pointer (some ⟨g, 128, none⟩))).run Tryd.prog W = .ok (.agg X4) W) := Lib.hid fun W g h => by
    have h1 : HL W W.heap.size (some ⟨g, 0, none⟩) ls := h.1
    have r0 := h1.read hh 0 (by rw [ll.out]; decide)
    have r1 := h1.read hh 1 (by rw [ll.out]; decide)
    have r2 := h1.read hh 2 (by rw [ll.out]; decide)
    have r3 := h1.read hh 3 (by rw [ll.out]; decide)
    have r4 := h1.read hh 4 (by rw [ll.out]; decide)
    rw [add_flat, hl5.out] at r0 r1 r2 r3 r4
    exact ⟨by rw [hX0.out]; exact r0, by rw [hX1.out]; exact r1, by rw [hX2.out]; exact r2, by rw [hX3.out]; exact r3, by rw [hX4.out]; exact r4⟩
  have QA : Hid ((Pa.map fun l => Value.agg (nums .u8 l)) = [.agg X2, .agg X3, .agg N1, .agg X4]) := Lib.hid (by rw [hPa.out, hX2.out, hX3.out, hN1.out, hX4.out]; rfl)
  have QB : Hid ((Pb.map fun l => Value.agg (nums .u8 l)) = [.agg X4]) := Lib.hid (by rw [hPb.out, hX4.out]; rfl)
  have SL : ∀ (W : World) (A B : Option Addr) (L : List (List Int)) (n c d : Nat), n = L.length → n ≤ 100 → hashes L → HW W A L → HW W B L → Calls Tryd.prog 10 #[.slice A n c, .slice B n d] W fun e w' => e = .returned (.bool true) ∧ Below W.heap.size W w' := fun W A B L n c d hn hn2 hL h1 h2 => by
    subst hn
    refine (lsame_any L L hL hL (by omega) (by omega) A B c d W h1 h2).mono ?_
    rintro e w' ⟨he, k, rfl⟩
    exact ⟨by rw [he, decide_eq_true rfl], below_drewN (Below.refl _ _) k⟩
  have SA : Hid (∀ W A B c d, HW W A Pa → HW W B Pa → Calls Tryd.prog 10 #[.slice A 4 c, .slice B 4 d] W fun e w' => e = .returned (.bool true) ∧ Below W.heap.size W w') := Lib.hid fun W A B c d h1 h2 => SL W A B Pa 4 c d la.out.symm (by decide) haa.out h1 h2
  have SB : Hid (∀ W A B c d, HW W A Pb → HW W B Pb → Calls Tryd.prog 10 #[.slice A 1 c, .slice B 1 d] W fun e w' => e = .returned (.bool true) ∧ Below W.heap.size W w') := Lib.hid fun W A B c d h1 h2 => SL W A B Pb 1 c d lb.out.symm (by decide) hbb.out h1 h2
  have C1 : Hid (∀ W A c, HW W A Pb → Tab W → (1 ≤ c ∧ c ≤ maxLen) → Calls Tryd.prog 11 #[.int .i64 4, .int .i64 5, .agg R4, .agg RT, .slice A 1 c] W fun e w' => e = .returned (.int .i64 0) ∧ Below W.heap.size W w') := Lib.hid fun W A c h hW hc => by
    have := pcheck_any r4 rt hr432 hrt32 (4 : Nat) (5 : Nat) (by omega) (by omega) Pb hbb.out A c W h hW (by rw [lb.out]; exact hc.1) (by have := hc.2; unfold maxLen at this; omega)
    rw [lb.out, K1.out, ← hR4.out, ← hRT.out] at this
    exact this
  have C2 : Hid (∀ W A c, HW W A Pb → Tab W → (1 ≤ c ∧ c ≤ maxLen) → Calls Tryd.prog 11 #[.int .i64 3, .int .i64 5, .agg R3, .agg RT, .slice A 1 c] W fun e w' => e = .returned (.int .i64 80) ∧ Below W.heap.size W w') := Lib.hid fun W A c h hW hc => by
    have := pcheck_any r3 rt hr332 hrt32 (3 : Nat) (5 : Nat) (by omega) (by omega) Pb hbb.out A c W h hW (by rw [lb.out]; exact hc.1) (by have := hc.2; unfold maxLen at this; omega)
    rw [lb.out, K2.out, ← hR3.out, ← hRT.out] at this
    exact this
  have HT := Lib.hid hT
  clear SL i0 i1 i2 i3 i4 hr432 hr332 hrt32 hh hT
  go_enter Tryd.func7, Tryd.ntmps7
  go_upto_region 2 with (go_at_call 13; (with_reducible refine (S0.out _).mono ?_); rintro e w1 ⟨⟨g, c, rfl, hc, hA⟩, hb⟩; have H1 : Hid (FdH w g ls w1) := Lib.hid ⟨hA, HT.out.next hb, hb⟩; have HC := Lib.hid hc; clear hb hA hc)
  go_upto_region 3 with (go_at_call 8; (with_reducible refine (P3.out _ _ _ H1.out HC.out).mono ?_); rintro e w2 ⟨Aa, ca, rfl, hca, hA, hb⟩; have H2 : Hid (FdH w g ls w2) := Lib.hid (H1.out.next hb); have HA2 := Lib.hid hA; clear hb hA hca)
  go_upto_region 4 with (go_at_call 8; (with_reducible refine (P4.out _ _ _ H2.out HC.out).mono ?_); rintro e w3 ⟨Ab, cb, rfl, hcb, hA, hb⟩; have H3 : Hid (FdH w g ls w3) := Lib.hid (H2.out.next hb); have HA3 := Lib.hid (HA2.out.next hb); have HB3 := Lib.hid hA; have HCB := Lib.hid hcb; clear hb hA hcb)
  go_upto_region 5 with (go_at_call 8; (with_reducible refine (P5.out _ _ _ H3.out HC.out).mono ?_); rintro e w4 ⟨Ac, cc, rfl, hcc, hA, hb⟩; have H4 : Hid (FdH w g ls w4) := Lib.hid (H3.out.next hb); have HA4 := Lib.hid (HA3.out.next hb); have HB4 := Lib.hid (HB3.out.next hb); clear hb hA hcc)
  go_upto_region 6 with (go_at_call 8; (with_reducible refine (P0.out _ _ _ H4.out HC.out).mono ?_); rintro e w5 ⟨Ad, cd, rfl, hcd, hA, hb⟩; have H5 : Hid (FdH w g ls w5) := Lib.hid (H4.out.next hb); have HA5 := Lib.hid (HA4.out.next hb); have HB5 := Lib.hid (HB4.out.next hb); clear hb hA hcd)
  go_upto_region 7 with (go_at_call 8; (with_reducible refine (P6.out _ _ _ H5.out HC.out).mono ?_); rintro e w6 ⟨Ae, ce, rfl, hce, hA, hb⟩; have H6 : Hid (FdH w g ls w6) := Lib.hid (H5.out.next hb); have HA6 := Lib.hid (HA5.out.next hb); have HB6 := Lib.hid (HB5.out.next hb); clear hb hA hce)
  go_upto_region 8 with (go_at_call 14; (with_reducible refine (RR.out _ _ _ H6.out).mono ?_); rintro e w7 ⟨rfl, hb⟩; obtain ⟨w8, s8, hr8, hb8, hz8⟩ := made_write w7 RT zRT.out oRT.out; have H8 : Hid (FdH w g ls w8 ∧ HW w8 Aa Pa ∧ HW w8 Ab Pb ∧ Row w8 w7.heap.size 30 RT) := Lib.hid ⟨(H6.out.next hb).next hb8, (HA6.out.next hb).next hb8, (HB6.out.next hb).next hb8, hr8⟩; clear hr8 hb8 hz8 hb)
  have b4 : (4 : Int) ≤ (c : Int) := by have := HC.out.1; omega
  have b5 : 4 ≤ c := by have := HC.out.1; omega
  have b6 : (3 : Int) ≤ (c : Int) := by have := HC.out.1; omega
  have b7 : 3 ≤ c := by have := HC.out.1; omega
  clear s8 H1 H2 H3 H4 H5 H6 HA2 HA3 HA4 HA5 HA6 HB3 HB4 HB5 HB6 S0 P3 P4 P5 P0 P6 PT RR
  have HN : Hid (∀ W, Below w8.heap.size w8 W → FdH w g ls W ∧ HW W Aa Pa ∧ HW W Ab Pb ∧ Row W w7.heap.size 30 RT) := Lib.hid fun W hW => ⟨H8.out.1.next hW, H8.out.2.1.next hW, H8.out.2.2.1.next hW, H8.out.2.2.2.next hW⟩
  refine wp_region_fk (Below w8.heap.size w8) (.get 0 (.get 1 (.get 2 (.get 3 (.get 4 (.get 5 (.get 6 (.get 7 (.get 8 (.get 9 (.get 10 (.get 11 (.get 12 (.get 13 (.get 14 (.get 15 (.get 16 (.get 17 (.get 18 (.get 19 (.get 20 (.get 21 (.get 22 (.get 23 (.get 24 (.get 25 (.get 26 (.get 27 (.get 28 (.get 29 (.get 30 (.get 31 (.get 33 (.get 34 (.get 35 (.call 32 (.call 36 (.call 37 (.get 38 (.get 39 (.get 40 (.get 41 (.get 42 (.get 43 (.call 44 (.call 45 (.get 46 (.get 47 (.get 48 (.get 49 (.get 50 (.get 51 (.get 52 (.get 53 (.get 54 (.get 55 (.get 56 (.get 57 (.get 58 (.get 59 (.get 61 (.get 62 (.call 60 (.call 63 (.get 64 (.get 65 (.get 66 (.get 67 (.get 68 (.get 70 (.get 71 (.call 69 (.call 72 (.get 73 (.get 74 (.get 75 .done)))))))))))))))))))))))))))))))))))))))))))))))))))))))))))))))))))))))))))) (by kernel_rfl) rfl (by kernel_rfl) (by kernel_rfl) (by intro c a d v w h; cases d <;> exact h) (Below.refl w8.heap.size w8).drew (fun Q' hQ => ?_)
  have HS := Lib.hid (Below.refl w8.heap.size w8).drew
  have HQ := Lib.hid hQ
  clear hQ
  refine wpFk_get rfl (by rfl) (fun K hK => ?_)
  refine ⟨?_, fun w' hS' => ?_, ?_⟩
  rotate_left
  · go_simp
    try (with_reducible rfl)
  try go_simp
  refine hK _ ?_
  clear hK K
  refine wpFk_get rfl (by rfl) (fun K hK => ?_)
  refine ⟨?_, fun w' hS' => ?_, ?_⟩
  rotate_left
  · go_simp
    try (with_reducible rfl)
  try go_simp
  refine hK _ ?_
  clear hK K
  refine wpFk_get rfl (by rfl) (fun K hK => ?_)
  refine ⟨?_, fun w' hS' => ?_, ?_⟩
  rotate_left
  · go_simp
    try (with_reducible rfl)
  try go_simp
  refine hK _ ?_
  clear hK K
  refine wpFk_get rfl (by rfl) (fun K hK => ?_)
  refine ⟨?_, fun w' hS' => ?_, ?_⟩
  rotate_left
  · go_simp
    try (with_reducible rfl)
  try go_simp
  refine hK _ ?_
  clear hK K
  refine wpFk_get rfl (by rfl) (fun K hK => ?_)
  refine ⟨?_, fun w' hS' => ?_, ?_⟩
  rotate_left
  · go_simp
    try (with_reducible rfl)
  try go_simp
  refine hK _ ?_
  clear hK K
  refine wpFk_get rfl (by rfl) (fun K hK => ?_)
  refine ⟨?_, fun w' hS' => ?_, ?_⟩
  rotate_left
  · go_simp
    try (with_reducible rfl)
  try go_simp
  refine hK _ ?_
  clear hK K
  refine wpFk_get rfl (by rfl) (fun K hK => ?_)
  refine ⟨?_, fun w' hS' => ?_, ?_⟩
  rotate_left
  · go_simp
    try (with_reducible rfl)
  try go_simp
  refine hK _ ?_
  clear hK K
  refine wpFk_get rfl (by rfl) (fun K hK => ?_)
  refine ⟨?_, fun w' hS' => ?_, ?_⟩
  rotate_left
  · go_simp
    try (with_reducible rfl)
  try go_simp
  refine hK _ ?_
  clear hK K
  refine wpFk_get rfl (by rfl) (fun K hK => ?_)
  refine ⟨?_, fun w' hS' => ?_, ?_⟩
  rotate_left
  · go_simp
    try (with_reducible rfl)
  try go_simp
  refine hK _ ?_
  clear hK K
  refine wpFk_get rfl (by rfl) (fun K hK => ?_)
  refine ⟨?_, fun w' hS' => ?_, ?_⟩
  rotate_left
  · go_simp
    try (with_reducible rfl)
  try go_simp
  refine hK _ ?_
  clear hK K
  refine wpFk_get rfl (by rfl) (fun K hK => ?_)
  refine ⟨?_, fun w' hS' => ?_, ?_⟩
  rotate_left
  · go_simp
    try (with_reducible rfl)
  try go_simp
  refine hK _ ?_
  clear hK K
  refine wpFk_get rfl (by rfl) (fun K hK => ?_)
  refine ⟨?_, fun w' hS' => ?_, ?_⟩
  rotate_left
  · go_simp
    try (with_reducible rfl)
  try go_simp
  refine hK _ ?_
  clear hK K
  refine wpFk_get rfl (by rfl) (fun K hK => ?_)
  refine ⟨?_, fun w' hS' => ?_, ?_⟩
  rotate_left
  · go_simp
    try (with_reducible rfl)
  try go_simp
  refine hK _ ?_
  clear hK K
  refine wpFk_get rfl (by rfl) (fun K hK => ?_)
  refine ⟨?_, fun w' hS' => ?_, ?_⟩
  rotate_left
  · go_simp
    try (with_reducible rfl)
  try go_simp
  refine hK _ ?_
  clear hK K
  refine wpFk_get rfl (by rfl) (fun K hK => ?_)
  refine ⟨?_, fun w' hS' => ?_, ?_⟩
  rotate_left
  · go_simp
    try (with_reducible rfl)
  try go_simp
  refine hK _ ?_
  clear hK K
  refine wpFk_get rfl (by rfl) (fun K hK => ?_)
  refine ⟨?_, fun w' hS' => ?_, ?_⟩
  rotate_left
  · go_simp
    try (with_reducible rfl)
  try go_simp
  refine hK _ ?_
  clear hK K
  refine wpFk_get rfl (by rfl) (fun K hK => ?_)
  refine ⟨?_, fun w' hS' => ?_, ?_⟩
  rotate_left
  · go_simp
    try (with_reducible rfl)
  try go_simp
  refine hK _ ?_
  clear hK K
  refine wpFk_get rfl (by rfl) (fun K hK => ?_)
  refine ⟨?_, fun w' hS' => ?_, ?_⟩
  rotate_left
  · go_simp
    try (with_reducible rfl)
  try go_simp
  refine hK _ ?_
  clear hK K
  refine wpFk_get rfl (by rfl) (fun K hK => ?_)
  refine ⟨?_, fun w' hS' => ?_, ?_⟩
  rotate_left
  · go_simp
    try (with_reducible rfl)
  try go_simp
  refine hK _ ?_
  clear hK K
  refine wpFk_get rfl (by rfl) (fun K hK => ?_)
  refine ⟨?_, fun w' hS' => ?_, ?_⟩
  rotate_left
  · go_simp
    try (with_reducible rfl)
  try go_simp
  refine hK _ ?_
  clear hK K
  refine wpFk_get rfl (by rfl) (fun K hK => ?_)
  refine ⟨?_, fun w' hS' => ?_, ?_⟩
  rotate_left
  · go_simp
    try (with_reducible rfl)
  try go_simp
  refine hK _ ?_
  clear hK K
  refine wpFk_get rfl (by rfl) (fun K hK => ?_)
  refine ⟨?_, fun w' hS' => ?_, ?_⟩
  rotate_left
  · go_simp
    try (with_reducible rfl)
  try go_simp
  refine hK _ ?_
  clear hK K
  refine wpFk_get rfl (by rfl) (fun K hK => ?_)
  refine ⟨_, fun w' hS' => get_load rfl rfl (RD.out _ _ (HN.out _ hS').1).2.2.1, ?_⟩
  try go_simp
  refine hK _ ?_
  clear hK K
  refine wpFk_get rfl (by rfl) (fun K hK => ?_)
  refine ⟨?_, fun w' hS' => ?_, ?_⟩
  rotate_left
  · go_simp
    try (with_reducible rfl)
  try go_simp
  refine hK _ ?_
  clear hK K
  refine wpFk_get rfl (by rfl) (fun K hK => ?_)
  refine ⟨?_, fun w' hS' => ?_, ?_⟩
  rotate_left
  · go_simp
    try (with_reducible rfl)
  try go_simp
  refine hK _ ?_
  clear hK K
  refine wpFk_get rfl (by rfl) (fun K hK => ?_)
  refine ⟨_, fun w' hS' => get_load rfl rfl (RD.out _ _ (HN.out _ hS').1).2.2.2.1, ?_⟩
  try go_simp
  refine hK _ ?_
  clear hK K
  refine wpFk_get rfl (by rfl) (fun K hK => ?_)
  refine ⟨?_, fun w' hS' => ?_, ?_⟩
  rotate_left
  · go_simp
    try (with_reducible rfl)
  try go_simp
  refine hK _ ?_
  clear hK K
  refine wpFk_get rfl (by rfl) (fun K hK => ?_)
  refine ⟨?_, fun w' hS' => ?_, ?_⟩
  rotate_left
  · go_simp
    try (with_reducible rfl)
  try go_simp
  refine hK _ ?_
  clear hK K
  refine wpFk_get rfl (by rfl) (fun K hK => ?_)
  refine ⟨_, fun w' hS' => get_load rfl rfl (RD.out _ _ (HN.out _ hS').1).1, ?_⟩
  try go_simp
  refine hK _ ?_
  clear hK K
  refine wpFk_get rfl (by rfl) (fun K hK => ?_)
  refine ⟨?_, fun w' hS' => ?_, ?_⟩
  rotate_left
  · go_simp
    try (with_reducible rfl)
  try go_simp
  refine hK _ ?_
  clear hK K
  refine wpFk_get rfl (by rfl) (fun K hK => ?_)
  refine ⟨?_, fun w' hS' => ?_, ?_⟩
  rotate_left
  · go_simp
    try (with_reducible rfl)
  try go_simp
  refine hK _ ?_
  clear hK K
  refine wpFk_get rfl (by rfl) (fun K hK => ?_)
  refine ⟨_, fun w' hS' => get_load rfl rfl (RD.out _ _ (HN.out _ hS').1).2.1, ?_⟩
  try go_simp
  refine hK _ ?_
  clear hK K
  refine wpFk_get rfl (by rfl) (fun K hK => ?_)
  refine ⟨?_, fun w' hS' => ?_, ?_⟩
  rotate_left
  · go_simp
    try (with_reducible rfl)
  try go_simp
  refine hK _ ?_
  clear hK K
  refine wpFk_get rfl (by rfl) (fun K hK => ?_)
  refine ⟨?_, fun w' hS' => ?_, ?_⟩
  rotate_left
  · go_simp
    try (with_reducible rfl)
  try go_simp
  refine hK _ ?_
  clear hK K
  refine wpFk_get rfl (by rfl) (fun K hK => ?_)
  refine ⟨_, fun w' hS' => get_load rfl rfl (RD.out _ _ (HN.out _ hS').1).2.2.2.2, ?_⟩
  try go_simp
  refine hK _ ?_
  clear hK K
  refine wpFk_call rfl (by rfl) (fun K hK => ?_)
  go_simp
  go_at_call 15
  refine (N01.out _ (HN.out _ HS.out).1.2.1).mono ?_
  rintro e w2x ⟨rfl, hb⟩
  replace HS := Lib.hid (below_new HS.out hb)
  clear hb
  refine hK _ _ HS.out ?_
  clear hK K
  refine wpFk_call rfl (by rfl) (fun K hK => ?_)
  refine wp_buildL 4 _ rfl Pa haa.out la.out.symm (by decide) (by decide) ?_ ?_
  · rw [QA.out]; rfl
  intro wb1 hl hb
  have HL1 := Lib.hid hl
  replace HS := Lib.hid (below_new HS.out hb)
  clear hl hb
  try go_simp
  refine hK _ _ HS.out ?_
  clear hK K
  refine wpFk_call rfl (by rfl) (fun K hK => ?_)
  go_simp
  go_at_call 10
  refine (SA.out _ _ _ _ _ (HN.out _ HS.out).2.1 HL1.out).mono ?_
  rintro e w2x ⟨rfl, hb⟩
  replace HS := Lib.hid (below_new HS.out hb)
  clear hb
  refine hK _ _ HS.out ?_
  clear hK K
  refine wpFk_get rfl (by rfl) (fun K hK => ?_)
  refine ⟨?_, fun w' hS' => ?_, ?_⟩
  rotate_left
  · go_simp
    try (with_reducible rfl)
  try go_simp
  refine hK _ ?_
  clear hK K
  refine wpFk_get rfl (by rfl) (fun K hK => ?_)
  refine ⟨?_, fun w' hS' => ?_, ?_⟩
  rotate_left
  · go_simp
    try (with_reducible rfl)
  try go_simp
  refine hK _ ?_
  clear hK K
  refine wpFk_get rfl (by rfl) (fun K hK => ?_)
  refine ⟨?_, fun w' hS' => ?_, ?_⟩
  rotate_left
  · go_simp
    try (with_reducible rfl)
  try go_simp
  refine hK _ ?_
  clear hK K
  refine wpFk_get rfl (by rfl) (fun K hK => ?_)
  refine ⟨?_, fun w' hS' => ?_, ?_⟩
  rotate_left
  · go_simp
    try (with_reducible rfl)
  try go_simp
  refine hK _ ?_
  clear hK K
  refine wpFk_get rfl (by rfl) (fun K hK => ?_)
  refine ⟨?_, fun w' hS' => ?_, ?_⟩
  rotate_left
  · go_simp
    try (with_reducible rfl)
  try go_simp
  refine hK _ ?_
  clear hK K
  refine wpFk_get rfl (by rfl) (fun K hK => ?_)
  refine ⟨_, fun w' hS' => get_load rfl rfl (RD.out _ _ (HN.out _ hS').1).2.2.2.2, ?_⟩
  try go_simp
  refine hK _ ?_
  clear hK K
  refine wpFk_call rfl (by rfl) (fun K hK => ?_)
  refine wp_buildL 1 _ rfl Pb hbb.out lb.out.symm (by decide) (by decide) ?_ ?_
  · rw [QB.out]; rfl
  intro wb2 hl hb
  have HL2 := Lib.hid hl
  replace HS := Lib.hid (below_new HS.out hb)
  clear hl hb
  try go_simp
  refine hK _ _ HS.out ?_
  clear hK K
  refine wpFk_call rfl (by rfl) (fun K hK => ?_)
  go_simp
  go_at_call 10
  refine (SB.out _ _ _ _ _ (HN.out _ HS.out).2.2.1 HL2.out).mono ?_
  rintro e w2x ⟨rfl, hb⟩
  replace HS := Lib.hid (below_new HS.out hb)
  clear hb
  refine hK _ _ HS.out ?_
  clear hK K
  refine wpFk_get rfl (by rfl) (fun K hK => ?_)
  refine ⟨?_, fun w' hS' => ?_, ?_⟩
  rotate_left
  · go_simp
    try (with_reducible rfl)
  try go_simp
  refine hK _ ?_
  clear hK K
  refine wpFk_get rfl (by rfl) (fun K hK => ?_)
  refine ⟨?_, fun w' hS' => ?_, ?_⟩
  rotate_left
  · go_simp
    try (with_reducible rfl)
  try go_simp
  refine hK _ ?_
  clear hK K
  refine wpFk_get rfl (by rfl) (fun K hK => ?_)
  refine ⟨?_, fun w' hS' => ?_, ?_⟩
  rotate_left
  · go_simp
    try (with_reducible rfl)
  try go_simp
  refine hK _ ?_
  clear hK K
  refine wpFk_get rfl (by rfl) (fun K hK => ?_)
  refine ⟨?_, fun w' hS' => ?_, ?_⟩
  rotate_left
  · go_simp
    try (with_reducible rfl)
  try go_simp
  refine hK _ ?_
  clear hK K
  refine wpFk_get rfl (by rfl) (fun K hK => ?_)
  refine ⟨?_, fun w' hS' => ?_, ?_⟩
  rotate_left
  · go_simp
    try (with_reducible rfl)
  try go_simp
  refine hK _ ?_
  clear hK K
  refine wpFk_get rfl (by rfl) (fun K hK => ?_)
  refine ⟨?_, fun w' hS' => ?_, ?_⟩
  rotate_left
  · go_simp
    try (with_reducible rfl)
  try go_simp
  refine hK _ ?_
  clear hK K
  refine wpFk_get rfl (by rfl) (fun K hK => ?_)
  refine ⟨?_, fun w' hS' => ?_, ?_⟩
  rotate_left
  · go_simp
    try (with_reducible rfl)
  try go_simp
  refine hK _ ?_
  clear hK K
  refine wpFk_get rfl (by rfl) (fun K hK => ?_)
  refine ⟨?_, fun w' hS' => ?_, ?_⟩
  rotate_left
  · go_simp
    try (with_reducible rfl)
  try go_simp
  refine hK _ ?_
  clear hK K
  refine wpFk_get rfl (by rfl) (fun K hK => ?_)
  refine ⟨?_, fun w' hS' => ?_, ?_⟩
  rotate_left
  · go_simp
    try (with_reducible rfl)
  try go_simp
  refine hK _ ?_
  clear hK K
  refine wpFk_get rfl (by rfl) (fun K hK => ?_)
  refine ⟨?_, fun w' hS' => ?_, ?_⟩
  rotate_left
  · go_simp
    try (with_reducible rfl)
  try go_simp
  refine hK _ ?_
  clear hK K
  refine wpFk_get rfl (by rfl) (fun K hK => ?_)
  refine ⟨?_, fun w' hS' => ?_, ?_⟩
  rotate_left
  · go_simp
    try (with_reducible rfl)
  try go_simp
  refine hK _ ?_
  clear hK K
  refine wpFk_get rfl (by rfl) (fun K hK => ?_)
  refine ⟨?_, fun w' hS' => ?_, ?_⟩
  rotate_left
  · go_simp
    try (with_reducible rfl)
  try go_simp
  refine hK _ ?_
  clear hK K
  refine wpFk_get rfl (by rfl) (fun K hK => ?_)
  refine ⟨?_, fun w' hS' => ?_, ?_⟩
  rotate_left
  · go_simp
    try (with_reducible rfl)
  try go_simp
  refine hK _ ?_
  clear hK K
  refine wpFk_get rfl (by rfl) (fun K hK => ?_)
  refine ⟨?_, fun w' hS' => ?_, ?_⟩
  rotate_left
  · go_simp
    try (with_reducible rfl)
  try go_simp
  refine hK _ ?_
  clear hK K
  refine wpFk_get rfl (by rfl) (fun K hK => ?_)
  refine ⟨_, fun w' hS' => get_load rfl rfl ((HN.out _ hS').2.2.2.read zRT.out), ?_⟩
  try go_simp
  refine hK _ ?_
  clear hK K
  refine wpFk_get rfl (by rfl) (fun K hK => ?_)
  refine ⟨?_, fun w' hS' => ?_, ?_⟩
  rotate_left
  · go_simp
    try (with_reducible rfl)
  try go_simp
  refine hK _ ?_
  clear hK K
  refine wpFk_call rfl (by rfl) (fun K hK => ?_)
  go_simp
  go_at_call 14
  refine (RR4.out _ _ _ (HN.out _ HS.out).1).mono ?_
  rintro e w2x ⟨rfl, hb⟩
  replace HS := Lib.hid (below_new HS.out hb)
  clear hb
  refine hK _ _ HS.out ?_
  clear hK K
  refine wpFk_call rfl (by rfl) (fun K hK => ?_)
  go_simp
  go_at_call 11
  refine (C1.out _ _ _ (HN.out _ HS.out).2.2.1 (HN.out _ HS.out).1.2.1 HCB.out).mono ?_
  rintro e w2x ⟨rfl, hb⟩
  replace HS := Lib.hid (below_new HS.out hb)
  clear hb
  refine hK _ _ HS.out ?_
  clear hK K
  refine wpFk_get rfl (by rfl) (fun K hK => ?_)
  refine ⟨?_, fun w' hS' => ?_, ?_⟩
  rotate_left
  · go_simp
    try (with_reducible rfl)
  try go_simp
  refine hK _ ?_
  clear hK K
  refine wpFk_get rfl (by rfl) (fun K hK => ?_)
  refine ⟨?_, fun w' hS' => ?_, ?_⟩
  rotate_left
  · go_simp
    try (with_reducible rfl)
  try go_simp
  refine hK _ ?_
  clear hK K
  refine wpFk_get rfl (by rfl) (fun K hK => ?_)
  refine ⟨?_, fun w' hS' => ?_, ?_⟩
  rotate_left
  · go_simp
    try (with_reducible rfl)
  try go_simp
  refine hK _ ?_
  clear hK K
  refine wpFk_get rfl (by rfl) (fun K hK => ?_)
  refine ⟨?_, fun w' hS' => ?_, ?_⟩
  rotate_left
  · go_simp
    try (with_reducible rfl)
  try go_simp
  refine hK _ ?_
  clear hK K
  refine wpFk_get rfl (by rfl) (fun K hK => ?_)
  refine ⟨?_, fun w' hS' => ?_, ?_⟩
  rotate_left
  · go_simp
    try (with_reducible rfl)
  try go_simp
  refine hK _ ?_
  clear hK K
  refine wpFk_get rfl (by rfl) (fun K hK => ?_)
  refine ⟨_, fun w' hS' => get_load rfl rfl ((HN.out _ hS').2.2.2.read zRT.out), ?_⟩
  try go_simp
  refine hK _ ?_
  clear hK K
  refine wpFk_get rfl (by rfl) (fun K hK => ?_)
  refine ⟨?_, fun w' hS' => ?_, ?_⟩
  rotate_left
  · go_simp
    try (with_reducible rfl)
  try go_simp
  refine hK _ ?_
  clear hK K
  refine wpFk_call rfl (by rfl) (fun K hK => ?_)
  go_simp
  go_at_call 14
  refine (RR3.out _ _ _ (HN.out _ HS.out).1).mono ?_
  rintro e w2x ⟨rfl, hb⟩
  replace HS := Lib.hid (below_new HS.out hb)
  clear hb
  refine hK _ _ HS.out ?_
  clear hK K
  refine wpFk_call rfl (by rfl) (fun K hK => ?_)
  go_simp
  go_at_call 11
  refine (C2.out _ _ _ (HN.out _ HS.out).2.2.1 (HN.out _ HS.out).1.2.1 HCB.out).mono ?_
  rintro e w2x ⟨rfl, hb⟩
  replace HS := Lib.hid (below_new HS.out hb)
  clear hb
  refine hK _ _ HS.out ?_
  clear hK K
  refine wpFk_get rfl (by rfl) (fun K hK => ?_)
  refine ⟨?_, fun w' hS' => ?_, ?_⟩
  rotate_left
  · go_simp
    try (with_reducible rfl)
  try go_simp
  refine hK _ ?_
  clear hK K
  refine wpFk_get rfl (by rfl) (fun K hK => ?_)
  refine ⟨?_, fun w' hS' => ?_, ?_⟩
  rotate_left
  · go_simp
    try (with_reducible rfl)
  try go_simp
  refine hK _ ?_
  clear hK K
  refine wpFk_get rfl (by rfl) (fun K hK => ?_)
  refine ⟨?_, fun w' hS' => ?_, ?_⟩
  rotate_left
  · go_simp
    try (with_reducible rfl)
  try go_simp
  refine hK _ ?_
  clear hK K
  refine wpFk_done ?_
  refine HQ.out _ _ ?_
  go_wp2
  go_ret
  exact ⟨rfl, (HN.out _ HS.out).1.2.2⟩
end Go.Proofs.YtkjgkeigfebcmaaDoor
