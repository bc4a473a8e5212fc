/-
  The chapter's examples, as the statements of layer 6 call them ('found'): true; the call makes new memory, nothing that was there changes. Condition: the two tables as they were laid.
-/
import Derived.Test.YtfakimbneenfdaaDoorPathCheck
import Derived.Test.YtfakimbneenfdaaDoorPathPath
import Derived.Test.YtfakimbneenfdaaDoorPathSome
import Derived.Test.YtfakimbneenfdaaDoorListSame
namespace Go.Proofs.YtfakimbneenfdaaDoor
open Go.RowKit Go.Great
set_option linter.unusedVariables false
set_option maxRecDepth 100000

theorem split5 : splitN 5 = 4 := splitN_is 5 2 (by decide) (by decide)
theorem split4 : splitN 4 = 2 := splitN_is 4 1 (by decide) (by decide)
theorem split2 : splitN 2 = 1 := splitN_is 2 0 (by decide) (by decide)
theorem path_two (a b c d e : List Int) : pathL [a, b, c, d, e] 2 = [d, nodeL a b, e] := by
  rw [pathL_left [a, b, c, d, e] 2 (by simp) (by show 2 < splitN 5; rw [split5]; decide)]
  show pathL (List.take (splitN 5) [a, b, c, d, e]) 2 ++ [rootL (List.drop (splitN 5) [a, b, c, d, e])] = _
  rw [split5]
  show pathL [a, b, c, d] 2 ++ [rootL [e]] = _
  rw [pathL_right [a, b, c, d] 2 (by simp) (by show ¬ 2 < splitN 4; rw [split4]; decide)]
  show (pathL (List.drop (splitN 4) [a, b, c, d]) (2 - splitN 4) ++ [rootL (List.take (splitN 4) [a, b, c, d])]) ++ _ = _
  rw [split4]
  show (pathL [c, d] 0 ++ [rootL [a, b]]) ++ [rootL [e]] = _
  rw [pathL_left [c, d] 0 (by simp) (by show 0 < splitN 2; rw [split2]; decide)]
  show ((pathL (List.take (splitN 2) [c, d]) 0 ++ [rootL (List.drop (splitN 2) [c, d])]) ++ _) ++ _ = _
  rw [split2, rootL_more [a, b] (by simp)]
  show ((pathL [c] 0 ++ [rootL [d]]) ++ [nodeL (rootL (List.take (splitN 2) [a, b])) (rootL (List.drop (splitN 2) [a, b]))]) ++ _ = _
  rw [split2]
  show ((pathL [c] 0 ++ [rootL [d]]) ++ [nodeL (rootL [a]) (rootL [b])]) ++ [rootL [e]] = _
  rw [pathL_few [c] 0 (by simp), rootL_one [d] rfl, rootL_one [a] rfl, rootL_one [b] rfl, rootL_one [e] rfl]
  rfl
theorem path_four (a b c d e : List Int) : pathL [a, b, c, d, e] 4 = [rootL [a, b, c, d]] := by
  rw [pathL_right [a, b, c, d, e] 4 (by simp) (by show ¬ 4 < splitN 5; rw [split5]; decide)]
  show pathL (List.drop (splitN 5) [a, b, c, d, e]) (4 - splitN 5) ++ [rootL (List.take (splitN 5) [a, b, c, d, e])] = _
  rw [split5]
  show pathL [e] 0 ++ [rootL [a, b, c, d]] = _
  rw [pathL_few [e] 0 (by simp)]
  rfl
/-- What the examples hold on to. -/
def FdH (w : World) (g : Nat) (ls : List (List Int)) (W : World) : Prop := HW W (some ⟨g, 0, none⟩) ls ∧ Tab W ∧ Below w.heap.size w W
theorem FdH.next {w W W1 : World} {g : Nat} {ls : List (List Int)} (h : FdH w g ls W) (hb : Below W.heap.size W W1) : FdH w g ls W1 := ⟨h.1.next hb, h.2.1.next hb, below_new h.2.2 hb⟩
attribute [local go_sem ↓ high] read_at write_at eq_at neq_at
set_option maxHeartbeats 40000000 in
theorem found_any (w : World) (hT : Tab w) :
    Calls Tryd.prog 31 #[] w fun e w' => e = .returned (.bool true) ∧ Below w.heap.size w w' := by
  obtain ⟨ls, hls⟩ : ∃ ls, Hid (ls = someM 4 5) := ⟨_, Lib.hid rfl⟩
  have hh : hashes ls := by rw [hls.out]; exact someM_hashes 4 (by omega) 5 (by omega)
  obtain ⟨x0, hx0⟩ : ∃ x, Hid (x = someG 4 0) := ⟨_, Lib.hid rfl⟩
  obtain ⟨x1, hx1⟩ : ∃ x, Hid (x = someG 4 1) := ⟨_, Lib.hid rfl⟩
  obtain ⟨x2, hx2⟩ : ∃ x, Hid (x = someG 4 2) := ⟨_, Lib.hid rfl⟩
  obtain ⟨x3, hx3⟩ : ∃ x, Hid (x = someG 4 3) := ⟨_, Lib.hid rfl⟩
  obtain ⟨x4, hx4⟩ : ∃ x, Hid (x = someG 4 4) := ⟨_, Lib.hid rfl⟩
  have hl5 : Hid (ls = [x0, x1, x2, x3, x4]) := Lib.hid (by rw [hls.out, hx0.out, hx1.out, hx2.out, hx3.out, hx4.out]; rfl)
  have i0 := hh x0 (by rw [hl5.out]; simp)
  have i1 := hh x1 (by rw [hl5.out]; simp)
  have i2 := hh x2 (by rw [hl5.out]; simp)
  have i3 := hh x3 (by rw [hl5.out]; simp)
  have i4 := hh x4 (by rw [hl5.out]; simp)
  obtain ⟨X0, hX0⟩ : ∃ X, Hid (X = nums .u8 x0) := ⟨_, Lib.hid rfl⟩
  obtain ⟨X1, hX1⟩ : ∃ X, Hid (X = nums .u8 x1) := ⟨_, Lib.hid rfl⟩
  obtain ⟨X2, hX2⟩ : ∃ X, Hid (X = nums .u8 x2) := ⟨_, Lib.hid rfl⟩
  obtain ⟨X3, hX3⟩ : ∃ X, Hid (X = nums .u8 x3) := ⟨_, Lib.hid rfl⟩
  obtain ⟨X4, hX4⟩ : ∃ X, Hid (X = nums .u8 x4) := ⟨_, Lib.hid rfl⟩
  have ll : Hid (ls.length = 5) := Lib.hid (by rw [hl5.out]; rfl)
  obtain ⟨Pa, hPa⟩ : ∃ P, Hid (P = [x3, nodeL x0 x1, x4]) := ⟨_, Lib.hid rfl⟩
  obtain ⟨r4, hr4⟩ : ∃ r, Hid (r = rootL (ls.take 4)) := ⟨_, Lib.hid rfl⟩
  obtain ⟨rt, hrt⟩ : ∃ r, Hid (r = rootL ls) := ⟨_, Lib.hid rfl⟩
  have hr432 : r4.length = 32 ∧ bytes r4 := by rw [hr4.out]; exact rootL_is _ (hashes_take hh _)
  have hrt32 : rt.length = 32 ∧ bytes rt := by rw [hrt.out]; exact rootL_is _ hh
  obtain ⟨Pb, hPb⟩ : ∃ P, Hid (P = [r4]) := ⟨_, Lib.hid rfl⟩
  obtain ⟨N1, hN1⟩ : ∃ X, Hid (X = nums .u8 (nodeL x0 x1)) := ⟨_, Lib.hid rfl⟩
  obtain ⟨R4, hR4⟩ : ∃ X, Hid (X = nums .u8 r4) := ⟨_, Lib.hid rfl⟩
  obtain ⟨RT, hRT⟩ : ∃ X, Hid (X = nums .u8 rt) := ⟨_, Lib.hid rfl⟩
  have hpa : Hid (pathL ls 2 = Pa) := Lib.hid (by rw [hl5.out, hPa.out]; exact path_two _ _ _ _ _)
  have hpb : Hid (pathL ls 4 = Pb) := Lib.hid (by rw [hPb.out, hr4.out, hl5.out]; exact path_four _ _ _ _ _)
  have haa : Hid (hashes Pa) := Lib.hid (by rw [← hpa.out]; exact pathL_hashes _ ls 2 rfl hh)
  have hbb : Hid (hashes Pb) := Lib.hid (by rw [← hpb.out]; exact pathL_hashes _ ls 4 rfl hh)
  have la : Hid (Pa.length = 3) := Lib.hid (by rw [hPa.out]; rfl)
  have lb : Hid (Pb.length = 1) := Lib.hid (by rw [hPb.out]; rfl)
  have K1 : Hid (checkF x4 (4 : Nat) (5 : Nat) Pb rt = 0) := Lib.hid (by
    have := checkF_path (ls := ls) (i := 4) (by rw [ll.out]; decide) (by rw [ll.out]; decide)
    rw [ll.out, hpb.out, ← hrt.out, show ls.getD 4 [] = x4 by rw [hl5.out]; rfl] at this
    exact this)
  have K2 : Hid (checkF x2 (2 : Nat) (5 : Nat) Pb rt = 80) := Lib.hid (checkF_length (by decide) (by decide) (by
    have := pathL_sides ls 2 (by rw [ll.out]; decide)
    rw [hpa.out, la.out, ll.out] at this
    rw [lb.out, ← this]; decide))
  have S0 : Hid (∀ W, Calls Tryd.prog 30 #[.int .i64 5, .int .u8 4] W fun ev w' => (∃ g c, ev = .returned (.slice (some ⟨g, 0, none⟩) 5 c) ∧ (5 ≤ c ∧ c ≤ maxLen) ∧ HW w' (some ⟨g, 0, none⟩) ls) ∧ Below W.heap.size W w') := Lib.hid fun W => by
    refine (someG_any 5 (by omega) 4 (by omega) W).mono ?_
    rintro ev w' ⟨⟨A, c, he, hc, hA, h0⟩, hb⟩
    rcases h0 with h0 | ⟨g, rfl⟩
    · omega
    · exact ⟨⟨g, c, he, hc, by rw [hls.out]; exact hA⟩, hb⟩
  have PT : Hid (∀ W g c i, FdH w g ls W → (5 ≤ c ∧ c ≤ maxLen) → Calls Tryd.prog 32 #[.slice (some ⟨g, 0, none⟩) 5 c, .int .i64 i] W (GivesL W (pathF ls i))) := Lib.hid fun W g c i h hc => by
    have := path_any ls hh (some ⟨g, 0, none⟩) c W h.1 h.2.1 (by rw [ll.out]; exact hc.1) hc.2 i
    rwa [ll.out] at this
  have F2 : Hid (pathF ls 2 = (Pa, 0)) := Lib.hid (by rw [show (2 : Int) = ((2 : Nat) : Int) from rfl, pathF_ok (by rw [ll.out]; decide), hpa.out])
  have F4 : Hid (pathF ls 4 = (Pb, 0)) := Lib.hid (by rw [show (4 : Int) = ((4 : Nat) : Int) from rfl, pathF_ok (by rw [ll.out]; decide), hpb.out])
  have F5 : Hid (pathF ls 5 = ([], 2)) := Lib.hid (pathF_no (.inr (by rw [ll.out]; decide)))
  have P2 : Hid (∀ W g c, FdH w g ls W → (5 ≤ c ∧ c ≤ maxLen) → Calls Tryd.prog 32 #[.slice (some ⟨g, 0, none⟩) 5 c, .int .i64 2] W fun e w' => ∃ A c', e = .returned (.tuple #[.slice A 3 c', .int .i64 0]) ∧ (3 ≤ c' ∧ c' ≤ maxLen) ∧ HW w' A Pa ∧ Below W.heap.size W w') := Lib.hid fun W g c h hc => by
    refine (PT.out W g c 2 h hc).mono ?_
    rintro e w' ⟨A, c', he, h1, h2, h3, h4⟩
    rw [F2.out] at he h1 h3
    rw [la.out] at he h1
    exact ⟨A, c', he, ⟨h1, h2⟩, h3, h4⟩
  have P4 : Hid (∀ W g c, FdH w g ls W → (5 ≤ c ∧ c ≤ maxLen) → Calls Tryd.prog 32 #[.slice (some ⟨g, 0, none⟩) 5 c, .int .i64 4] W fun e w' => ∃ A c', e = .returned (.tuple #[.slice A 1 c', .int .i64 0]) ∧ (1 ≤ c' ∧ c' ≤ maxLen) ∧ HW w' A Pb ∧ Below W.heap.size W w') := Lib.hid fun W g c h hc => by
    refine (PT.out W g c 4 h hc).mono ?_
    rintro e w' ⟨A, c', he, h1, h2, h3, h4⟩
    rw [F4.out] at he h1 h3
    rw [lb.out] at he h1
    exact ⟨A, c', he, ⟨h1, h2⟩, h3, h4⟩
  have P5 : Hid (∀ W g c, FdH w g ls W → (5 ≤ c ∧ c ≤ maxLen) → Calls Tryd.prog 32 #[.slice (some ⟨g, 0, none⟩) 5 c, .int .i64 5] W fun e w' => ∃ A c', e = .returned (.tuple #[.slice A 0 c', .int .i64 2]) ∧ Below W.heap.size W w') := Lib.hid fun W g c h hc => by
    refine (PT.out W g c 5 h hc).mono ?_
    rintro e w' ⟨A, c', he, h1, h2, h3, h4⟩
    rw [F5.out] at he
    exact ⟨A, c', he, h4⟩
  have RR : Hid (∀ W g c, FdH w g ls W → Calls Tryd.prog 29 #[.slice (some ⟨g, 0, none⟩) 5 c] W fun ev w' => ev = .returned (.agg RT) ∧ Below W.heap.size W w') := Lib.hid fun W g c h => by
    have := root_any ls hh (some ⟨g, 0, none⟩) c W h.1 h.2.1 (by rw [ll.out]; decide)
    rwa [ll.out, ← hrt.out, ← hRT.out] at this
  have zRT : Hid (RT.size = 32) := Lib.hid (by rw [hRT.out, nums_size]; exact hrt32.1)
  have oRT : Hid (RT.all (·.oneCell') = true) := Lib.hid (by rw [hRT.out]; exact nums_one _ _)
  have RR4 : Hid (∀ W g c, FdH w g ls W → Calls Tryd.prog 29 #[.slice (some ⟨g, 0, none⟩) 4 c] W fun ev w' => ev = .returned (.agg R4) ∧ Below W.heap.size W w') := Lib.hid fun W g c h => by
    have l4 : (ls.take 4).length = 4 := by rw [List.length_take, ll.out]; rfl
    have := root_any (ls.take 4) (hashes_take hh 4) (some ⟨g, 0, none⟩) c W (HL.take h.1 4) h.2.1 (by rw [l4]; decide)
    rwa [l4, ← hr4.out, ← hR4.out] at this
  have N01 : Hid (∀ W, Tab W → Calls Tryd.prog 36 #[.agg X0, .agg X1] W fun e w' => e = .returned (.agg N1) ∧ Below W.heap.size W w') := Lib.hid fun W hW => by
    rw [hX0.out, hX1.out, hN1.out]; exact node_any _ _ i0.1 i1.1 W hW
  have RD : Hid (∀ W g, FdH w g ls W → (readAt (.pointer (some ⟨g, 0, none⟩))).run Tryd.prog W = .ok (.agg X0) W ∧ (readAt (.pointer (some ⟨g, 32, none⟩))).run Tryd.prog W = .ok (.agg X1) W ∧ (readAt (.pointer (some ⟨g, 64, none⟩))).run Tryd.prog W = .ok (.agg X2) W ∧ (readAt (.pointer (some ⟨g, 96, none⟩))).run Tryd.prog W = .ok (.agg X3) W ∧ (readAt (.pointer (some ⟨g, 128, none⟩))).run Tryd.prog W = .ok (.agg X4) W) := Lib.hid fun W g h => by
    have h1 : HL W W.heap.size (some ⟨g, 0, none⟩) ls := h.1
    have r0 := h1.read hh 0 (by rw [ll.out]; decide)
    have r1 := h1.read hh 1 (by rw [ll.out]; decide)
    have r2 := h1.read hh 2 (by rw [ll.out]; decide)
    have r3 := h1.read hh 3 (by rw [ll.out]; decide)
    have r4 := h1.read hh 4 (by rw [ll.out]; decide)
    rw [add_flat, hl5.out] at r0 r1 r2 r3 r4
    exact ⟨by rw [hX0.out]; exact r0, by rw [hX1.out]; exact r1, by rw [hX2.out]; exact r2, by rw [hX3.out]; exact r3, by rw [hX4.out]; exact r4⟩
  have QA : Hid ((Pa.map fun l => Value.agg (nums .u8 l)) = [.agg X3, .agg N1, .agg X4]) := Lib.hid (by rw [hPa.out, hX3.out, hN1.out, hX4.out]; rfl)
  have QB : Hid ((Pb.map fun l => Value.agg (nums .u8 l)) = [.agg R4]) := Lib.hid (by rw [hPb.out, hR4.out]; rfl)
  have SL : ∀ (W : World) (A B : Option Addr) (L : List (List Int)) (n c d : Nat), n = L.length → n ≤ 100 → hashes L → HW W A L → HW W B L → Calls Tryd.prog 24 #[.slice A n c, .slice B n d] W fun e w' => e = .returned (.bool true) ∧ Below W.heap.size W w' := fun W A B L n c d hn hn2 hL h1 h2 => by
    subst hn
    refine (lsame_any L L hL hL (by omega) (by omega) A B c d W h1 h2).mono ?_
    rintro e w' ⟨he, k, rfl⟩
    exact ⟨by rw [he, decide_eq_true rfl], below_drewN (Below.refl _ _) k⟩
  have SA : Hid (∀ W A B c d, HW W A Pa → HW W B Pa → Calls Tryd.prog 24 #[.slice A 3 c, .slice B 3 d] W fun e w' => e = .returned (.bool true) ∧ Below W.heap.size W w') := Lib.hid fun W A B c d h1 h2 => SL W A B Pa 3 c d la.out.symm (by decide) haa.out h1 h2
  have SB : Hid (∀ W A B c d, HW W A Pb → HW W B Pb → Calls Tryd.prog 24 #[.slice A 1 c, .slice B 1 d] W fun e w' => e = .returned (.bool true) ∧ Below W.heap.size W w') := Lib.hid fun W A B c d h1 h2 => SL W A B Pb 1 c d lb.out.symm (by decide) hbb.out h1 h2
  have C1 : Hid (∀ W A c, HW W A Pb → Tab W → (1 ≤ c ∧ c ≤ maxLen) → Calls Tryd.prog 34 #[.agg X4, .int .i64 4, .int .i64 5, .slice A 1 c, .agg RT] W fun e w' => e = .returned (.int .i64 0) ∧ Below W.heap.size W w') := Lib.hid fun W A c h hW hc => by
    have := check_any x4 rt i4 hrt32 (4 : Nat) (5 : Nat) (by omega) (by omega) Pb hbb.out A c W h hW (by rw [lb.out]; exact hc.1) (by have := hc.2; unfold maxLen at this; omega)
    rw [lb.out, K1.out, ← hX4.out, ← hRT.out] at this
    exact this
  have C2 : Hid (∀ W A c, HW W A Pb → Tab W → (1 ≤ c ∧ c ≤ maxLen) → Calls Tryd.prog 34 #[.agg X2, .int .i64 2, .int .i64 5, .slice A 1 c, .agg RT] W fun e w' => e = .returned (.int .i64 80) ∧ Below W.heap.size W w') := Lib.hid fun W A c h hW hc => by
    have := check_any x2 rt i2 hrt32 (2 : Nat) (5 : Nat) (by omega) (by omega) Pb hbb.out A c W h hW (by rw [lb.out]; exact hc.1) (by have := hc.2; unfold maxLen at this; omega)
    rw [lb.out, K2.out, ← hX2.out, ← hRT.out] at this
    exact this
  have HT := Lib.hid hT
  clear SL i0 i1 i2 i3 i4 hr432 hrt32 hh hT
  go_enter Tryd.func31, Tryd.ntmps31
  go_upto_region 2 with (go_at_call 30; (with_reducible refine (S0.out _).mono ?_); rintro e w1 ⟨⟨g, c, rfl, hc, hA⟩, hb⟩; have H1 : Hid (FdH w g ls w1) := Lib.hid ⟨hA, HT.out.next hb, hb⟩; have HC := Lib.hid hc; clear hb hA hc)
  go_upto_region 3 with (go_at_call 32; (with_reducible refine (P2.out _ _ _ H1.out HC.out).mono ?_); rintro e w2 ⟨Aa, ca, rfl, hca, hA, hb⟩; have H2 : Hid (FdH w g ls w2) := Lib.hid (H1.out.next hb); have HA2 := Lib.hid hA; clear hb hA)
  go_upto_region 4 with (go_at_call 32; (with_reducible refine (P4.out _ _ _ H2.out HC.out).mono ?_); rintro e w3 ⟨Ab, cb, rfl, hcb, hA, hb⟩; have H3 : Hid (FdH w g ls w3) := Lib.hid (H2.out.next hb); have HA3 := Lib.hid (HA2.out.next hb); have HB3 := Lib.hid hA; have HCB := Lib.hid hcb; clear hb hA)
  go_upto_region 5 with (go_at_call 32; (with_reducible refine (P5.out _ _ _ H3.out HC.out).mono ?_); rintro e w4 ⟨A0, c0, rfl, hb⟩; have H4 : Hid (FdH w g ls w4) := Lib.hid (H3.out.next hb); have HA4 := Lib.hid (HA3.out.next hb); have HB4 := Lib.hid (HB3.out.next hb); clear hb)
  go_upto_region 6 with (go_at_call 29; (with_reducible refine (RR.out _ _ _ H4.out).mono ?_); rintro e w5 ⟨rfl, hb⟩; obtain ⟨w6, s6, hr6, hb6, hz6⟩ := made_write w5 RT zRT.out oRT.out; have H6 : Hid (FdH w g ls w6 ∧ HW w6 Aa Pa ∧ HW w6 Ab Pb ∧ Row w6 w5.heap.size 31 RT) := Lib.hid ⟨(H4.out.next hb).next hb6, (HA4.out.next hb).next hb6, (HB4.out.next hb).next hb6, hr6⟩; clear hr6 hb6 hz6 hb)
  have b4 : (4 : Int) ≤ (c : Int) := by have := HC.out.1; omega
  have b5 : 4 ≤ c := by have := HC.out.1; omega
  clear s6 H1 H2 H3 H4 HA2 HA3 HA4 HB3 HB4 S0 P2 P4 P5 PT RR
  have HN : Hid (∀ W, Below w6.heap.size w6 W → FdH w g ls W ∧ HW W Aa Pa ∧ HW W Ab Pb ∧ Row W w5.heap.size 31 RT) := Lib.hid fun W hW => ⟨H6.out.1.next hW, H6.out.2.1.next hW, H6.out.2.2.1.next hW, H6.out.2.2.2.next hW⟩
  refine wp_region_fk (Below w6.heap.size w6) (.get 0 (.get 1 (.get 2 (.get 3 (.get 4 (.get 5 (.get 6 (.get 7 (.get 8 (.get 9 (.get 10 (.get 11 (.get 12 (.get 13 (.get 14 (.get 15 (.get 16 (.get 17 (.get 18 (.get 19 (.get 20 (.get 22 (.get 23 (.get 24 (.call 21 (.call 25 (.call 26 (.get 27 (.get 28 (.get 29 (.get 30 (.get 31 (.call 32 (.call 33 (.call 34 (.get 35 (.get 36 (.get 37 (.get 38 (.get 39 (.get 40 (.get 41 (.call 42 (.get 43 (.get 44 (.get 45 (.get 46 (.get 47 (.get 48 (.get 49 (.get 50 (.call 51 (.get 52 (.get 53 (.get 54 .done))))))))))))))))))))))))))))))))))))))))))))))))))))))) (by kernel_rfl) rfl (by kernel_rfl) (by kernel_rfl) (by intro c a d v w h; cases d <;> exact h) (Below.refl w6.heap.size w6).drew (fun Q' hQ => ?_)
  have HS := Lib.hid (Below.refl w6.heap.size w6).drew
  have HQ := Lib.hid hQ
  clear hQ
  refine wpFk_get rfl (by rfl) (fun K hK => ?_)
  refine ⟨?_, fun w' hS' => ?_, ?_⟩
  rotate_left
  · go_simp
    try (with_reducible rfl)
  try go_simp
  refine hK _ ?_
  clear hK K
  refine wpFk_get rfl (by rfl) (fun K hK => ?_)
  refine ⟨?_, fun w' hS' => ?_, ?_⟩
  rotate_left
  · go_simp
    try (with_reducible rfl)
  try go_simp
  refine hK _ ?_
  clear hK K
  refine wpFk_get rfl (by rfl) (fun K hK => ?_)
  refine ⟨?_, fun w' hS' => ?_, ?_⟩
  rotate_left
  · go_simp
    try (with_reducible rfl)
  try go_simp
  refine hK _ ?_
  clear hK K
  refine wpFk_get rfl (by rfl) (fun K hK => ?_)
  refine ⟨?_, fun w' hS' => ?_, ?_⟩
  rotate_left
  · go_simp
    try (with_reducible rfl)
  try go_simp
  refine hK _ ?_
  clear hK K
  refine wpFk_get rfl (by rfl) (fun K hK => ?_)
  refine ⟨?_, fun w' hS' => ?_, ?_⟩
  rotate_left
  · go_simp
    try (with_reducible rfl)
  try go_simp
  refine hK _ ?_
  clear hK K
  refine wpFk_get rfl (by rfl) (fun K hK => ?_)
  refine ⟨?_, fun w' hS' => ?_, ?_⟩
  rotate_left
  · go_simp
    try (with_reducible rfl)
  try go_simp
  refine hK _ ?_
  clear hK K
  refine wpFk_get rfl (by rfl) (fun K hK => ?_)
  refine ⟨?_, fun w' hS' => ?_, ?_⟩
  rotate_left
  · go_simp
    try (with_reducible rfl)
  try go_simp
  refine hK _ ?_
  clear hK K
  refine wpFk_get rfl (by rfl) (fun K hK => ?_)
  refine ⟨?_, fun w' hS' => ?_, ?_⟩
  rotate_left
  · go_simp
    try (with_reducible rfl)
  try go_simp
  refine hK _ ?_
  clear hK K
  refine wpFk_get rfl (by rfl) (fun K hK => ?_)
  refine ⟨?_, fun w' hS' => ?_, ?_⟩
  rotate_left
  · go_simp
    try (with_reducible rfl)
  try go_simp
  refine hK _ ?_
  clear hK K
  refine wpFk_get rfl (by rfl) (fun K hK => ?_)
  refine ⟨?_, fun w' hS' => ?_, ?_⟩
  rotate_left
  · go_simp
    try (with_reducible rfl)
  try go_simp
  refine hK _ ?_
  clear hK K
  refine wpFk_get rfl (by rfl) (fun K hK => ?_)
  refine ⟨?_, fun w' hS' => ?_, ?_⟩
  rotate_left
  · go_simp
    try (with_reducible rfl)
  try go_simp
  refine hK _ ?_
  clear hK K
  refine wpFk_get rfl (by rfl) (fun K hK => ?_)
  refine ⟨?_, fun w' hS' => ?_, ?_⟩
  rotate_left
  · go_simp
    try (with_reducible rfl)
  try go_simp
  refine hK _ ?_
  clear hK K
  refine wpFk_get rfl (by rfl) (fun K hK => ?_)
  refine ⟨?_, fun w' hS' => ?_, ?_⟩
  rotate_left
  · go_simp
    try (with_reducible rfl)
  try go_simp
  refine hK _ ?_
  clear hK K
  refine wpFk_get rfl (by rfl) (fun K hK => ?_)
  refine ⟨?_, fun w' hS' => ?_, ?_⟩
  rotate_left
  · go_simp
    try (with_reducible rfl)
  try go_simp
  refine hK _ ?_
  clear hK K
  refine wpFk_get rfl (by rfl) (fun K hK => ?_)
  refine ⟨_, fun w' hS' => get_load rfl rfl (RD.out _ _ (HN.out _ hS').1).2.2.2.1, ?_⟩
  try go_simp
  refine hK _ ?_
  clear hK K
  refine wpFk_get rfl (by rfl) (fun K hK => ?_)
  refine ⟨?_, fun w' hS' => ?_, ?_⟩
  rotate_left
  · go_simp
    try (with_reducible rfl)
  try go_simp
  refine hK _ ?_
  clear hK K
  refine wpFk_get rfl (by rfl) (fun K hK => ?_)
  refine ⟨?_, fun w' hS' => ?_, ?_⟩
  rotate_left
  · go_simp
    try (with_reducible rfl)
  try go_simp
  refine hK _ ?_
  clear hK K
  refine wpFk_get rfl (by rfl) (fun K hK => ?_)
  refine ⟨_, fun w' hS' => get_load rfl rfl (RD.out _ _ (HN.out _ hS').1).1, ?_⟩
  try go_simp
  refine hK _ ?_
  clear hK K
  refine wpFk_get rfl (by rfl) (fun K hK => ?_)
  refine ⟨?_, fun w' hS' => ?_, ?_⟩
  rotate_left
  · go_simp
    try (with_reducible rfl)
  try go_simp
  refine hK _ ?_
  clear hK K
  refine wpFk_get rfl (by rfl) (fun K hK => ?_)
  refine ⟨?_, fun w' hS' => ?_, ?_⟩
  rotate_left
  · go_simp
    try (with_reducible rfl)
  try go_simp
  refine hK _ ?_
  clear hK K
  refine wpFk_get rfl (by rfl) (fun K hK => ?_)
  refine ⟨_, fun w' hS' => get_load rfl rfl (RD.out _ _ (HN.out _ hS').1).2.1, ?_⟩
  try go_simp
  refine hK _ ?_
  clear hK K
  refine wpFk_get rfl (by rfl) (fun K hK => ?_)
  refine ⟨?_, fun w' hS' => ?_, ?_⟩
  rotate_left
  · go_simp
    try (with_reducible rfl)
  try go_simp
  refine hK _ ?_
  clear hK K
  refine wpFk_get rfl (by rfl) (fun K hK => ?_)
  refine ⟨?_, fun w' hS' => ?_, ?_⟩
  rotate_left
  · go_simp
    try (with_reducible rfl)
  try go_simp
  refine hK _ ?_
  clear hK K
  refine wpFk_get rfl (by rfl) (fun K hK => ?_)
  refine ⟨_, fun w' hS' => get_load rfl rfl (RD.out _ _ (HN.out _ hS').1).2.2.2.2, ?_⟩
  try go_simp
  refine hK _ ?_
  clear hK K
  refine wpFk_call rfl (by rfl) (fun K hK => ?_)
  go_simp
  go_at_call 36
  refine (N01.out _ (HN.out _ HS.out).1.2.1).mono ?_
  rintro e w2x ⟨rfl, hb⟩
  replace HS := Lib.hid (below_new HS.out hb)
  clear hb
  refine hK _ _ HS.out ?_
  clear hK K
  refine wpFk_call rfl (by rfl) (fun K hK => ?_)
  refine wp_buildL 3 _ rfl Pa haa.out la.out.symm (by decide) (by decide) ?_ ?_
  · rw [QA.out]; rfl
  intro wb1 hl hb
  have HL1 := Lib.hid hl
  replace HS := Lib.hid (below_new HS.out hb)
  clear hl hb
  try go_simp
  refine hK _ _ HS.out ?_
  clear hK K
  refine wpFk_call rfl (by rfl) (fun K hK => ?_)
  go_simp
  go_at_call 24
  refine (SA.out _ _ _ _ _ (HN.out _ HS.out).2.1 HL1.out).mono ?_
  rintro e w2x ⟨rfl, hb⟩
  replace HS := Lib.hid (below_new HS.out hb)
  clear hb
  refine hK _ _ HS.out ?_
  clear hK K
  refine wpFk_get rfl (by rfl) (fun K hK => ?_)
  refine ⟨?_, fun w' hS' => ?_, ?_⟩
  rotate_left
  · go_simp
    try (with_reducible rfl)
  try go_simp
  refine hK _ ?_
  clear hK K
  refine wpFk_get rfl (by rfl) (fun K hK => ?_)
  refine ⟨?_, fun w' hS' => ?_, ?_⟩
  rotate_left
  · go_simp
    try (with_reducible rfl)
  try go_simp
  refine hK _ ?_
  clear hK K
  refine wpFk_get rfl (by rfl) (fun K hK => ?_)
  refine ⟨?_, fun w' hS' => ?_, ?_⟩
  rotate_left
  · go_simp
    try (with_reducible rfl)
  try go_simp
  refine hK _ ?_
  clear hK K
  refine wpFk_get rfl (by rfl) (fun K hK => ?_)
  refine ⟨?_, fun w' hS' => ?_, ?_⟩
  rotate_left
  · go_simp
    try (with_reducible rfl)
  try go_simp
  refine hK _ ?_
  clear hK K
  refine wpFk_get rfl (by rfl) (fun K hK => ?_)
  refine ⟨?_, fun w' hS' => ?_, ?_⟩
  rotate_left
  · go_simp
    try (with_reducible rfl)
  try go_simp
  refine hK _ ?_
  clear hK K
  refine wpFk_call rfl (by rfl) (fun K hK => ?_)
  go_simp
  go_at_call 29
  refine (RR4.out _ _ _ (HN.out _ HS.out).1).mono ?_
  rintro e w2x ⟨rfl, hb⟩
  replace HS := Lib.hid (below_new HS.out hb)
  clear hb
  refine hK _ _ HS.out ?_
  clear hK K
  refine wpFk_call rfl (by rfl) (fun K hK => ?_)
  refine wp_buildL 1 _ rfl Pb hbb.out lb.out.symm (by decide) (by decide) ?_ ?_
  · rw [QB.out]; rfl
  intro wb2 hl hb
  have HL2 := Lib.hid hl
  replace HS := Lib.hid (below_new HS.out hb)
  clear hl hb
  try go_simp
  refine hK _ _ HS.out ?_
  clear hK K
  refine wpFk_call rfl (by rfl) (fun K hK => ?_)
  go_simp
  go_at_call 24
  refine (SB.out _ _ _ _ _ (HN.out _ HS.out).2.2.1 HL2.out).mono ?_
  rintro e w2x ⟨rfl, hb⟩
  replace HS := Lib.hid (below_new HS.out hb)
  clear hb
  refine hK _ _ HS.out ?_
  clear hK K
  refine wpFk_get rfl (by rfl) (fun K hK => ?_)
  refine ⟨?_, fun w' hS' => ?_, ?_⟩
  rotate_left
  · go_simp
    try (with_reducible rfl)
  try go_simp
  refine hK _ ?_
  clear hK K
  refine wpFk_get rfl (by rfl) (fun K hK => ?_)
  refine ⟨?_, fun w' hS' => ?_, ?_⟩
  rotate_left
  · go_simp
    try (with_reducible rfl)
  try go_simp
  refine hK _ ?_
  clear hK K
  refine wpFk_get rfl (by rfl) (fun K hK => ?_)
  refine ⟨?_, fun w' hS' => ?_, ?_⟩
  rotate_left
  · go_simp
    try (with_reducible rfl)
  try go_simp
  refine hK _ ?_
  clear hK K
  refine wpFk_get rfl (by rfl) (fun K hK => ?_)
  refine ⟨?_, fun w' hS' => ?_, ?_⟩
  rotate_left
  · go_simp
    try (with_reducible rfl)
  try go_simp
  refine hK _ ?_
  clear hK K
  refine wpFk_get rfl (by rfl) (fun K hK => ?_)
  refine ⟨_, fun w' hS' => get_load rfl rfl (RD.out _ _ (HN.out _ hS').1).2.2.2.2, ?_⟩
  try go_simp
  refine hK _ ?_
  clear hK K
  refine wpFk_get rfl (by rfl) (fun K hK => ?_)
  refine ⟨?_, fun w' hS' => ?_, ?_⟩
  rotate_left
  · go_simp
    try (with_reducible rfl)
  try go_simp
  refine hK _ ?_
  clear hK K
  refine wpFk_get rfl (by rfl) (fun K hK => ?_)
  refine ⟨_, fun w' hS' => get_load rfl rfl ((HN.out _ hS').2.2.2.read zRT.out), ?_⟩
  try go_simp
  refine hK _ ?_
  clear hK K
  refine wpFk_call rfl (by rfl) (fun K hK => ?_)
  go_simp
  go_at_call 34
  refine (C1.out _ _ _ (HN.out _ HS.out).2.2.1 (HN.out _ HS.out).1.2.1 HCB.out).mono ?_
  rintro e w2x ⟨rfl, hb⟩
  replace HS := Lib.hid (below_new HS.out hb)
  clear hb
  refine hK _ _ HS.out ?_
  clear hK K
  refine wpFk_get rfl (by rfl) (fun K hK => ?_)
  refine ⟨?_, fun w' hS' => ?_, ?_⟩
  rotate_left
  · go_simp
    try (with_reducible rfl)
  try go_simp
  refine hK _ ?_
  clear hK K
  refine wpFk_get rfl (by rfl) (fun K hK => ?_)
  refine ⟨?_, fun w' hS' => ?_, ?_⟩
  rotate_left
  · go_simp
    try (with_reducible rfl)
  try go_simp
  refine hK _ ?_
  clear hK K
  refine wpFk_get rfl (by rfl) (fun K hK => ?_)
  refine ⟨?_, fun w' hS' => ?_, ?_⟩
  rotate_left
  · go_simp
    try (with_reducible rfl)
  try go_simp
  refine hK _ ?_
  clear hK K
  refine wpFk_get rfl (by rfl) (fun K hK => ?_)
  refine ⟨?_, fun w' hS' => ?_, ?_⟩
  rotate_left
  · go_simp
    try (with_reducible rfl)
  try go_simp
  refine hK _ ?_
  clear hK K
  refine wpFk_get rfl (by rfl) (fun K hK => ?_)
  refine ⟨?_, fun w' hS' => ?_, ?_⟩
  rotate_left
  · go_simp
    try (with_reducible rfl)
  try go_simp
  refine hK _ ?_
  clear hK K
  refine wpFk_get rfl (by rfl) (fun K hK => ?_)
  refine ⟨_, fun w' hS' => get_load rfl rfl (RD.out _ _ (HN.out _ hS').1).2.2.1, ?_⟩
  try go_simp
  refine hK _ ?_
  clear hK K
  refine wpFk_get rfl (by rfl) (fun K hK => ?_)
  refine ⟨?_, fun w' hS' => ?_, ?_⟩
  rotate_left
  · go_simp
    try (with_reducible rfl)
  try go_simp
  refine hK _ ?_
  clear hK K
  refine wpFk_get rfl (by rfl) (fun K hK => ?_)
  refine ⟨_, fun w' hS' => get_load rfl rfl ((HN.out _ hS').2.2.2.read zRT.out), ?_⟩
  try go_simp
  refine hK _ ?_
  clear hK K
  refine wpFk_call rfl (by rfl) (fun K hK => ?_)
  go_simp
  go_at_call 34
  refine (C2.out _ _ _ (HN.out _ HS.out).2.2.1 (HN.out _ HS.out).1.2.1 HCB.out).mono ?_
  rintro e w2x ⟨rfl, hb⟩
  replace HS := Lib.hid (below_new HS.out hb)
  clear hb
  refine hK _ _ HS.out ?_
  clear hK K
  refine wpFk_get rfl (by rfl) (fun K hK => ?_)
  refine ⟨?_, fun w' hS' => ?_, ?_⟩
  rotate_left
  · go_simp
    try (with_reducible rfl)
  try go_simp
  refine hK _ ?_
  clear hK K
  refine wpFk_get rfl (by rfl) (fun K hK => ?_)
  refine ⟨?_, fun w' hS' => ?_, ?_⟩
  rotate_left
  · go_simp
    try (with_reducible rfl)
  try go_simp
  refine hK _ ?_
  clear hK K
  refine wpFk_get rfl (by rfl) (fun K hK => ?_)
  refine ⟨?_, fun w' hS' => ?_, ?_⟩
  rotate_left
  · go_simp
    try (with_reducible rfl)
  try go_simp
  refine hK _ ?_
  clear hK K
  refine wpFk_done ?_
  refine HQ.out _ _ ?_
  go_wp2
  go_ret
  exact ⟨rfl, (HN.out _ HS.out).1.2.2⟩
end Go.Proofs.YtfakimbneenfdaaDoor
