/-
  The walks of Part and Merge (layer 5): the roots of the parts of leaves, and a range with such parts behind it. Conditions: the two tables as they were laid, lists of hashes in memory. What they make is new memory; nothing that was there changes.
-/
import Derived.Test.YtfakimbneenfdaaDoorListMem
import Derived.Test.YtfakimbneenfdaaDoorRangeOf
namespace Go.Proofs.YtfakimbneenfdaaDoor
open Go.RowKit
set_option linter.unusedVariables false
set_option maxRecDepth 100000

/-- The parts of leaves behind others, and the error. -/
def partF (f : Int) (ls : List (List Int)) : List (List Int) × Int := if f < 0 ∨ 4096 - f < ls.length then ([], 2) else (rootsL f.toNat ls, 0)
theorem partF_no {f : Int} {ls : List (List Int)} (h : f < 0 ∨ 4096 - f < ls.length) : partF f ls = ([], 2) := by unfold partF; rw [if_pos h]
theorem partF_ok {f : Int} {ls : List (List Int)} (h : ¬ (f < 0 ∨ 4096 - f < ls.length)) : partF f ls = (rootsL f.toNat ls, 0) := by unfold partF; rw [if_neg h]
theorem partF_hashes {f : Int} {ls : List (List Int)} (h : hashes ls) : hashes (partF f ls).1 := by
  unfold partF
  split
  · intro x hx; cases hx
  · exact rootsL_hashes _ _ h
set_option maxHeartbeats 2000000 in
theorem part_any (w : World) (hT : Tab w) (f : Int) (hf : -9223372036854775808 ≤ f ∧ f ≤ 9223372036854775807) (LA : Option Addr) (lc : Nat) (ls : List (List Int)) (hl : hashes ls) (hL : HL w w.heap.size LA ls) (hlc : ls.length ≤ lc) (hlm : lc ≤ maxLen) :
    Calls Tryd.prog 22 #[.int .i64 f, .slice LA ls.length lc] w (GivesL w (partF f ls)) := by
  obtain ⟨m, hm⟩ : ∃ m, Hid (m = ls.length) := ⟨_, Lib.hid rfl⟩
  have hmm : m ≤ 9223372036854775807 := by rw [hm.out]; unfold maxLen at hlm; omega
  rw [← hm.out]
  by_cases h1 : f < 0
  · have HF : Hid (partF f ls = ([], 2)) := Lib.hid (partF_no (.inl h1))
    have d1 : decide (f < 0) = true := decide_eq_true h1
    clear hT hl hL hlc hlm
    go_enter Tryd.func22, Tryd.ntmps22
    go_wp2
    go_ret2
    unfold GivesL
    rw [HF.out]
    exact ⟨none, 0, rfl, Nat.le_refl _, by decide, HL.nil _ _ _, Below.refl _ _⟩
  · have d1 : decide (f < 0) = false := decide_eq_false h1
    by_cases h2 : 4096 - f < (m : Int)
    · have HF : Hid (partF f ls = ([], 2)) := Lib.hid (partF_no (.inr (by rw [← hm.out]; exact h2)))
      have d2 : decide (4096 - f < (m : Int)) = true := decide_eq_true h2
      clear hT hl hL hlc hlm
      go_enter Tryd.func22, Tryd.ntmps22
      go_wp2
      go_ret2
      unfold GivesL
      rw [HF.out]
      exact ⟨none, 0, rfl, Nat.le_refl _, by decide, HL.nil _ _ _, Below.refl _ _⟩
    · obtain ⟨F, rfl⟩ : ∃ F : Nat, f = F := ⟨f.toNat, by omega⟩
      have HF : Hid (partF (F : Int) ls = (rootsL F ls, 0)) := Lib.hid (partF_ok (by rw [← hm.out]; omega))
      have d2 : decide (4096 - (F : Int) < (m : Int)) = false := decide_eq_false h2
      obtain ⟨q, hq⟩ : ∃ q, Hid (q = (rootsL F ls).length) := ⟨_, Lib.hid rfl⟩
      have R1 : Hid (Calls Tryd.prog 38 #[.int .i64 (F : Int), .slice LA m lc] w fun e w' => (∃ A' c', e = .returned (.slice A' q c') ∧ q ≤ c' ∧ c' ≤ maxLen ∧ HL w' w'.heap.size A' (rootsL F ls)) ∧ Below w.heap.size w w') := Lib.hid (by
        have := roots_any F ls hl LA lc w hL hT hlc hlm (by rw [← hm.out]; omega)
        rw [← hm.out, ← hq.out] at this
        exact this)
      clear hT hl hL hlc hlm
      go_enter Tryd.func22, Tryd.ntmps22
      go_wp2_with (go_at_call 38; (with_reducible refine R1.out.mono ?_); rintro e w2 ⟨⟨A', c', rfl, h1, h2, h3⟩, hb⟩; have H1 := Lib.hid h1; have H2 := Lib.hid h2; have H3 := Lib.hid h3; have H4 := Lib.hid hb; clear h1 h2 h3 hb)
      go_ret2
      unfold GivesL
      rw [HF.out]
      exact ⟨A', c', by rw [← hq.out]; rfl, by rw [← hq.out]; exact H1.out, H2.out, H3.out, H4.out⟩
/-- A range with parts behind it: its size, its hashes, the error. -/
def mergeF (s : Int) (hs : List (List Int)) (size : Int) (p : List (List Int)) : Int × List (List Int) × Int :=
  if validB s hs.length = true ∧ ¬ size < s ∧ ¬ 4096 < size ∧ p.length = (partsL s.toNat size.toNat).length then (size, pushes (partsL s.toNat size.toNat) p s.toNat hs, 0) else (0, [], 2)
theorem mergeF_no {s : Int} {hs : List (List Int)} {size : Int} {p : List (List Int)} (h : ¬ (validB s hs.length = true ∧ ¬ size < s ∧ ¬ 4096 < size ∧ p.length = (partsL s.toNat size.toNat).length)) : mergeF s hs size p = (0, [], 2) := by unfold mergeF; rw [if_neg h]
theorem mergeF_ok {s : Int} {hs : List (List Int)} {size : Int} {p : List (List Int)} (h : validB s hs.length = true ∧ ¬ size < s ∧ ¬ 4096 < size ∧ p.length = (partsL s.toNat size.toNat).length) : mergeF s hs size p = (size, pushes (partsL s.toNat size.toNat) p s.toNat hs, 0) := by unfold mergeF; rw [if_pos h]
theorem mergeF_hashes {s : Int} {hs : List (List Int)} {size : Int} {p : List (List Int)} (hh : hashes hs) (hp : hashes p) : hashes (mergeF s hs size p).2.1 := by
  unfold mergeF
  split
  · exact pushes_hashes _ _ _ _ hp hh
  · intro x hx; cases hx
set_option maxHeartbeats 8000000 in
theorem merge_any (w : World) (hT : Tab w) (s : Int) (A : Option Addr) (c : Nat) (hs : List (List Int)) (hh : hashes hs) (hA : HL w w.heap.size A hs)
    (size : Int) (PA : Option Addr) (pc : Nat) (p : List (List Int)) (hp : hashes p) (hP : HL w w.heap.size PA p) (hpm : p.length ≤ 9223372036854775807) :
    Calls Tryd.prog 20 #[.agg #[.int .i64 s, .slice A hs.length c], .int .i64 size, .slice PA p.length pc] w (GivesR w (mergeF s hs size p)) := by
  obtain ⟨n, hn⟩ : ∃ n, Hid (n = hs.length) := ⟨_, Lib.hid rfl⟩
  obtain ⟨q, hq⟩ : ∃ q, Hid (q = p.length) := ⟨_, Lib.hid rfl⟩
  have hqm : q ≤ 9223372036854775807 := by rw [hq.out]; exact hpm
  obtain ⟨b, hb⟩ : ∃ b, Hid (b = validB s n) := ⟨_, Lib.hid rfl⟩
  have V1 : Hid (∀ W, Calls Tryd.prog 18 #[.agg #[.int .i64 s, .slice A n c]] W fun e w' => e = .returned (.bool b) ∧ Below W.heap.size W w') := Lib.hid fun W => by
    rw [hb.out]; exact valid_any s A n c W
  rw [← hn.out, ← hq.out]
  have HB := Lib.hid (ExtH.start w s A n c)
  have HT := Lib.hid hT
  have HA := Lib.hid hA
  have HP := Lib.hid hP
  have HH := Lib.hid hh
  have HHp := Lib.hid hp
  clear hT hA hP hh hp hpm
  cases b with
  | false =>
    have HF : Hid (mergeF s hs size p = (0, [], 2)) := Lib.hid (mergeF_no (by rintro ⟨h, _⟩; rw [← hn.out, ← hb.out] at h; cases h))
    go_enter Tryd.func20, Tryd.ntmps20
    go_upto_region 1 with fail
    refine world_gen (fun wx => ExtH w wx s A n c) HB.out (fun wx HX => ?_)
    have HX := Lib.hid HX
    have c0 := HX.out.1.cell 0
    have c1 := HX.out.1.cell 1
    go_wp2_with (go_at_call 18; (with_reducible refine (V1.out _).mono ?_); rintro e w1 ⟨rfl, hb2⟩; have HY := Lib.hid (HX.out.next hb2); clear hb2 c0 c1; have c0 := HY.out.1.cell 0; have d0 := HY.out.2.1.cell 0; have d1 := HY.out.2.1.cell 1; have f0 := HY.out.2.1.free 0; have f1 := HY.out.2.1.free 1)
    have HD := HY.out.done (s' := 0) (A' := none) (k := 0) (c' := 0) (hs := []) ⟨rfl, .inl ⟨rfl, rfl⟩⟩
    have q0 := HD.1.cell 0
    have q1 := HD.1.cell 1
    refine bodyPost_ret (v := .tuple #[.agg #[.int .i64 0, .slice none 0 0], .int .i64 2]) (by simp [results, Tryd.results20, go_sem, q0, q1]) rfl ?_
    unfold GivesR
    rw [HF.out]
    exact ⟨none, 0, rfl, HD.2⟩
  | true =>
    obtain ⟨s0, s1, s2⟩ := validB_ones hb.out.symm
    obtain ⟨S, rfl⟩ : ∃ S : Nat, s = S := ⟨s.toNat, by omega⟩
    have hone : Hid (n = ones S) := Lib.hid (by simpa using s2)
    have HV : Hid (validB (S : Int) hs.length = true) := Lib.hid (by rw [← hn.out]; exact hb.out.symm)
    clear s2
    by_cases h1 : size < (S : Int)
    · have HF : Hid (mergeF (S : Int) hs size p = (0, [], 2)) := Lib.hid (mergeF_no (by rintro ⟨_, h, _⟩; exact h h1))
      have d1 : decide (size < (S : Int)) = true := decide_eq_true h1
      go_enter Tryd.func20, Tryd.ntmps20
      go_upto_region 1 with fail
      refine world_gen (fun wx => ExtH w wx (S : Int) A n c) HB.out (fun wx HX => ?_)
      have HX := Lib.hid HX
      have c0 := HX.out.1.cell 0
      have c1 := HX.out.1.cell 1
      go_wp2_with (go_at_call 18; (with_reducible refine (V1.out _).mono ?_); rintro e w1 ⟨rfl, hb2⟩; have HY := Lib.hid (HX.out.next hb2); clear hb2 c0 c1; have c0 := HY.out.1.cell 0; have d0 := HY.out.2.1.cell 0; have d1 := HY.out.2.1.cell 1; have f0 := HY.out.2.1.free 0; have f1 := HY.out.2.1.free 1)
      have HD := HY.out.done (s' := 0) (A' := none) (k := 0) (c' := 0) (hs := []) ⟨rfl, .inl ⟨rfl, rfl⟩⟩
      have q0 := HD.1.cell 0
      have q1 := HD.1.cell 1
      refine bodyPost_ret (v := .tuple #[.agg #[.int .i64 0, .slice none 0 0], .int .i64 2]) (by simp [results, Tryd.results20, go_sem, q0, q1]) rfl ?_
      unfold GivesR
      rw [HF.out]
      exact ⟨none, 0, rfl, HD.2⟩
    · have d1 : decide (size < (S : Int)) = false := decide_eq_false h1
      by_cases h2 : 4096 < size
      · have HF : Hid (mergeF (S : Int) hs size p = (0, [], 2)) := Lib.hid (mergeF_no (by rintro ⟨_, _, h, _⟩; exact h h2))
        have d2 : decide (4096 < size) = true := decide_eq_true h2
        go_enter Tryd.func20, Tryd.ntmps20
        go_upto_region 1 with fail
        refine world_gen (fun wx => ExtH w wx (S : Int) A n c) HB.out (fun wx HX => ?_)
        have HX := Lib.hid HX
        have c0 := HX.out.1.cell 0
        have c1 := HX.out.1.cell 1
        go_wp2_with (go_at_call 18; (with_reducible refine (V1.out _).mono ?_); rintro e w1 ⟨rfl, hb2⟩; have HY := Lib.hid (HX.out.next hb2); clear hb2 c0 c1; have c0 := HY.out.1.cell 0; have d0 := HY.out.2.1.cell 0; have d1 := HY.out.2.1.cell 1; have f0 := HY.out.2.1.free 0; have f1 := HY.out.2.1.free 1)
        have HD := HY.out.done (s' := 0) (A' := none) (k := 0) (c' := 0) (hs := []) ⟨rfl, .inl ⟨rfl, rfl⟩⟩
        have q0 := HD.1.cell 0
        have q1 := HD.1.cell 1
        refine bodyPost_ret (v := .tuple #[.agg #[.int .i64 0, .slice none 0 0], .int .i64 2]) (by simp [results, Tryd.results20, go_sem, q0, q1]) rfl ?_
        unfold GivesR
        rw [HF.out]
        exact ⟨none, 0, rfl, HD.2⟩
      · have d2 : decide (4096 < size) = false := decide_eq_false h2
        obtain ⟨t, rfl⟩ : ∃ t : Nat, size = t := ⟨size.toNat, by omega⟩
        obtain ⟨q2, hq2⟩ : ∃ q2, Hid (q2 = (partsL S t).length) := ⟨_, Lib.hid rfl⟩
        have hq3 : q2 ≤ 4096 := by rw [hq2.out]; have := partsL_length S t; omega
        have P1 : Hid (∀ W, Calls Tryd.prog 47 #[.int .i64 (S : Int), .int .i64 (t : Int)] W fun e w' => (∃ A c, e = .returned (.slice A q2 c)) ∧ Below W.heap.size W w') := Lib.hid fun W => by
          refine (parts_any S t (by omega) (by omega) W).mono ?_
          rintro e w' ⟨⟨A, c, rfl, _⟩, hb⟩
          exact ⟨⟨A, c, by rw [hq2.out]⟩, hb⟩
        by_cases h3 : q = q2
        · obtain ⟨R, hR⟩ : ∃ R, Hid (R = pushes (partsL S t) p S hs) := ⟨_, Lib.hid rfl⟩
          have HF : Hid (mergeF (S : Int) hs (t : Int) p = ((t : Int), R, 0)) := Lib.hid (by rw [mergeF_ok ⟨HV.out, h1, h2, by rw [← hq.out, h3, hq2.out]; rfl⟩, hR.out]; rfl)
          have M1 : Hid (∀ W, ExtH w W (S : Int) A n c → Calls Tryd.prog 37 #[.agg #[.int .i64 (S : Int), .slice A n c], .int .i64 (t : Int), .slice PA q pc] W fun e w' => ∃ A' c', e = .returned (.agg #[.int .i64 (t : Int), .slice A' R.length c']) ∧ OwnL W w' (.slice A' R.length c') R.length R) := Lib.hid fun W h => by
            have := merged_any W (HT.out.next h.below) S t (by omega) (by omega) A c hs HH.out (by rw [← hn.out]; exact hone.out) (HA.out.from h.below) PA pc p HHp.out (HP.out.from h.below) (by rw [← hq.out, h3, hq2.out])
            rw [← hR.out, ← hn.out, ← hq.out] at this
            exact this
          subst h3
          have d3 : ((q : Int) == (q : Int)) = true := by simp
          have d4 : ((q : Int) != (q : Int)) = false := by simp
          go_enter Tryd.func20, Tryd.ntmps20
          go_upto_region 1 with fail
          refine world_gen (fun wx => ExtH w wx (S : Int) A n c) HB.out (fun wx HX => ?_)
          have HX := Lib.hid HX
          have c0 := HX.out.1.cell 0
          have c1 := HX.out.1.cell 1
          go_wp2_with (first
            | (go_at_call 18; (with_reducible refine (V1.out _).mono ?_); rintro e w1 ⟨rfl, hb2⟩; have HY := Lib.hid (HX.out.next hb2); clear hb2 c0 c1; have c0 := HY.out.1.cell 0; have c1 := HY.out.1.cell 1)
            | (go_at_call 47; (with_reducible refine (P1.out _).mono ?_); rintro e w2 ⟨⟨PA2, pc2, rfl⟩, hb2⟩; have HY2 := Lib.hid (HY.out.next hb2); clear hb2 c0 c1; have c0 := HY2.out.1.cell 0; have c1 := HY2.out.1.cell 1)
            | (go_at_call 37; (with_reducible refine (M1.out _ HY2.out).mono ?_); rintro e w3 ⟨A', c', rfl, ho⟩; have HZ := Lib.hid (HY2.out.next ho.2); have HO := Lib.hid ho; clear ho c0 c1; have d0 := HZ.out.2.1.cell 0; have d1 := HZ.out.2.1.cell 1; have f0 := HZ.out.2.1.free 0; have f1 := HZ.out.2.1.free 1))
          have HD := HZ.out.done (s' := (t : Int)) (own_base HO.out.1 (by have h1 := HY2.out.2.1.lt; omega))
          have q0 := HD.1.cell 0
          have q1 := HD.1.cell 1
          refine bodyPost_ret (v := .tuple #[.agg #[.int .i64 (t : Int), .slice A' R.length c'], .int .i64 0]) (by simp [results, Tryd.results20, go_sem, q0, q1]) rfl ?_
          unfold GivesR
          rw [HF.out]
          exact ⟨A', c', rfl, HD.2⟩
        · have HF : Hid (mergeF (S : Int) hs (t : Int) p = (0, [], 2)) := Lib.hid (mergeF_no (by rintro ⟨_, _, _, h⟩; exact h3 (by rw [hq.out, hq2.out]; exact h)))
          have d3 : ((q : Int) == (q2 : Int)) = false := by simp; omega
          have d4 : ((q : Int) != (q2 : Int)) = true := by simp; omega
          go_enter Tryd.func20, Tryd.ntmps20
          go_upto_region 1 with fail
          refine world_gen (fun wx => ExtH w wx (S : Int) A n c) HB.out (fun wx HX => ?_)
          have HX := Lib.hid HX
          have c0 := HX.out.1.cell 0
          have c1 := HX.out.1.cell 1
          go_wp2_with (first | (go_at_call 18; (with_reducible refine (V1.out _).mono ?_); rintro e w1 ⟨rfl, hb2⟩; have HY := Lib.hid (HX.out.next hb2); clear hb2 c0 c1; have c0 := HY.out.1.cell 0; have d0 := HY.out.2.1.cell 0; have d1 := HY.out.2.1.cell 1; have f0 := HY.out.2.1.free 0; have f1 := HY.out.2.1.free 1) | (go_at_call 47; (with_reducible refine (P1.out _).mono ?_); rintro e w2 ⟨⟨PA2, pc2, rfl⟩, hb2⟩; have HY := Lib.hid (HY.out.next hb2); clear hb2 c0 d0 d1 f0 f1; have d0 := HY.out.2.1.cell 0; have d1 := HY.out.2.1.cell 1; have f0 := HY.out.2.1.free 0; have f1 := HY.out.2.1.free 1))
          have HD := HY.out.done (s' := 0) (A' := none) (k := 0) (c' := 0) (hs := []) ⟨rfl, .inl ⟨rfl, rfl⟩⟩
          have q0 := HD.1.cell 0
          have q1 := HD.1.cell 1
          refine bodyPost_ret (v := .tuple #[.agg #[.int .i64 0, .slice none 0 0], .int .i64 2]) (by simp [results, Tryd.results20, go_sem, q0, q1]) rfl ?_
          unfold GivesR
          rw [HF.out]
          exact ⟨none, 0, rfl, HD.2⟩
end Go.Proofs.YtfakimbneenfdaaDoor
