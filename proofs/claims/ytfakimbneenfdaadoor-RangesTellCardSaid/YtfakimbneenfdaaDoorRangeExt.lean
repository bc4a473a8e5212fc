/-
  The walks of Extend, Of, Append (layer 5): a range with leaves more. Conditions: the two tables as they were laid, lists of hashes in memory. What they make is new memory; nothing that was there changes.
-/
import Derived.Test.YtfakimbneenfdaaDoorListMem
import Derived.Test.YtfakimbneenfdaaDoorRangeMerged
namespace Go.Proofs.YtfakimbneenfdaaDoor
open Go.RowKit
set_option linter.unusedVariables false
set_option maxRecDepth 100000

/-- A range with leaves more: its size, its hashes, the error. -/
def extF (s : Int) (hs ls : List (List Int)) : Int × List (List Int) × Int :=
  if validB s hs.length = false then (0, [], 2) else if 4096 - s < ls.length then (0, [], 60) else (s + ls.length, adds s.toNat hs ls, 0)
theorem extF_arg {s : Int} {hs ls : List (List Int)} (h : validB s hs.length = false) : extF s hs ls = (0, [], 2) := by unfold extF; rw [if_pos h]
theorem extF_full {s : Int} {hs ls : List (List Int)} (h : validB s hs.length = true) (h2 : 4096 - s < ls.length) : extF s hs ls = (0, [], 60) := by unfold extF; rw [if_neg (by simp [h]), if_pos h2]
theorem extF_ok {s : Int} {hs ls : List (List Int)} (h : validB s hs.length = true) (h2 : ¬ 4096 - s < ls.length) : extF s hs ls = (s + ls.length, adds s.toNat hs ls, 0) := by unfold extF; rw [if_neg (by simp [h]), if_neg h2]
theorem extF_hashes {s : Int} {hs ls : List (List Int)} (hh : hashes hs) (hl : hashes ls) : hashes (extF s hs ls).2.1 := by
  unfold extF
  split
  · intro x hx; cases hx
  · split
    · intro x hx; cases hx
    · exact adds_hashes ls _ _ hl hh
/-- A range and an error are returned: in memory of the call's own. -/
def GivesR (w : World) (r : Int × List (List Int) × Int) (e : Ending) (w' : World) : Prop :=
  ∃ A c, e = .returned (.tuple #[.agg #[.int .i64 r.1, .slice A r.2.1.length c], .int .i64 r.2.2]) ∧ OwnL w w' (.slice A r.2.1.length c) r.2.1.length r.2.1
/-- What Extend holds: its range, its result. -/
def ExtH (w wr : World) (s : Int) (A : Option Addr) (n c : Nat) : Prop := Row wr w.heap.size 24 #[.int .i64 s, .slice A n c] ∧ Row wr (w.heap.size + 1) 24 #[.int .i64 0, .slice none 0 0] ∧ Below w.heap.size w wr
theorem ExtH.start (w : World) (s : Int) (A : Option Addr) (n c : Nat) : ExtH w ((w.alloc (.cells #[.int .i64 s, .slice A n c] 24)).alloc (.cells #[.int .i64 0, .slice none 0 0] 24)) s A n c :=
  ⟨(Row.made _ _ _).alloc _, Row.made2 _ _ _ _, ((Below.refl _ _).alloc (Nat.le_refl _) _).alloc (by simp) _⟩
theorem ExtH.next {w wr w1 : World} {s : Int} {A : Option Addr} {n c : Nat} (h : ExtH w wr s A n c) (hb : Below wr.heap.size wr w1) : ExtH w w1 s A n c := ⟨h.1.next hb, h.2.1.next hb, below_new h.2.2 hb⟩
theorem ExtH.drew {w wr : World} {s : Int} {A : Option Addr} {n c : Nat} (h : ExtH w wr s A n c) : ExtH w wr.drew s A n c := ⟨h.1.drew, h.2.1.drew, h.2.2.drew⟩
theorem ExtH.below {w wr : World} {s : Int} {A : Option Addr} {n c : Nat} (h : ExtH w wr s A n c) : Below w.heap.size w wr := h.2.2
/-- The result is written. -/
theorem ExtH.done {w wr : World} {s s' : Int} {A A' : Option Addr} {n c k c' : Nat} {hs : List (List Int)} (h : ExtH w wr s A n c) (ho : wr.ownsRow (w.heap.size + 2) 31 32 (.slice A' k c') k (cellsL hs)) :
    Row ((wr.setCell ⟨w.heap.size + 1, 0, none⟩ (.int .i64 s')).setCell ⟨w.heap.size + 1, 1, none⟩ (.slice A' k c')) (w.heap.size + 1) 24 #[.int .i64 s', .slice A' k c'] ∧
    OwnL w ((wr.setCell ⟨w.heap.size + 1, 0, none⟩ (.int .i64 s')).setCell ⟨w.heap.size + 1, 1, none⟩ (.slice A' k c')) (.slice A' k c') k hs := by
  refine ⟨(h.2.1.put 0 _).put 1 _, own_base (own_at ho (fun b hb _ => (Below.heap_setCell _ _ _ b (by show b ≠ w.heap.size + 1; omega)).trans (Below.heap_setCell _ _ _ b (by show b ≠ w.heap.size + 1; omega)))) (by omega), ?_⟩
  exact (h.2.2.setCell (by show w.heap.size ≤ w.heap.size + 1; omega) _).setCell (by show w.heap.size ≤ w.heap.size + 1; omega) _
set_option maxHeartbeats 8000000 in
theorem extend_any (w : World) (hT : Tab w) (s : Int) (hs64 : -9223372036854775808 ≤ s ∧ s ≤ 9223372036854775807) (A : Option Addr) (c : Nat) (hs : List (List Int)) (hh : hashes hs) (hA : HL w w.heap.size A hs)
    (LA : Option Addr) (lc : Nat) (ls : List (List Int)) (hl : hashes ls) (hL : HL w w.heap.size LA ls) (hlc : ls.length ≤ lc) (hlm : lc ≤ maxLen) :
    Calls Tryd.prog 13 #[.agg #[.int .i64 s, .slice A hs.length c], .slice LA ls.length lc] w (GivesR w (extF s hs ls)) := by
  obtain ⟨n, hn⟩ : ∃ n, Hid (n = hs.length) := ⟨_, Lib.hid rfl⟩
  obtain ⟨m, hm⟩ : ∃ m, Hid (m = ls.length) := ⟨_, Lib.hid rfl⟩
  have hlm2 := hlm
  unfold maxLen at hlm2
  have hmm : m ≤ 9223372036854775807 := by rw [hm.out]; omega
  have HLc := Lib.hid hlc
  have HLm := Lib.hid hlm
  obtain ⟨b, hb⟩ : ∃ b, Hid (b = validB s n) := ⟨_, Lib.hid rfl⟩
  have V1 : Hid (∀ W, Calls Tryd.prog 18 #[.agg #[.int .i64 s, .slice A n c]] W fun e w' => e = .returned (.bool b) ∧ Below W.heap.size W w') := Lib.hid fun W => by
    rw [hb.out]; exact valid_any s A n c W
  rw [← hn.out, ← hm.out]
  have HB := Lib.hid (ExtH.start w s A n c)
  have HT := Lib.hid hT
  have HA := Lib.hid hA
  have HL1 := Lib.hid hL
  have HH := Lib.hid hh
  have HHl := Lib.hid hl
  clear hT hA hL hh hl hlc hlm hlm2
  cases b with
  | false =>
    have HF : Hid (extF s hs ls = (0, [], 2)) := Lib.hid (extF_arg (by rw [← hn.out]; exact hb.out.symm))
    go_enter Tryd.func13, Tryd.ntmps13
    go_upto_region 1 with fail
    refine world_gen (fun wx => ExtH w wx s A n c) HB.out (fun wx HX => ?_)
    have HX := Lib.hid HX
    have c0 := HX.out.1.cell 0
    have c1 := HX.out.1.cell 1
    go_wp2_with (go_at_call 18; (with_reducible refine (V1.out _).mono ?_); rintro e w1 ⟨rfl, hb2⟩; have HY := Lib.hid (HX.out.next hb2); clear hb2 c0 c1; have c0 := HY.out.1.cell 0; have d0 := HY.out.2.1.cell 0; have d1 := HY.out.2.1.cell 1; have f0 := HY.out.2.1.free 0; have f1 := HY.out.2.1.free 1)
    have HD := HY.out.done (s' := 0) (A' := none) (k := 0) (c' := 0) (hs := []) ⟨rfl, .inl ⟨rfl, rfl⟩⟩
    have q0 := HD.1.cell 0
    have q1 := HD.1.cell 1
    refine bodyPost_ret (v := .tuple #[.agg #[.int .i64 0, .slice none 0 0], .int .i64 2]) (by simp [results, Tryd.results13, go_sem, q0, q1]) rfl ?_
    unfold GivesR
    rw [HF.out]
    exact ⟨none, 0, rfl, HD.2⟩
  | true =>
    obtain ⟨s0, s1, s2⟩ := validB_ones hb.out.symm
    obtain ⟨S, rfl⟩ : ∃ S : Nat, s = S := ⟨s.toNat, by omega⟩
    have hone : Hid (n = ones S) := Lib.hid (by simpa using s2)
    have HV : Hid (validB (S : Int) hs.length = true) := Lib.hid (by rw [← hn.out]; exact hb.out.symm)
    clear s2
    by_cases hfull : 4096 - (S : Int) < (m : Int)
    · have HF : Hid (extF (S : Int) hs ls = (0, [], 60)) := Lib.hid (extF_full HV.out (by rw [← hm.out]; exact hfull))
      go_enter Tryd.func13, Tryd.ntmps13
      go_upto_region 1 with fail
      refine world_gen (fun wx => ExtH w wx (S : Int) A n c) HB.out (fun wx HX => ?_)
      have HX := Lib.hid HX
      have c0 := HX.out.1.cell 0
      have c1 := HX.out.1.cell 1
      go_wp2_with (go_at_call 18; (with_reducible refine (V1.out _).mono ?_); rintro e w1 ⟨rfl, hb2⟩; have HY := Lib.hid (HX.out.next hb2); clear hb2 c0 c1; have c0 := HY.out.1.cell 0; have d0 := HY.out.2.1.cell 0; have d1 := HY.out.2.1.cell 1; have f0 := HY.out.2.1.free 0; have f1 := HY.out.2.1.free 1)
      have HD := HY.out.done (s' := 0) (A' := none) (k := 0) (c' := 0) (hs := []) ⟨rfl, .inl ⟨rfl, rfl⟩⟩
      have q0 := HD.1.cell 0
      have q1 := HD.1.cell 1
      refine bodyPost_ret (v := .tuple #[.agg #[.int .i64 0, .slice none 0 0], .int .i64 60]) (by simp [results, Tryd.results13, go_sem, q0, q1]) rfl ?_
      unfold GivesR
      rw [HF.out]
      exact ⟨none, 0, rfl, HD.2⟩
    · obtain ⟨t, ht⟩ : ∃ t : Nat, Hid (t = S + m) := ⟨_, Lib.hid rfl⟩
      have e4 : (S : Int) + (m : Int) = (t : Int) := by rw [ht.out]; omega
      have ht2 : t ≤ 4096 := by rw [ht.out]; omega
      have hwt : IntKind.i64.wrap (t : Int) = (t : Int) := by rw [IntKind.wrap_i64]; omega
      obtain ⟨R, hR⟩ : ∃ R, Hid (R = adds S hs ls) := ⟨_, Lib.hid rfl⟩
      have HF : Hid (extF (S : Int) hs ls = ((t : Int), R, 0)) := Lib.hid (by rw [extF_ok HV.out (by rw [← hm.out]; exact hfull), ← hm.out, e4, hR.out]; rfl)
      obtain ⟨q, hq⟩ : ∃ q, Hid (q = (rootsL S ls).length) := ⟨_, Lib.hid rfl⟩
      have R1 : Hid (∀ W, ExtH w W (S : Int) A n c → Calls Tryd.prog 38 #[.int .i64 (S : Int), .slice LA m lc] W fun e w' => (∃ A' c', e = .returned (.slice A' q c') ∧ HL w' w'.heap.size A' (rootsL S ls)) ∧ Below W.heap.size W w') := Lib.hid fun W h => by
        have := roots_any S ls HHl.out LA lc W (HL1.out.from h.below) (HT.out.next h.below) HLc.out HLm.out (by rw [← hm.out]; omega)
        rw [← hm.out, ← hq.out] at this
        refine this.mono ?_
        rintro e w' ⟨⟨A', c', rfl, _, _, h4⟩, hb⟩
        exact ⟨⟨A', c', rfl, h4⟩, hb⟩
      have M1 : Hid (∀ W PA pc, ExtH w W (S : Int) A n c → HL W W.heap.size PA (rootsL S ls) → Calls Tryd.prog 37 #[.agg #[.int .i64 (S : Int), .slice A n c], .int .i64 (t : Int), .slice PA q pc] W fun e w' => ∃ A' c', e = .returned (.agg #[.int .i64 (t : Int), .slice A' R.length c']) ∧ OwnL W w' (.slice A' R.length c') R.length R) := Lib.hid fun W PA pc h hP => by
        have := merged_any W (HT.out.next h.below) S t (by rw [ht.out]; omega) ht2 A c hs HH.out (by rw [← hn.out]; exact hone.out) (HA.out.from h.below) PA pc (rootsL S ls) (rootsL_hashes S ls HHl.out) hP (by rw [rootsL_length, ← hm.out, ← ht.out])
        rw [show pushes (partsL S t) (rootsL S ls) S hs = R by rw [hR.out, ht.out, hm.out]; exact pushes_parts _ S hs ls rfl, ← hn.out, ← hq.out] at this
        exact this
      go_enter Tryd.func13, Tryd.ntmps13
      go_upto_region 1 with fail
      refine world_gen (fun wx => ExtH w wx (S : Int) A n c) HB.out (fun wx HX => ?_)
      have HX := Lib.hid HX
      have c0 := HX.out.1.cell 0
      have c1 := HX.out.1.cell 1
      go_upto_region 5 with (go_at_call 18; (with_reducible refine (V1.out _).mono ?_); rintro e w1 ⟨rfl, hb2⟩; have HY := Lib.hid (HX.out.next hb2); clear hb2 c0 c1; have c0 := HY.out.1.cell 0; have d0 := HY.out.2.1.cell 0; have d1 := HY.out.2.1.cell 1; have f0 := HY.out.2.1.free 0; have f1 := HY.out.2.1.free 1)
      clear c0 d0 d1 f0 f1 HX
      have HX := Lib.hid HY.out.drew
      have c0 : w1.drew.cell? ⟨w.heap.size, 0, none⟩ = some (.int .i64 (S : Int)) := HX.out.1.cell 0
      have c1 : w1.drew.cell? ⟨w.heap.size, 1, none⟩ = some (.slice A n c) := HX.out.1.cell 1
      clear HY
      go_region_with (first
        | (go_at_call 38; (with_reducible refine (R1.out _ HX.out).mono ?_); rintro e w2 ⟨⟨PA, pc, rfl, hP⟩, hb⟩; have HY := Lib.hid (HX.out.next hb); have HPP := Lib.hid hP; clear hb hP c0 c1; have c0 := HY.out.1.cell 0; have c1 := HY.out.1.cell 1)
        | (go_at_call 37; (with_reducible refine (M1.out _ _ _ HY.out HPP.out).mono ?_); rintro e w3 ⟨A', c', rfl, ho⟩; have HZ := Lib.hid (HY.out.next ho.2); have HO := Lib.hid ho; clear ho c0 c1; have d0 := HZ.out.2.1.cell 0; have d1 := HZ.out.2.1.cell 1; have f0 := HZ.out.2.1.free 0; have f1 := HZ.out.2.1.free 1))
      all_goals
        go_wp2
        have HD := HZ.out.done (s' := (t : Int)) (own_base HO.out.1 (by have h1 := HY.out.2.1.lt; omega))
        have q0 := HD.1.cell 0
        have q1 := HD.1.cell 1
        refine bodyPost_ret (v := .tuple #[.agg #[.int .i64 (t : Int), .slice A' R.length c'], .int .i64 0]) (by simp [results, Tryd.results13, go_sem, q0, q1]) rfl ?_
        unfold GivesR
        rw [HF.out]
        exact ⟨A', c', rfl, HD.2⟩
end Go.Proofs.YtfakimbneenfdaaDoor
