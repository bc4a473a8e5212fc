/-
  The walks of Valid (layer 5), of the document's, and of the statements' own Great: whether a range may be; what they make is new memory, nothing that was there changes.
-/
import Derived.Test.YtfakimbneenfdaaDoorTreeSome
import Derived.Test.YtfakimbneenfdaaDoorOnes
import Derived.Test.YtfakimbneenfdaaDoorRangeMath
import Derived.Deep.QuietTactic
import Derived.BigQuiet
namespace Go.Proofs.YtfakimbneenfdaaDoor
open Go.RowKit
set_option linter.unusedVariables false
set_option maxRecDepth 100000

/-- A range's cells. -/
def rgC (s : Int) (A : Option Addr) (n c : Nat) : Array Value := #[.int .i64 s, .slice A n c]
def validB (s : Int) (n : Nat) : Bool := decide (0 ≤ s ∧ s ≤ 4096 ∧ n = ones s.toNat)
theorem validB_ones {s : Int} {n : Nat} (h : validB s n = true) : 0 ≤ s ∧ s ≤ 4096 ∧ n = ones s.toNat := by simpa [validB] using h
theorem validB_no {s : Int} {n : Nat} (h : ¬ (0 ≤ s ∧ s ≤ 4096 ∧ n = ones s.toNat)) : validB s n = false := by simpa [validB] using h
theorem validB_yes {s : Int} {n : Nat} (h : 0 ≤ s ∧ s ≤ 4096 ∧ n = ones s.toNat) : validB s n = true := by simpa [validB] using h
theorem ones_is (s : Int) (h : s ≤ 4096) (w : World) (h0 : 0 ≤ s) : Calls Tryd.prog 45 #[.int .i64 s] w fun e w' => e = .returned (.int .i64 (ones s.toNat : Nat)) ∧ w = w' := by
  rw [← ones_popF 64 s.toNat (by omega)]
  exact ones_any s w (by omega)
theorem refOnes_is (s : Int) (h : s ≤ 4096) (w : World) (h0 : 0 ≤ s) : Calls Tryd.prog 46 #[.int .i64 s] w fun e w' => e = .returned (.int .i64 (ones s.toNat : Nat)) ∧ w = w' := by
  rw [← ones_popF 64 s.toNat (by omega)]
  exact refOnes_any s w (by omega)
set_option maxHeartbeats 1000000 in
theorem valid_any (s : Int) (A : Option Addr) (n c : Nat) (w : World) :
    Calls Tryd.prog 18 #[.agg #[.int .i64 s, .slice A n c]] w fun e w' => e = .returned (.bool (validB s n)) ∧ Below w.heap.size w w' := by
  by_cases h1 : 0 ≤ s
  · by_cases h2 : s ≤ 4096
    · obtain ⟨m, hm⟩ : ∃ m, Hid (m = ones s.toNat) := ⟨_, Lib.hid rfl⟩
      have S1 : Hid (∀ W, Calls Tryd.prog 45 #[.int .i64 s] W fun e w' => e = .returned (.int .i64 (m : Int)) ∧ W = w') := Lib.hid fun W => by rw [hm.out]; exact ones_is s h2 W h1
      have d1 : decide (0 ≤ s) = true := decide_eq_true h1
      have d2 : decide (s ≤ 4096) = true := decide_eq_true h2
      obtain ⟨b, hb⟩ : ∃ b, Hid (b = validB s n) := ⟨_, Lib.hid rfl⟩
      have e1 : ((n : Int) == (m : Int)) = b := by
        rw [hb.out]
        have := hm.out
        by_cases e : n = m
        · subst e; rw [validB_yes ⟨h1, h2, this⟩]; simp
        · rw [validB_no (by omega)]; simp; omega
      rw [← hb.out]
      go_enter Tryd.func18, Tryd.ntmps18
      go_upto_region 1 with fail
      refine world_gen (fun wx => Row wx w.heap.size 24 #[.int .i64 s, .slice A n c] ∧ Below w.heap.size w wx) ⟨Row.made _ _ _, (Below.refl _ _).alloc (Nat.le_refl _) _⟩ (fun wx H0 => ?_)
      have H0 := Lib.hid H0
      have c0 := H0.out.1.cell 0
      have c1 := H0.out.1.cell 1
      go_quiet ((go_at_call 45; (with_reducible exact still (S1.out _))))
      go_wp2
      go_ret
      exact ⟨rfl, below_drewN H0.out.2 _⟩
    · have d1 : decide (0 ≤ s) = true := decide_eq_true h1
      have d2 : decide (s ≤ 4096) = false := decide_eq_false h2
      have e1 : Hid (validB s n = false) := Lib.hid (validB_no (by omega))
      rw [e1.out]
      go_enter Tryd.func18, Tryd.ntmps18
      go_upto_region 1 with fail
      refine world_gen (fun wx => Row wx w.heap.size 24 #[.int .i64 s, .slice A n c] ∧ Below w.heap.size w wx) ⟨Row.made _ _ _, (Below.refl _ _).alloc (Nat.le_refl _) _⟩ (fun wx H0 => ?_)
      have H0 := Lib.hid H0
      have c0 := H0.out.1.cell 0
      have c1 := H0.out.1.cell 1
      go_quiet (fail)
      go_wp2
      go_ret
      exact ⟨rfl, below_drewN H0.out.2 _⟩
  · have d1 : decide (0 ≤ s) = false := decide_eq_false h1
    have e1 : Hid (validB s n = false) := Lib.hid (validB_no (by omega))
    rw [e1.out]
    go_enter Tryd.func18, Tryd.ntmps18
    go_upto_region 1 with fail
    refine world_gen (fun wx => Row wx w.heap.size 24 #[.int .i64 s, .slice A n c] ∧ Below w.heap.size w wx) ⟨Row.made _ _ _, (Below.refl _ _).alloc (Nat.le_refl _) _⟩ (fun wx H0 => ?_)
    have H0 := Lib.hid H0
    have c0 := H0.out.1.cell 0
    have c1 := H0.out.1.cell 1
    go_quiet (fail)
    go_wp2
    go_ret
    exact ⟨rfl, below_drewN H0.out.2 _⟩
set_option maxHeartbeats 1000000 in
theorem refValid_any (s : Int) (A : Option Addr) (n c : Nat) (w : World) :
    Calls Tryd.prog 19 #[.agg #[.int .i64 s, .slice A n c]] w fun e w' => e = .returned (.bool (validB s n)) ∧ Below w.heap.size w w' := by
  by_cases h1 : 0 ≤ s
  · by_cases h2 : s ≤ 4096
    · obtain ⟨m, hm⟩ : ∃ m, Hid (m = ones s.toNat) := ⟨_, Lib.hid rfl⟩
      have S1 : Hid (∀ W, Calls Tryd.prog 46 #[.int .i64 s] W fun e w' => e = .returned (.int .i64 (m : Int)) ∧ W = w') := Lib.hid fun W => by rw [hm.out]; exact refOnes_is s h2 W h1
      have d1 : decide (0 ≤ s) = true := decide_eq_true h1
      have d2 : decide (s ≤ 4096) = true := decide_eq_true h2
      obtain ⟨b, hb⟩ : ∃ b, Hid (b = validB s n) := ⟨_, Lib.hid rfl⟩
      have e1 : ((n : Int) == (m : Int)) = b := by
        rw [hb.out]
        have := hm.out
        by_cases e : n = m
        · subst e; rw [validB_yes ⟨h1, h2, this⟩]; simp
        · rw [validB_no (by omega)]; simp; omega
      rw [← hb.out]
      go_enter Tryd.func19, Tryd.ntmps19
      go_upto_region 1 with fail
      refine world_gen (fun wx => Row wx w.heap.size 24 #[.int .i64 s, .slice A n c] ∧ Below w.heap.size w wx) ⟨Row.made _ _ _, (Below.refl _ _).alloc (Nat.le_refl _) _⟩ (fun wx H0 => ?_)
      have H0 := Lib.hid H0
      have c0 := H0.out.1.cell 0
      have c1 := H0.out.1.cell 1
      go_quiet ((go_at_call 46; (with_reducible exact still (S1.out _))))
      go_wp2
      go_ret
      exact ⟨rfl, below_drewN H0.out.2 _⟩
    · have d1 : decide (0 ≤ s) = true := decide_eq_true h1
      have d2 : decide (s ≤ 4096) = false := decide_eq_false h2
      have e1 : Hid (validB s n = false) := Lib.hid (validB_no (by omega))
      rw [e1.out]
      go_enter Tryd.func19, Tryd.ntmps19
      go_upto_region 1 with fail
      refine world_gen (fun wx => Row wx w.heap.size 24 #[.int .i64 s, .slice A n c] ∧ Below w.heap.size w wx) ⟨Row.made _ _ _, (Below.refl _ _).alloc (Nat.le_refl _) _⟩ (fun wx H0 => ?_)
      have H0 := Lib.hid H0
      have c0 := H0.out.1.cell 0
      have c1 := H0.out.1.cell 1
      go_quiet (fail)
      go_wp2
      go_ret
      exact ⟨rfl, below_drewN H0.out.2 _⟩
  · have d1 : decide (0 ≤ s) = false := decide_eq_false h1
    have e1 : Hid (validB s n = false) := Lib.hid (validB_no (by omega))
    rw [e1.out]
    go_enter Tryd.func19, Tryd.ntmps19
    go_upto_region 1 with fail
    refine world_gen (fun wx => Row wx w.heap.size 24 #[.int .i64 s, .slice A n c] ∧ Below w.heap.size w wx) ⟨Row.made _ _ _, (Below.refl _ _).alloc (Nat.le_refl _) _⟩ (fun wx H0 => ?_)
    have H0 := Lib.hid H0
    have c0 := H0.out.1.cell 0
    have c1 := H0.out.1.cell 1
    go_quiet (fail)
    go_wp2
    go_ret
    exact ⟨rfl, below_drewN H0.out.2 _⟩
theorem great_any (s : Int) (A : Option Addr) (n c : Nat) (hn : n ≤ 9223372036854775807) (w : World) :
    Calls Tryd.prog 11 #[.agg #[.int .i64 s, .slice A n c]] w fun e w' => e = .returned (.bool (decide (100 < n))) ∧ Below w.heap.size w w' := by
  obtain ⟨b, hb⟩ : ∃ b, Hid (b = decide (100 < n)) := ⟨_, Lib.hid rfl⟩
  have d1 : decide (100 < (n : Int)) = b := by rw [hb.out]; congr 1; exact propext ⟨fun h => by omega, fun h => by omega⟩
  rw [← hb.out]
  go_enter Tryd.func11, Tryd.ntmps11
  go_upto_region 1 with fail
  refine world_gen (fun wx => Row wx w.heap.size 24 #[.int .i64 s, .slice A n c] ∧ Below w.heap.size w wx) ⟨Row.made _ _ _, (Below.refl _ _).alloc (Nat.le_refl _) _⟩ (fun wx H0 => ?_)
  have H0 := Lib.hid H0
  have c0 := H0.out.1.cell 0
  have c1 := H0.out.1.cell 1
  go_wp2
  go_ret
  exact ⟨rfl, H0.out.2⟩
end Go.Proofs.YtfakimbneenfdaaDoor
