/-
  The walk of Same (the statements' own, layer 3): whether two lists of hashes are the same. Condition: two lists in memory.
-/
import Derived.Test.YtllabnhgiojmmaaDoorListMem
namespace Go.Proofs.YtllabnhgiojmmaaDoor
open Go.RowKit Go.Great
set_option linter.unusedVariables false
set_option maxRecDepth 100000

theorem take_same {ls ms : List (List Int)} {k : Nat} (h : ls.take k = ms.take k) (h1 : k < ls.length) (h2 : k < ms.length) (h3 : ls.getD k [] = ms.getD k []) : ls.take (k + 1) = ms.take (k + 1) := by
  rw [List.take_succ_eq_append_getElem h1, List.take_succ_eq_append_getElem h2, h]
  rw [List.getD_eq_getElem?_getD, List.getD_eq_getElem?_getD, List.getElem?_eq_getElem h1, List.getElem?_eq_getElem h2] at h3
  simp only [Option.getD_some] at h3
  rw [h3]
theorem same_all {ls ms : List (List Int)} (h : ls.take ls.length = ms.take ls.length) (h1 : ls.length = ms.length) : ls = ms := by
  rw [List.take_of_length_le (Nat.le_refl _), List.take_of_length_le (by omega)] at h
  exact h
theorem same_not {ls ms : List (List Int)} {k : Nat} (h3 : ¬ ls.getD k [] = ms.getD k []) : ¬ ls = ms := fun e => h3 (by rw [e])
attribute [local go_sem ↓ high] read_at neq_at
set_option maxHeartbeats 4000000 in
theorem lsame_any (ls ms : List (List Int)) (hl : hashes ls) (hm : hashes ms) (h63 : ls.length ≤ 9223372036854775807) (h64 : ms.length ≤ 9223372036854775807) (A B : Option Addr) (c d : Nat) (w : World) (hA : HL w w.heap.size A ls) (hB : HL w w.heap.size B ms) :
    Calls Tryd.prog 16 #[.slice A ls.length c, .slice B ms.length d] w fun e w' => e = .returned (.bool (decide (ls = ms))) ∧ ∃ k, w' = w.drewN k := by
  obtain ⟨n, hn⟩ : ∃ n, Hid (n = ls.length) := ⟨_, Lib.hid rfl⟩
  obtain ⟨m, hmm⟩ : ∃ m, Hid (m = ms.length) := ⟨_, Lib.hid rfl⟩
  rw [← hn.out] at h63 ⊢
  rw [← hmm.out] at h64 ⊢
  have HA := Lib.hid hA
  have HB := Lib.hid hB
  clear hA hB
  by_cases hnm : n = m
  · have HNM : Hid (ls.length = ms.length) := Lib.hid (by rw [← hn.out, ← hmm.out]; exact hnm)
    subst hnm
    have d1 : ((n : Int) != (n : Int)) = false := by simp
    have d2 : ((n : Int) == (n : Int)) = true := by simp
    obtain ⟨b, hb⟩ : ∃ b, Hid (b = decide (ls = ms)) := ⟨_, Lib.hid rfl⟩
    rw [← hb.out]
    go_enter Tryd.func16, Tryd.ntmps16
    go_wp2
    go_loopw [5] (fun s13 wr => ∃ k q : Nat, k ≤ n ∧ s13 = .int .i64 (k : Int) ∧ wr = w.drewN q ∧ Hid (ls.take k = ms.take k)) (fun s13 _ => (n - intOf s13).toNat)
    case atStart => exact ⟨0, 0, by omega, rfl, rfl, Lib.hid rfl⟩
    case round =>
      obtain ⟨k, q, hk, rfl, rfl, HK⟩ := hrel
      by_cases hlt : k < n
      · obtain ⟨ad, rfl⟩ := HA.out.some k (by rw [← hn.out]; exact hlt)
        obtain ⟨bd, rfl⟩ := HB.out.some k (by rw [← hmm.out]; exact hlt)
        have s1 := fun p => (HA.out.next (below_drewN (Below.refl _ w) p) (Nat.le_refl _)).read hl k (by rw [← hn.out]; exact hlt)
        have s2 := fun p => (HB.out.next (below_drewN (Below.refl _ w) p) (Nat.le_refl _)).read hm k (by rw [← hmm.out]; exact hlt)
        obtain ⟨l, hll⟩ : ∃ l, Hid (l = ls.getD k []) := ⟨_, Lib.hid rfl⟩
        obtain ⟨l2, hl2⟩ : ∃ l, Hid (l = ms.getD k []) := ⟨_, Lib.hid rfl⟩
        rw [← hll.out] at s1
        rw [← hl2.out] at s2
        have i1 := hashes_at hl k (by rw [← hn.out]; exact hlt)
        have i2 := hashes_at hm k (by rw [← hmm.out]; exact hlt)
        rw [← hll.out] at i1
        rw [← hl2.out] at i2
        by_cases he : l = l2
        · have N1 := fun W => (neqAt_hash l l2 i1.1 i2.1 i1.2 i2.2 W).trans (by rw [decide_eq_true he]; try rfl)
          have HN : Hid (ls.take (k + 1) = ms.take (k + 1)) := Lib.hid (take_same HK.out (by rw [← hn.out]; exact hlt) (by rw [← hmm.out]; exact hlt) (by rw [← hll.out, ← hl2.out]; exact he))
          clear i1 i2 he
          go_wp2
          go_quiet (fail)
          go_wp2
          go_roundw
          case rel => exact ⟨k + 1, _, by omega, by go_num, rfl, HN⟩
          case measure => simp [intOf]; omega
        · have N1 := fun W => (neqAt_hash l l2 i1.1 i2.1 i1.2 i2.2 W).trans (by rw [decide_eq_false he]; try rfl)
          have HN : Hid (b = false) := Lib.hid (by rw [hb.out]; exact decide_eq_false (same_not (by rw [← hll.out, ← hl2.out]; exact he)))
          clear i1 i2 he
          go_wp2
          go_quiet (fail)
          go_wp2
          go_ret
          exact ⟨by rw [HN.out]; rfl, q + nq, World.drewN_drewN _ _ _⟩
      · have hk9 : Hid (k = n) := Lib.hid (by omega)
        have HN : Hid (b = true) := Lib.hid (by rw [hb.out]; exact decide_eq_true (same_all (by have := HK.out; rw [hk9.out, hn.out] at this; exact this) HNM.out))
        go_wp2
        go_ret
        exact ⟨by rw [HN.out]; rfl, _, rfl⟩
  · have d1 : ((n : Int) != (m : Int)) = true := by simp; omega
    have d2 : ((n : Int) == (m : Int)) = false := by simp; omega
    have HN : Hid (decide (ls = ms) = false) := Lib.hid (decide_eq_false (fun e => hnm (by rw [hn.out, hmm.out, e])))
    go_enter Tryd.func16, Tryd.ntmps16
    go_wp2
    go_ret
    exact ⟨by rw [HN.out]; rfl, 0, rfl⟩
end Go.Proofs.YtllabnhgiojmmaaDoor
