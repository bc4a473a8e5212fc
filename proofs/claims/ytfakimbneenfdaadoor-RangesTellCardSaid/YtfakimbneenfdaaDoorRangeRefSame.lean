/-
  The walk of the document's Same of ranges (layer 5). Conditions: lists of hashes in memory. What it makes is new memory; nothing that was there changes.
-/
import Derived.Test.YtfakimbneenfdaaDoorRangeSame
namespace Go.Proofs.YtfakimbneenfdaaDoor
open Go.RowKit
set_option linter.unusedVariables false
set_option maxRecDepth 100000

attribute [local go_sem ↓ high] read_at neq_at
set_option maxHeartbeats 4000000 in
theorem refSame_any (w : World) (s s2 : Int) (A B : Option Addr) (c d : Nat) (ls ms : List (List Int)) (hl : hashes ls) (hm : hashes ms) (h63 : ls.length ≤ 9223372036854775807) (h64 : ms.length ≤ 9223372036854775807) (hA : HL w w.heap.size A ls) (hB : HL w w.heap.size B ms) :
    Calls Tryd.prog 17 #[.agg #[.int .i64 s, .slice A ls.length c], .agg #[.int .i64 s2, .slice B ms.length d]] w fun e w' => e = .returned (.bool (sameB s ls s2 ms)) ∧ Below w.heap.size w w' := by
  obtain ⟨n, hn⟩ : ∃ n, Hid (n = ls.length) := ⟨_, Lib.hid rfl⟩
  obtain ⟨m, hmm⟩ : ∃ m, Hid (m = ms.length) := ⟨_, Lib.hid rfl⟩
  rw [← hn.out] at h63 ⊢
  rw [← hmm.out] at h64 ⊢
  have HA := Lib.hid hA
  have HB := Lib.hid hB
  obtain ⟨b, hb⟩ : ∃ b, Hid (b = sameB s ls s2 ms) := ⟨_, Lib.hid rfl⟩
  rw [← hb.out]
  have HW := Lib.hid (SameH.start w s A n c s2 B m d)
  clear hA hB
  by_cases hs : s = s2
  · by_cases hnm : n = m
    · have HNM : Hid (ls.length = ms.length) := Lib.hid (by rw [← hn.out, ← hmm.out]; exact hnm)
      subst hnm
      subst hs
      have hb' : Hid (b = decide (ls = ms)) := Lib.hid (by rw [hb.out]; unfold sameB; simp)
      have d1 : ((n : Int) != (n : Int)) = false := by simp
      have d2 : ((n : Int) == (n : Int)) = true := by simp
      have d3 : (s != s) = false := by simp
      have d4 : (s == s) = true := by simp
      go_enter Tryd.func17, Tryd.ntmps17
      go_upto_region 1 with fail
      refine world_gen (fun wx => SameH w wx s A n c s B n d) HW.out (fun wx HX => ?_)
      have HX := Lib.hid HX
      have c0 := HX.out.1.cell 0
      have c1 := HX.out.1.cell 1
      have c2 := HX.out.2.1.cell 0
      have c3 := HX.out.2.1.cell 1
      have HBX := Lib.hid HX.out.2.2
      go_wp2
      go_loopw [5] (fun s5 wr => ∃ k q : Nat, k ≤ n ∧ s5 = .int .i64 (k : Int) ∧ wr = wx.drewN q ∧ Hid (ls.take k = ms.take k)) (fun s5 _ => (n - intOf s5).toNat)
      case atStart => exact ⟨0, 0, by omega, rfl, rfl, Lib.hid rfl⟩
      case round =>
        obtain ⟨k, q, hk, rfl, rfl, HK⟩ := hrel
        by_cases hlt : k < n
        · obtain ⟨ad, rfl⟩ := HA.out.some k (by rw [← hn.out]; exact hlt)
          obtain ⟨bd, rfl⟩ := HB.out.some k (by rw [← hmm.out]; exact hlt)
          have s1 := fun p => (HA.out.next (below_drewN HBX.out p) (Nat.le_refl _)).read hl k (by rw [← hn.out]; exact hlt)
          have s2 := fun p => (HB.out.next (below_drewN HBX.out p) (Nat.le_refl _)).read hm k (by rw [← hmm.out]; exact hlt)
          obtain ⟨l, hll⟩ : ∃ l, Hid (l = ls.getD k []) := ⟨_, Lib.hid rfl⟩
          obtain ⟨l2, hl2⟩ : ∃ l, Hid (l = ms.getD k []) := ⟨_, Lib.hid rfl⟩
          rw [← hll.out] at s1
          rw [← hl2.out] at s2
          have i1 := hashes_at hl k (by rw [← hn.out]; exact hlt)
          have i2 := hashes_at hm k (by rw [← hmm.out]; exact hlt)
          rw [← hll.out] at i1
          rw [← hl2.out] at i2
          by_cases he : l = l2
          · have N1 := fun W => (neqAt_hash l l2 i1.1 i2.1 i1.2 i2.2 W).trans (by rw [decide_eq_true he]; try rfl)
            have HN : Hid (ls.take (k + 1) = ms.take (k + 1)) := Lib.hid (take_same HK.out (by rw [← hn.out]; exact hlt) (by rw [← hmm.out]; exact hlt) (by rw [← hll.out, ← hl2.out]; exact he))
            clear i1 i2 he
            go_wp2
            go_quiet (fail)
            go_wp2
            go_roundw
            case rel => exact ⟨k + 1, _, by omega, by go_num, rfl, HN⟩
            case measure => simp [intOf]; omega
          · have N1 := fun W => (neqAt_hash l l2 i1.1 i2.1 i1.2 i2.2 W).trans (by rw [decide_eq_false he]; try rfl)
            have HN : Hid (b = false) := Lib.hid (by rw [hb'.out]; exact decide_eq_false (same_not (by rw [← hll.out, ← hl2.out]; exact he)))
            clear i1 i2 he
            go_wp2
            go_quiet (fail)
            go_wp2
            go_ret
            exact ⟨by rw [HN.out]; rfl, by rw [World.drewN_drewN]; exact below_drewN HBX.out _⟩
        · have hk9 : Hid (k = n) := Lib.hid (by omega)
          have HN : Hid (b = true) := Lib.hid (by rw [hb'.out]; exact decide_eq_true (same_all (by have := HK.out; rw [hk9.out, hn.out] at this; exact this) HNM.out))
          go_wp2
          go_ret
          exact ⟨by rw [HN.out]; rfl, below_drewN HBX.out _⟩
    · subst hs
      have d1 : ((n : Int) != (m : Int)) = true := by simp; omega
      have d2 : ((n : Int) == (m : Int)) = false := by simp; omega
      have d3 : (s != s) = false := by simp
      have d4 : (s == s) = true := by simp
      have HN : Hid (b = false) := Lib.hid (by rw [hb.out]; exact decide_eq_false (fun e => hnm (by rw [hn.out, hmm.out, e.2])))
      go_enter Tryd.func17, Tryd.ntmps17
      go_upto_region 1 with fail
      refine world_gen (fun wx => SameH w wx s A n c s B m d) HW.out (fun wx HX => ?_)
      have HX := Lib.hid HX
      have c0 := HX.out.1.cell 0
      have c1 := HX.out.1.cell 1
      have c2 := HX.out.2.1.cell 0
      have c3 := HX.out.2.1.cell 1
      go_wp2
      go_ret
      exact ⟨by rw [HN.out]; rfl, HX.out.2.2⟩
  · have d1 : (s == s2) = false := by simpa using hs
    have d2 : (s != s2) = true := by simpa using hs
    have HN : Hid (b = false) := Lib.hid (by rw [hb.out]; exact decide_eq_false (fun h => hs h.1))
    clear hs
    go_enter Tryd.func17, Tryd.ntmps17
    go_upto_region 1 with fail
    refine world_gen (fun wx => SameH w wx s A n c s2 B m d) HW.out (fun wx HX => ?_)
    have HX := Lib.hid HX
    have c0 := HX.out.1.cell 0
    have c1 := HX.out.1.cell 1
    have c2 := HX.out.2.1.cell 0
    have c3 := HX.out.2.1.cell 1
    go_wp2
    go_ret
    exact ⟨by rw [HN.out]; rfl, HX.out.2.2⟩
end Go.Proofs.YtfakimbneenfdaaDoor
