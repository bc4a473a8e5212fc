/-
  The walks of slices.Equal at hashes, of the statements' own Same, of Same (layer 5) and of the document's: whether lists, and ranges, are the same. Conditions: lists of hashes in memory. The lists stay; what is made is new memory.
-/
import Derived.Test.YtfakimbneenfdaaDoorListSame
import Derived.Test.YtfakimbneenfdaaDoorRangeRootM
namespace Go.Proofs.YtfakimbneenfdaaDoor
open Go.RowKit
set_option linter.unusedVariables false
set_option maxRecDepth 100000

attribute [local go_sem ↓ high] read_at neq_at
set_option maxHeartbeats 4000000 in
theorem equal_any (ls ms : List (List Int)) (hl : hashes ls) (hm : hashes ms) (h63 : ls.length ≤ 9223372036854775807) (h64 : ms.length ≤ 9223372036854775807) (A B : Option Addr) (c d : Nat) (w : World) (hA : HL w w.heap.size A ls) (hB : HL w w.heap.size B ms) :
    Calls Tryd.prog 50 #[.slice A ls.length c, .slice B ms.length d] w fun e w' => e = .returned (.bool (decide (ls = ms))) ∧ ∃ k, w' = w.drewN k := by
  obtain ⟨n, hn⟩ : ∃ n, Hid (n = ls.length) := ⟨_, Lib.hid rfl⟩
  obtain ⟨m, hmm⟩ : ∃ m, Hid (m = ms.length) := ⟨_, Lib.hid rfl⟩
  rw [← hn.out] at h63 ⊢
  rw [← hmm.out] at h64 ⊢
  have HA := Lib.hid hA
  have HB := Lib.hid hB
  clear hA hB
  by_cases hnm : n = m
  · have HNM : Hid (ls.length = ms.length) := Lib.hid (by rw [← hn.out, ← hmm.out]; exact hnm)
    subst hnm
    have d1 : ((n : Int) != (n : Int)) = false := by simp
    have d2 : ((n : Int) == (n : Int)) = true := by simp
    obtain ⟨b, hb⟩ : ∃ b, Hid (b = decide (ls = ms)) := ⟨_, Lib.hid rfl⟩
    rw [← hb.out]
    go_enter Tryd.func50, Tryd.ntmps50
    go_wp2
    go_loopw [13] (fun s13 wr => ∃ k q : Nat, k ≤ n ∧ s13 = .int .i64 (k : Int) ∧ wr = w.drewN q ∧ Hid (ls.take k = ms.take k)) (fun s13 _ => (n - intOf s13).toNat)
    case atStart => exact ⟨0, 0, by omega, rfl, rfl, Lib.hid rfl⟩
    case round =>
      obtain ⟨k, q, hk, rfl, rfl, HK⟩ := hrel
      by_cases hlt : k < n
      · obtain ⟨ad, rfl⟩ := HA.out.some k (by rw [← hn.out]; exact hlt)
        obtain ⟨bd, rfl⟩ := HB.out.some k (by rw [← hmm.out]; exact hlt)
        have s1 := fun p => (HA.out.next (below_drewN (Below.refl _ w) p) (Nat.le_refl _)).read hl k (by rw [← hn.out]; exact hlt)
        have s2 := fun p => (HB.out.next (below_drewN (Below.refl _ w) p) (Nat.le_refl _)).read hm k (by rw [← hmm.out]; exact hlt)
        obtain ⟨l, hll⟩ : ∃ l, Hid (l = ls.getD k []) := ⟨_, Lib.hid rfl⟩
        obtain ⟨l2, hl2⟩ : ∃ l, Hid (l = ms.getD k []) := ⟨_, Lib.hid rfl⟩
        rw [← hll.out] at s1
        rw [← hl2.out] at s2
        have i1 := hashes_at hl k (by rw [← hn.out]; exact hlt)
        have i2 := hashes_at hm k (by rw [← hmm.out]; exact hlt)
        rw [← hll.out] at i1
        rw [← hl2.out] at i2
        by_cases he : l = l2
        · have N1 := fun W => (neqAt_hash l l2 i1.1 i2.1 i1.2 i2.2 W).trans (by rw [decide_eq_true he]; try rfl)
          have HN : Hid (ls.take (k + 1) = ms.take (k + 1)) := Lib.hid (take_same HK.out (by rw [← hn.out]; exact hlt) (by rw [← hmm.out]; exact hlt) (by rw [← hll.out, ← hl2.out]; exact he))
          clear i1 i2 he
          go_wp2
          go_quiet (fail)
          go_wp2
          go_roundw
          case rel => exact ⟨k + 1, _, by omega, by go_num, rfl, HN⟩
          case measure => simp [intOf]; omega
        · have N1 := fun W => (neqAt_hash l l2 i1.1 i2.1 i1.2 i2.2 W).trans (by rw [decide_eq_false he]; try rfl)
          have HN : Hid (b = false) := Lib.hid (by rw [hb.out]; exact decide_eq_false (same_not (by rw [← hll.out, ← hl2.out]; exact he)))
          clear i1 i2 he
          go_wp2
          go_quiet (fail)
          go_wp2
          go_ret
          exact ⟨by rw [HN.out]; rfl, q + nq, World.drewN_drewN _ _ _⟩
      · have hk9 : Hid (k = n) := Lib.hid (by omega)
        have HN : Hid (b = true) := Lib.hid (by rw [hb.out]; exact decide_eq_true (same_all (by have := HK.out; rw [hk9.out, hn.out] at this; exact this) HNM.out))
        go_wp2
        go_ret
        exact ⟨by rw [HN.out]; rfl, _, rfl⟩
  · have d1 : ((n : Int) != (m : Int)) = true := by simp; omega
    have d2 : ((n : Int) == (m : Int)) = false := by simp; omega
    have HN : Hid (decide (ls = ms) = false) := Lib.hid (decide_eq_false (fun e => hnm (by rw [hn.out, hmm.out, e])))
    go_enter Tryd.func50, Tryd.ntmps50
    go_wp2
    go_ret
    exact ⟨by rw [HN.out]; rfl, 0, rfl⟩
/-- Whether two ranges are the same. -/
def sameB (s : Int) (hs : List (List Int)) (s2 : Int) (hs2 : List (List Int)) : Bool := decide (s = s2 ∧ hs = hs2)
/-- The two ranges of a call. -/
def SameH (w wr : World) (s : Int) (A : Option Addr) (n c : Nat) (s2 : Int) (B : Option Addr) (m d : Nat) : Prop := Row wr w.heap.size 24 #[.int .i64 s, .slice A n c] ∧ Row wr (w.heap.size + 1) 24 #[.int .i64 s2, .slice B m d] ∧ Below w.heap.size w wr
theorem SameH.start (w : World) (s : Int) (A : Option Addr) (n c : Nat) (s2 : Int) (B : Option Addr) (m d : Nat) : SameH w ((w.alloc (.cells #[.int .i64 s, .slice A n c] 24)).alloc (.cells #[.int .i64 s2, .slice B m d] 24)) s A n c s2 B m d :=
  ⟨(Row.made _ _ _).alloc _, Row.made2 _ _ _ _, ((Below.refl _ _).alloc (Nat.le_refl _) _).alloc (by simp) _⟩
set_option maxHeartbeats 2000000 in
theorem rsame_any (w : World) (s s2 : Int) (A B : Option Addr) (c d : Nat) (ls ms : List (List Int)) (hl : hashes ls) (hm : hashes ms) (h63 : ls.length ≤ 9223372036854775807) (h64 : ms.length ≤ 9223372036854775807) (hA : HL w w.heap.size A ls) (hB : HL w w.heap.size B ms) :
    Calls Tryd.prog 27 #[.agg #[.int .i64 s, .slice A ls.length c], .agg #[.int .i64 s2, .slice B ms.length d]] w fun e w' => e = .returned (.bool (sameB s ls s2 ms)) ∧ Below w.heap.size w w' := by
  obtain ⟨n, hn⟩ : ∃ n, Hid (n = ls.length) := ⟨_, Lib.hid rfl⟩
  obtain ⟨m, hmm⟩ : ∃ m, Hid (m = ms.length) := ⟨_, Lib.hid rfl⟩
  obtain ⟨b, hb⟩ : ∃ b, Hid (b = decide (ls = ms)) := ⟨_, Lib.hid rfl⟩
  obtain ⟨b2, hb2⟩ : ∃ b2, Hid (b2 = sameB s ls s2 ms) := ⟨_, Lib.hid rfl⟩
  have E1 : Hid (∀ W, Below w.heap.size w W → Calls Tryd.prog 50 #[.slice A n c, .slice B m d] W fun e w' => e = .returned (.bool b) ∧ Below W.heap.size W w') := Lib.hid fun W hW => by
    rw [hn.out, hmm.out, hb.out]
    refine (equal_any ls ms hl hm h63 h64 A B c d W (hA.from hW) (hB.from hW)).mono ?_
    rintro e w' ⟨he, k, rfl⟩
    exact ⟨he, below_drewN (Below.refl _ _) k⟩
  rw [← hn.out, ← hmm.out, ← hb2.out]
  have HB := Lib.hid (SameH.start w s A n c s2 B m d)
  clear hA hB hl hm h63 h64
  by_cases hs : s = s2
  · have HE : Hid (b2 = b) := Lib.hid (by rw [hb2.out, hb.out]; unfold sameB; simp [hs])
    subst hs
    have d1 : (s == s) = true := by simp
    go_enter Tryd.func27, Tryd.ntmps27
    go_upto_region 1 with fail
    refine world_gen (fun wx => SameH w wx s A n c s B m d) HB.out (fun wx HX => ?_)
    have HX := Lib.hid HX
    have HBX := Lib.hid HX.out.2.2
    have c0 := HX.out.1.cell 0
    have c1 := HX.out.1.cell 1
    have c2 := HX.out.2.1.cell 0
    have c3 := HX.out.2.1.cell 1
    go_wp2_with (go_at_call 50; (with_reducible refine (E1.out _ HBX.out).mono ?_); rintro e w1 ⟨rfl, hb3⟩; have HY := Lib.hid (below_new HBX.out hb3); clear hb3 c0 c1 c2 c3)
    go_ret
    exact ⟨by rw [HE.out]; rfl, HY.out⟩
  · have HE : Hid (b2 = false) := Lib.hid (by rw [hb2.out]; exact decide_eq_false (fun h => hs h.1))
    have d1 : (s == s2) = false := by simpa using hs
    clear hs
    go_enter Tryd.func27, Tryd.ntmps27
    go_upto_region 1 with fail
    refine world_gen (fun wx => SameH w wx s A n c s2 B m d) HB.out (fun wx HX => ?_)
    have HX := Lib.hid HX
    have c0 := HX.out.1.cell 0
    have c1 := HX.out.1.cell 1
    have c2 := HX.out.2.1.cell 0
    have c3 := HX.out.2.1.cell 1
    go_wp2
    go_ret
    exact ⟨by rw [HE.out]; rfl, HX.out.2.2⟩
end Go.Proofs.YtfakimbneenfdaaDoor
