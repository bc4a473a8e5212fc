/-
  The walks of the library's Backward at hashes: an iterator that hands back each hash, from the last one on. Condition: a list of hashes in memory.
-/
import Derived.Test.YtfakimbneenfdaaDoorRangePart
import Derived.RangeFuncNested
import Derived.RangeFuncBound
import Derived.RangeFuncCalls
import Derived.RangeFuncLeaves
import Derived.Shelf.Abstract
import Derived.Shelf.RegionOpen
import Derived.OwnWalkIn
import Derived.TacticsInMore
import Derived.LoopNIn
import Derived.LoopIn
namespace Go.Proofs.YtfakimbneenfdaaDoor
open Go.RowKit Go.Shelf
set_option linter.unusedVariables false
set_option maxRecDepth 100000

attribute [local go_sem] Oper.semAt_some
attribute [local go_sem ↓ high] read_at
/-- What is handed back of place i: the place, and the hash there. -/
def backE (hs : List (List Int)) (i : Fin hs.length) : Array Value := #[.int .i64 ((i : Nat) : Int), .agg (nums .u8 (hs.getD (i : Nat) []))]
/-- What a round keeps: what lay below n₀, and the block Bs. -/
def KeepB (n₀ Bs : Nat) (W W' : World) : Prop := Below n₀ W W' ∧ W'.heap[Bs]? = W.heap[Bs]?
theorem KeepB.trans {n₀ Bs : Nat} {A B C : World} (h : KeepB n₀ Bs A B) (k : KeepB n₀ Bs B C) : KeepB n₀ Bs A C := ⟨h.1.trans k.1, k.2.trans h.2⟩
theorem KeepB.refl (n₀ Bs : Nat) (A : World) : KeepB n₀ Bs A A := ⟨Below.refl _ _, rfl⟩
theorem range_down (m : Nat) : (List.range (m + 1)).reverse = m :: (List.range m).reverse := by
  rw [List.range_succ, List.reverse_append]; rfl
set_option maxHeartbeats 4000000 in
theorem back1_in (F : Fence) (n : Nat) (h7 : F.fn 61) (hro : F.round = none) (hn : 1 ≤ n) (l Bs n₀ : Nat) (A : Option Addr) (c : Nat) (hs : List (List Int)) (hh : hashes hs) (hm : hs.length ≤ 8192) (J Jx : List (Fin hs.length) → World → Prop)
    (hY : ∀ pre x W, J pre W → pre.length < hs.length → YieldAt F (n - 1) Tryd.prog l (backE hs x) W fun e W' =>
      (e = .returned (.bool true) ∧ J (pre ++ [x]) W' ∧ KeepB n₀ Bs W W') ∨ (e = .returned (.bool false) ∧ Jx (pre ++ [x]) W'))
    (W : World) (hBs : Row W Bs 22 #[.slice A hs.length c]) (hA : HL W n₀ A hs) (h0 : J [] W) :
    CallsIn F n Tryd.prog 61 #[.func (.yield l) #[] #[], .pointer (some ⟨Bs, 0, none⟩)] W fun e W' => (∃ v, e = .returned v) ∧
      ((∃ ys : List (Fin hs.length), ys.map Fin.val = (List.range hs.length).reverse ∧ J ys W') ∨ (∃ pre, True ∧ Jx pre W')) := by
  obtain ⟨q, hq⟩ : ∃ q, Hid (q = hs.length) := ⟨_, Lib.hid rfl⟩
  have HM : q ≤ 8192 := by rw [hq.out]; exact hm
  have HB : Hid (Row W Bs 22 #[.slice A q c]) := Lib.hid (by rw [hq.out]; exact hBs)
  have HA := Lib.hid hA
  have H0 := Lib.hid h0
  have HY := Lib.hid hY
  have c0 := HB.out.cell 0
  clear hBs hA h0 hY hm
  refine callsIn_of_wp Tryd.func61 rfl h7 ?_ hro
  simp only [Tryd.ntmps61, List.size_toArray, List.length_cons, List.length_nil, Nat.reduceAdd, Nat.reduceSub, Array.replicate_succ, Array.replicate_zero, List.push_toArray, List.append_toArray, List.nil_append, List.cons_append]
  gi_wp2
  gi_loopw [3] (fun i wr => ∃ (k : Nat) (pre : List (Fin hs.length)), k ≤ q ∧ i = .int .i64 ((k : Int) - 1) ∧ Hid (pre.map Fin.val ++ (List.range k).reverse = (List.range hs.length).reverse ∧ J pre wr ∧ KeepB n₀ Bs W wr))
    (fun i _ => (intOf i + 1).toNat)
  case atStart => exact ⟨q, [], Nat.le_refl _, rfl, Lib.hid ⟨by rw [hq.out]; rfl, H0.out, KeepB.refl _ _ _⟩⟩
  case round =>
    clear c0
    obtain ⟨k, pre, hk, rfl, HJ⟩ := hrel
    by_cases hlt : 0 < k
    · obtain ⟨m, hkm⟩ : ∃ m, k = m + 1 := ⟨k - 1, by omega⟩
      have hmn : m < hs.length := by rw [← hq.out]; omega
      obtain ⟨hp, hJ, hK⟩ := HJ.out
      have hR0 : Row wr Bs 22 #[.slice A q c] := by unfold Row; rw [hK.2]; exact HB.out
      have c1 := hR0.cell 0
      obtain ⟨ad, rfl⟩ := HA.out.some m hmn
      obtain ⟨L, hL⟩ : ∃ L, Hid (L = nums .u8 (hs.getD m [])) := ⟨_, Lib.hid rfl⟩
      have s1 := (HA.out.next hK.1 (Nat.le_refl _)).read hh m hmn
      rw [← hL.out] at s1
      have e0 : (k : Int) - 1 = (m : Int) := by omega
      have e1 : (m : Int) < (q : Int) := by omega
      rw [hkm, range_down] at hp
      have hpl : pre.length < hs.length := by
        have := congrArg List.length hp
        simp at this; omega
      obtain ⟨fn, tmps, assign, body, hy, hR⟩ := HY.out pre ⟨m, hmn⟩ wr hJ hpl
      have hE : backE hs ⟨m, hmn⟩ = #[.int .i64 (m : Int), .agg L] := by unfold backE; rw [hL.out]
      rw [hE] at hy
      have HP : Hid ((pre ++ [(⟨m, hmn⟩ : Fin hs.length)]).map Fin.val ++ (List.range m).reverse = (List.range hs.length).reverse) := Lib.hid (by rw [← hp]; simp)
      have HK := Lib.hid hK
      have HKM := Lib.hid hkm
      clear HJ hp hJ hK hR0 hkm hE
      gi_wp2
      refine hR.mono ?_
      rintro e W3 (⟨rfl, hJ3, hk3⟩ | ⟨rfl, hJx3⟩)
      · gi_wp2
        go_roundw
        case rel => exact ⟨m, _, by omega, rfl, Lib.hid ⟨HP.out, hJ3, HK.out.trans hk3⟩⟩
        case measure => simp [intOf]; omega
      · gi_wp2
        refine bodyPost_ret (results_none rfl _ _ _) rfl ?_
        exact ⟨⟨_, rfl⟩, .inr ⟨_, trivial, hJx3⟩⟩
    · obtain rfl : k = 0 := by omega
      gi_wp2
      go_end0
      exact ⟨⟨_, rfl⟩, .inl ⟨pre, by have := HJ.out.1; simpa using this, HJ.out.2.1⟩⟩
set_option maxHeartbeats 1000000 in
theorem back_any (A : Option Addr) (n c : Nat) (w : World) :
    Calls Tryd.prog 42 #[.slice A n c] w fun e w' => e = .returned (.func (.func 61) #[] #[.pointer (some ⟨w.heap.size, 0, none⟩)]) ∧ w.alloc (.cells #[.slice A n c] 22) = w' := by
  go_enter Tryd.func42, Tryd.ntmps42
  go_wp2
  go_ret
  exact ⟨rfl, rfl⟩
/-- Backward hands back what stops, as a range over it wants: all places, from the last one on. -/
theorem back_stops (F : Fence) (n : Nat) (h7 : F.fn 61) (hro : F.round = none) (hn : 1 ≤ n) (Bs n₀ : Nat) (A : Option Addr) (c : Nat) (hs : List (List Int)) (hh : hashes hs) (hm : hs.length ≤ 8192) (w : World) (hn₀ : n₀ ≤ w.heap.size)
    (hc : Row w Bs 22 #[.slice A hs.length c]) (hA : HL w n₀ A hs) :
    SeqStopsK F n Tryd.prog 61 #[.pointer (some ⟨Bs, 0, none⟩)] (backE hs) (KeepB n₀ Bs) (fun ys => ys.map Fin.val = (List.range hs.length).reverse) (fun _ => True) hs.length w := fun l J Jx W hW _ _ hY h0 =>
  back1_in F n h7 hro hn l Bs n₀ A c hs hh hm J Jx hY W (hc.next hW) (hA.next hW hn₀) h0
end Go.Proofs.YtfakimbneenfdaaDoor
