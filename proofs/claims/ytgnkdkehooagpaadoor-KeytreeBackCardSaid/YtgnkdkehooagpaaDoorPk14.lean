/-
  TreeSplit.
-/
import Derived.Test.YtgnkdkehooagpaaDoorPk04
namespace Go.Proofs.YtgnkdkehooagpaaDoor
open Go.RowKit
set_option linter.unusedVariables false
set_option maxRecDepth 100000

def splitI (n : Int) : Int := (splitN n.toNat : Nat)
theorem splitI_few (n : Int) (h : n < 2) : splitI n = 0 := by
  unfold splitI
  rw [splitN_few _ (by omega)]
  rfl
theorem splitI_is (n : Int) (e k : Nat) (hk : k = 2 ^ e) (h1 : (k : Int) < n) (h2 : n ≤ 2 * (k : Int)) : splitI n = (k : Int) := by
  unfold splitI
  rw [splitN_is n.toNat e (by omega) (by rw [Nat.pow_succ]; omega), hk]
theorem ret_i {x y : Int} (h : x = y) : Ending.returned (.int .i64 x) = .returned (.int .i64 y) := by rw [h]
set_option maxHeartbeats 1000000 in
theorem split_any (n : Int) (hn : -9223372036854775808 ≤ n ∧ n < 9223372036854775808) (w : World) :
    Calls Tryd.prog 40 #[.int .i64 n] w fun ev w' => ev = .returned (.int .i64 (splitI n)) ∧ w = w' := by
  obtain ⟨hn1, hn2⟩ := hn
  by_cases h2 : n < 2
  · have hv := Lib.hid (splitI_few n h2)
    go_enter Tryd.func40, Tryd.ntmps40
    go_wp2
    go_ret
    exact ⟨ret_i hv.out.symm, by first | rfl | trivial⟩
  · have h2' : 2 ≤ n := by omega
    clear h2
    go_enter Tryd.func40, Tryd.ntmps40
    go_wp2
    go_loopw [3] (fun s3 wx => ∃ k : Nat, s3 = .int .i64 (k : Int) ∧ 1 ≤ k ∧ (k : Int) < n ∧ Hid (∃ e : Nat, k = 2 ^ e) ∧ w = wx) (fun s3 _ => (n - intOf s3).toNat)
    case atStart => exact ⟨1, rfl, by omega, by omega, Lib.hid ⟨0, rfl⟩, by first | rfl | trivial⟩
    case round =>
      obtain ⟨k, rfl, hk1, hkn, HE, rfl⟩ := hrel
      by_cases hlt : (k : Int) < n - (k : Int)
      · go_wp2
        go_roundw
        case rel =>
          obtain ⟨e, he⟩ := HE.out
          exact ⟨2 * k, by go_num, by omega, by omega, Lib.hid ⟨e + 1, by rw [Nat.pow_succ, he]; omega⟩, by first | rfl | trivial⟩
        case measure => simp [intOf]; omega
      · obtain ⟨e, he⟩ := HE.out
        have hv := Lib.hid (splitI_is n e k he hkn (by omega))
        clear he
        go_wp2
        go_ret
        exact ⟨ret_i hv.out.symm, by first | rfl | trivial⟩
/-- What the document's loop knows: e rounds are done, m comes next, k was the last one. -/
def SpH (n : Int) (e : Nat) (k m : Int) : Prop := e ≤ 63 ∧ (m = if e = 63 then -9223372036854775808 else ((2 ^ e : Nat) : Int)) ∧ (e = 0 ∧ k = 0 ∨ 1 ≤ e ∧ k = ((2 ^ (e - 1) : Nat) : Int) ∧ k < n)
theorem pow63 : (2 ^ 63 : Nat) = 9223372036854775808 := by decide
theorem pow_small (e : Nat) (h : e < 63) : 2 * 2 ^ e ≤ 9223372036854775808 := by
  have := Nat.pow_le_pow_right (n := 2) (by omega) (show e + 1 ≤ 63 by omega)
  rw [pow63, Nat.pow_succ] at this
  omega
theorem SpH.bound {n : Int} {e : Nat} {k m : Int} (h : SpH n e k m) : -9223372036854775808 ≤ m ∧ m < 9223372036854775808 := by
  obtain ⟨h1, h2, _⟩ := h
  by_cases he : e = 63
  · rw [if_pos he] at h2; omega
  · rw [if_neg he] at h2
    have := pow_small e (by omega)
    omega
theorem SpH.next {n : Int} {e : Nat} {k m : Int} (h : SpH n e k m) (h0 : 0 < m) (hm : m < n) : e < 63 ∧ SpH n (e + 1) m (IntKind.i64.wrap (m * 2)) := by
  obtain ⟨h1, h2, _⟩ := h
  by_cases he : e = 63
  · rw [if_pos he] at h2; omega
  · rw [if_neg he] at h2
    have hp := pow_small e (by omega)
    refine ⟨by omega, by omega, ?_, .inr ⟨by omega, by rw [Nat.add_sub_cancel, h2], hm⟩⟩
    rw [IntKind.wrap_i64]
    by_cases h62 : e + 1 = 63
    · rw [if_pos h62]
      obtain rfl : e = 62 := by omega
      rw [h2]; decide
    · rw [if_neg h62]
      have hp2 := pow_small (e + 1) (by omega)
      rw [Nat.pow_succ] at *
      omega
theorem SpH.stop {n : Int} {e : Nat} {k m : Int} (h : SpH n e k m) (hn : n < 9223372036854775808) (hs : ¬ (m < n ∧ 0 < m)) : splitI n = k := by
  obtain ⟨h1, h2, h3⟩ := h
  rcases h3 with ⟨rfl, rfl⟩ | ⟨h3, h4, h5⟩
  · rw [if_neg (by omega)] at h2
    have : m = 1 := by rw [h2]; rfl
    exact splitI_few n (by omega)
  · obtain ⟨d, rfl⟩ : ∃ d, e = d + 1 := ⟨e - 1, by omega⟩
    rw [Nat.add_sub_cancel] at h4
    subst h4
    by_cases he : d + 1 = 63
    · refine splitI_is n d _ rfl h5 ?_
      obtain rfl : d = 62 := by omega
      have : ((2 ^ 62 : Nat) : Int) = 4611686018427387904 := by decide
      rw [this]
      omega
    · rw [if_neg he, Nat.pow_succ] at h2
      have : 0 < 2 ^ d := Nat.two_pow_pos d
      exact splitI_is n d _ rfl h5 (by omega)
def muS (v : Value) : Nat := if intOf v ≤ 0 then 0 else (9223372036854775808 - intOf v).toNat + 1
theorem muS_int (m : Int) : muS (.int .i64 m) = if m ≤ 0 then 0 else (9223372036854775808 - m).toNat + 1 := rfl
theorem muS_next {m m2 : Int} (h0 : 0 < m) (hm : m < 9223372036854775808) (h2 : m2 = IntKind.i64.wrap (m * 2)) : muS (.int .i64 m2) < muS (.int .i64 m) := by
  rw [IntKind.wrap_i64] at h2
  rw [muS_int, muS_int, if_neg (show ¬ m ≤ 0 by omega)]
  by_cases hz : m2 ≤ 0
  · rw [if_pos hz]; omega
  · rw [if_neg hz]; omega
set_option maxHeartbeats 1000000 in
theorem refSplit_any (n : Int) (hn : -9223372036854775808 ≤ n ∧ n < 9223372036854775808) (w : World) :
    Calls Tryd.prog 44 #[.int .i64 n] w fun ev w' => ev = .returned (.int .i64 (splitI n)) ∧ w = w' := by
  have HN := Lib.hid hn
  clear hn
  go_enter Tryd.func44, Tryd.ntmps44
  go_wp2
  go_loopw [3, 4] (fun s3 s4 wx => ∃ e k m, s3 = .int .i64 k ∧ s4 = .int .i64 m ∧ Hid (SpH n e k m) ∧ w = wx) (fun _ s4 _ => muS s4)
  case atStart => exact ⟨0, 0, 1, rfl, rfl, Lib.hid ⟨by omega, rfl, .inl ⟨rfl, rfl⟩⟩, by first | rfl | trivial⟩
  case round =>
    obtain ⟨e, k, m, rfl, rfl, HS, rfl⟩ := hrel
    by_cases hmn : m < n
    · by_cases h0 : 0 < m
      · obtain ⟨m2, hm2⟩ : ∃ m2, IntKind.i64.wrap (m * 2) = m2 := ⟨_, rfl⟩
        have HM2 := Lib.hid hm2
        go_wp2
        go_roundw
        case rel => exact ⟨e + 1, m, m2, rfl, rfl, Lib.hid (by rw [← HM2.out]; exact (HS.out.next h0 hmn).2), by first | rfl | trivial⟩
        case measure => exact muS_next h0 HS.out.bound.2 HM2.out.symm
      · have hv := Lib.hid (HS.out.stop HN.out.2 (fun h => h0 h.2))
        go_wp2
        go_ret
        exact ⟨ret_i hv.out.symm, by first | rfl | trivial⟩
    · have hv := Lib.hid (HS.out.stop HN.out.2 (fun h => hmn h.1))
      go_wp2
      go_ret
      exact ⟨ret_i hv.out.symm, by first | rfl | trivial⟩
end Go.Proofs.YtgnkdkehooagpaaDoor
