/-
  Several texts in one (a claim has room for 60 files): TreeSplit, TreeRefHash.
-/
import Derived.Test.YtpndccoikhejgaaDoorPk04
import Derived.Test.YtpndccoikhejgaaDoorPk11
namespace Go.Proofs.YtpndccoikhejgaaDoor
open Go.RowKit
set_option linter.unusedVariables false
set_option maxRecDepth 100000

def splitI (n : Int) : Int := (splitN n.toNat : Nat)
theorem splitI_few (n : Int) (h : n < 2) : splitI n = 0 := by
  unfold splitI
  rw [splitN_few _ (by omega)]
  rfl
theorem splitI_is (n : Int) (e k : Nat) (hk : k = 2 ^ e) (h1 : (k : Int) < n) (h2 : n ≤ 2 * (k : Int)) : splitI n = (k : Int) := by
  unfold splitI
  rw [splitN_is n.toNat e (by omega) (by rw [Nat.pow_succ]; omega), hk]
theorem ret_i {x y : Int} (h : x = y) : Ending.returned (.int .i64 x) = .returned (.int .i64 y) := by rw [h]
set_option maxHeartbeats 1000000 in
theorem split_any (n : Int) (hn : -9223372036854775808 ≤ n ∧ n < 9223372036854775808) (w : World) :
    Calls Tryd.prog 76 #[.int .i64 n] w fun ev w' => ev = .returned (.int .i64 (splitI n)) ∧ w = w' := by
  obtain ⟨hn1, hn2⟩ := hn
  by_cases h2 : n < 2
  · have hv := Lib.hid (splitI_few n h2)
    go_enter Tryd.func76, Tryd.ntmps76
    go_wp2
    go_ret
    exact ⟨ret_i hv.out.symm, by first | rfl | trivial⟩
  · have h2' : 2 ≤ n := by omega
    clear h2
    go_enter Tryd.func76, Tryd.ntmps76
    go_wp2
    go_loopw [3] (fun s3 wx => ∃ k : Nat, s3 = .int .i64 (k : Int) ∧ 1 ≤ k ∧ (k : Int) < n ∧ Hid (∃ e : Nat, k = 2 ^ e) ∧ w = wx) (fun s3 _ => (n - intOf s3).toNat)
    case atStart => exact ⟨1, rfl, by omega, by omega, Lib.hid ⟨0, rfl⟩, by first | rfl | trivial⟩
    case round =>
      obtain ⟨k, rfl, hk1, hkn, HE, rfl⟩ := hrel
      by_cases hlt : (k : Int) < n - (k : Int)
      · go_wp2
        go_roundw
        case rel =>
          obtain ⟨e, he⟩ := HE.out
          exact ⟨2 * k, by go_num, by omega, by omega, Lib.hid ⟨e + 1, by rw [Nat.pow_succ, he]; omega⟩, by first | rfl | trivial⟩
        case measure => simp [intOf]; omega
      · obtain ⟨e, he⟩ := HE.out
        have hv := Lib.hid (splitI_is n e k he hkn (by omega))
        clear he
        go_wp2
        go_ret
        exact ⟨ret_i hv.out.symm, by first | rfl | trivial⟩
/-- What the document's loop knows: e rounds are done, m comes next, k was the last one. -/
def SpH (n : Int) (e : Nat) (k m : Int) : Prop := e ≤ 63 ∧ (m = if e = 63 then -9223372036854775808 else ((2 ^ e : Nat) : Int)) ∧ (e = 0 ∧ k = 0 ∨ 1 ≤ e ∧ k = ((2 ^ (e - 1) : Nat) : Int) ∧ k < n)
theorem pow63 : (2 ^ 63 : Nat) = 9223372036854775808 := by decide
theorem pow_small (e : Nat) (h : e < 63) : 2 * 2 ^ e ≤ 9223372036854775808 := by
  have := Nat.pow_le_pow_right (n := 2) (by omega) (show e + 1 ≤ 63 by omega)
  rw [pow63, Nat.pow_succ] at this
  omega
theorem SpH.bound {n : Int} {e : Nat} {k m : Int} (h : SpH n e k m) : -9223372036854775808 ≤ m ∧ m < 9223372036854775808 := by
  obtain ⟨h1, h2, _⟩ := h
  by_cases he : e = 63
  · rw [if_pos he] at h2; omega
  · rw [if_neg he] at h2
    have := pow_small e (by omega)
    omega
theorem SpH.next {n : Int} {e : Nat} {k m : Int} (h : SpH n e k m) (h0 : 0 < m) (hm : m < n) : e < 63 ∧ SpH n (e + 1) m (IntKind.i64.wrap (m * 2)) := by
  obtain ⟨h1, h2, _⟩ := h
  by_cases he : e = 63
  · rw [if_pos he] at h2; omega
  · rw [if_neg he] at h2
    have hp := pow_small e (by omega)
    refine ⟨by omega, by omega, ?_, .inr ⟨by omega, by rw [Nat.add_sub_cancel, h2], hm⟩⟩
    rw [IntKind.wrap_i64]
    by_cases h62 : e + 1 = 63
    · rw [if_pos h62]
      obtain rfl : e = 62 := by omega
      rw [h2]; decide
    · rw [if_neg h62]
      have hp2 := pow_small (e + 1) (by omega)
      rw [Nat.pow_succ] at *
      omega
theorem SpH.stop {n : Int} {e : Nat} {k m : Int} (h : SpH n e k m) (hn : n < 9223372036854775808) (hs : ¬ (m < n ∧ 0 < m)) : splitI n = k := by
  obtain ⟨h1, h2, h3⟩ := h
  rcases h3 with ⟨rfl, rfl⟩ | ⟨h3, h4, h5⟩
  · rw [if_neg (by omega)] at h2
    have : m = 1 := by rw [h2]; rfl
    exact splitI_few n (by omega)
  · obtain ⟨d, rfl⟩ : ∃ d, e = d + 1 := ⟨e - 1, by omega⟩
    rw [Nat.add_sub_cancel] at h4
    subst h4
    by_cases he : d + 1 = 63
    · refine splitI_is n d _ rfl h5 ?_
      obtain rfl : d = 62 := by omega
      have : ((2 ^ 62 : Nat) : Int) = 4611686018427387904 := by decide
      rw [this]
      omega
    · rw [if_neg he, Nat.pow_succ] at h2
      have : 0 < 2 ^ d := Nat.two_pow_pos d
      exact splitI_is n d _ rfl h5 (by omega)
def muS (v : Value) : Nat := if intOf v ≤ 0 then 0 else (9223372036854775808 - intOf v).toNat + 1
theorem muS_int (m : Int) : muS (.int .i64 m) = if m ≤ 0 then 0 else (9223372036854775808 - m).toNat + 1 := rfl
theorem muS_next {m m2 : Int} (h0 : 0 < m) (hm : m < 9223372036854775808) (h2 : m2 = IntKind.i64.wrap (m * 2)) : muS (.int .i64 m2) < muS (.int .i64 m) := by
  rw [IntKind.wrap_i64] at h2
  rw [muS_int, muS_int, if_neg (show ¬ m ≤ 0 by omega)]
  by_cases hz : m2 ≤ 0
  · rw [if_pos hz]; omega
  · rw [if_neg hz]; omega
set_option maxHeartbeats 1000000 in
theorem refSplit_any (n : Int) (hn : -9223372036854775808 ≤ n ∧ n < 9223372036854775808) (w : World) :
    Calls Tryd.prog 98 #[.int .i64 n] w fun ev w' => ev = .returned (.int .i64 (splitI n)) ∧ w = w' := by
  have HN := Lib.hid hn
  clear hn
  go_enter Tryd.func98, Tryd.ntmps98
  go_wp2
  go_loopw [3, 4] (fun s3 s4 wx => ∃ e k m, s3 = .int .i64 k ∧ s4 = .int .i64 m ∧ Hid (SpH n e k m) ∧ w = wx) (fun _ s4 _ => muS s4)
  case atStart => exact ⟨0, 0, 1, rfl, rfl, Lib.hid ⟨by omega, rfl, .inl ⟨rfl, rfl⟩⟩, by first | rfl | trivial⟩
  case round =>
    obtain ⟨e, k, m, rfl, rfl, HS, rfl⟩ := hrel
    by_cases hmn : m < n
    · by_cases h0 : 0 < m
      · obtain ⟨m2, hm2⟩ : ∃ m2, IntKind.i64.wrap (m * 2) = m2 := ⟨_, rfl⟩
        have HM2 := Lib.hid hm2
        go_wp2
        go_roundw
        case rel => exact ⟨e + 1, m, m2, rfl, rfl, Lib.hid (by rw [← HM2.out]; exact (HS.out.next h0 hmn).2), by first | rfl | trivial⟩
        case measure => exact muS_next h0 HS.out.bound.2 HM2.out.symm
      · have hv := Lib.hid (HS.out.stop HN.out.2 (fun h => h0 h.2))
        go_wp2
        go_ret
        exact ⟨ret_i hv.out.symm, by first | rfl | trivial⟩
    · have hv := Lib.hid (HS.out.stop HN.out.2 (fun h => hmn h.1))
      go_wp2
      go_ret
      exact ⟨ret_i hv.out.symm, by first | rfl | trivial⟩
end Go.Proofs.YtpndccoikhejgaaDoor
namespace Go.Proofs.YtpndccoikhejgaaDoor
open Go.RowKit
set_option linter.unusedVariables false
set_option maxRecDepth 100000

theorem infoU8 : (Tryd.prog.info? 5).map (fun i => (i.zero, i.size, i.bytes)) = some (some (.int .u8 0), 1, 1) := by kernel_rfl
def HashHead (w wr : World) (l : List Int) (k : Nat) (v : Value) : Prop :=
  wr.ownsRow (w.heap.size + 1) 5 1 v k ((l.map (Value.int .u8)).take k) ∧ Row wr w.heap.size 23 (nums .u8 l) ∧ Below w.heap.size w wr
theorem take_more (l : List Int) (k : Nat) (h : k < l.length) : l.take (k + 1) = l.take k ++ [l.getD k 0] := by
  rw [List.take_succ_eq_append_getElem h]
  simp [List.getD, List.getElem?_eq_getElem h]
theorem row_grown {w w' : World} {g : Nat} {t : TypeId} {cs : Array Value} {row : Option Nat} (h : Row w g t cs) (hb : w.grownBy w' row) (hg : some g ≠ row) : Row w' g t cs := (hb.block g h.lt hg).trans h
theorem HashHead.next {w wr w1 : World} {l : List Int} {k : Nat} {v v' : Value} (hk : k < l.length) (H : HashHead w wr l k v) (x : Value)
    (h1 : w1.ownsRow (w.heap.size + 1) 5 1 v' (k + 1) ((l.map (Value.int .u8)).take k ++ [.int .u8 (l.getD k 0)])) (hg : (wr.alloc (.cells #[x] 5)).grownBy w1 v.ownBlock) : HashHead w w1 l (k + 1) v' := by
  obtain ⟨h2, h3, h4⟩ := H
  have hge : ∀ g, v.ownBlock = some g → w.heap.size + 1 ≤ g := by
    rcases h2.2 with ⟨rfl, _⟩ | ⟨g', cap, cur, rfl, hb, _⟩
    · intro g hg; simp [Value.ownBlock] at hg
    · intro g hg
      have : g' = g := by simpa [Value.ownBlock] using hg
      omega
  refine ⟨?_, row_grown (h3.alloc _) hg (fun e => by have := hge _ e.symm; omega), (h4.alloc h4.size _).grown hg (by have := h4.size; simp; omega) (fun g e => by have := hge _ e; omega)⟩
  rw [← List.map_take, take_more l k hk, List.map_append, List.map_take]
  exact h1
theorem HashHead.text {w wr : World} {l : List Int} {v : Value} (hl : l.length = 32) (H : HashHead w wr l 32 v) :
    (convert 48 9 v).run Tryd.prog wr = .ok (.string (strOfNums l)) wr := by
  obtain ⟨h1, h2, h3⟩ := H
  obtain ⟨g, cap, rfl⟩ : ∃ g cap, v = .slice (some ⟨g, 0, none⟩) 32 cap := by
    rcases h1.2 with ⟨_, h0⟩ | ⟨g, cap, _, hv, _⟩
    · omega
    · exact ⟨g, cap, hv⟩
  refine run_convert_bytes_arg wr 48 5 Tryd.underlying48 Tryd.underlying5 g 0 32 cap l hl (fun i hi => ?_) 9 Tryd.underlying9
  have := h1.cells (g := g) rfl i (.int .u8 (l.getD i 0)) (by rw [List.take_of_length_le (by simp; omega)]; simp [List.getD, List.getElem?_eq_getElem (show i < l.length by omega)])
  rw [Nat.zero_add]
  have e : (⟨g, 0, none⟩ : Addr).add i = ⟨g, i, none⟩ := by unfold Addr.add; split <;> simp_all
  rwa [e] at this
set_option maxHeartbeats 1000000 in
set_option maxRecDepth 100000 in
theorem refHash_any (l : List Int) (hl : l.length = 32) (w : World) :
    Calls Tryd.prog 33 #[.agg (nums .u8 l)] w fun e w' => e = .returned (.string (strOfNums l)) ∧ Below w.heap.size w w' := by
  obtain ⟨i0, hi, hz0, hz1, hz2⟩ := info_parts infoU8
  have HL := Lib.hid hl
  have H0 : Hid (HashHead w (w.alloc (.cells (nums .u8 l) 23)) l 0 (.slice none 0 0)) := Lib.hid ⟨⟨rfl, .inl ⟨rfl, rfl⟩⟩, Row.made _ _ _, (Below.refl _ _).alloc (Nat.le_refl _) _⟩
  clear hl
  go_enter Tryd.func33, Tryd.ntmps33
  go_wp2
  go_loopw [3, 4] (fun s3 s4 wr => ∃ k v, s3 = v ∧ s4 = .int .i64 ((k : Nat) : Int) ∧ k ≤ 32 ∧ Hid (HashHead w wr l k v)) (fun _ s4 _ => (32 - intOf s4).toNat)
  case atStart => exact ⟨0, _, rfl, rfl, by omega, H0⟩
  case round =>
    clear H0
    obtain ⟨k, v, rfl, rfl, hk, HH⟩ := hrel
    by_cases hlt : k < 32
    · have hc := HH.out.2.1.num (i := k) (by rw [HL.out]; exact hlt)
      obtain ⟨x, hx⟩ : ∃ x, Hid (x = l.getD k 0) := ⟨_, Lib.hid rfl⟩
      rw [← hx.out] at hc
      go_wp2_with (at_builtin; refine wpList_append_own _ rfl (.tmp 9) (.tmp 13) 48 rfl (w.heap.size + 1) 5 i0 (.int .u8 0) 1 1 Tryd.underlying48 hi hz0 hz1 hz2 rfl (by decide) _ _ _ rfl (HH.out.1.alloc _) ⟨wr.heap.size, 0, none⟩ 1 1 [.int .u8 x] rfl rfl ?c1 ?c2 (by unfold maxLen; omega) (by omega) ?c5 ?_)
      case c1 => intro j u hj; match j, hj with | 0, hj => simp at hj; subst hj; simp [World.cell?_alloc_new, Addr.add]
      case c2 => intro u hu; simp at hu; subst hu; rfl
      case c5 => have := HH.out.2.2.size; have := HH.out.2.1.lt; simp; omega
      intro v' w1 hown hgrow _
      have HN : Hid (HashHead w w1 l (k + 1) v') := Lib.hid (HH.out.next (by rw [HL.out]; exact hlt) _ (by rw [← hx.out]; exact hown) hgrow)
      clear hown hgrow HH
      go_wp2
      go_roundw
      case rel => exact ⟨k + 1, _, rfl, by go_num, by omega, HN⟩
      case measure => simp [intOf]; omega
    · obtain rfl : k = 32 := by omega
      have ht := HH.out.text HL.out
      go_wp2
      go_ret
      exact ⟨rfl, HH.out.2.2⟩
end Go.Proofs.YtpndccoikhejgaaDoor
