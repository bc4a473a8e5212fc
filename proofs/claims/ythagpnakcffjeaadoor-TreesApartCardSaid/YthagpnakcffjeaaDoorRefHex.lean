/-
  The walks of the document's Hex and Parse (layer 2). What they make is new memory; nothing that was there changes.
-/
import Derived.Test.YthagpnakcffjeaaDoorShaHex
import Derived.Test.YthagpnakcffjeaaDoorShaPar
namespace Go.Proofs.YthagpnakcffjeaaDoor
open Go.RowKit
set_option linter.unusedVariables false

set_option maxHeartbeats 400000 in
theorem value_any (c : UInt8) (w : World) : Calls Tryd.prog 33 #[.int .u8 (c.toNat : Int)] w fun e w' => e = .returned (.int .i64 (dig (c.toNat : Int))) ∧ w = w' := by
  have hc := byte_lt c
  obtain ⟨n, hn⟩ : ∃ n, n = c.toNat := ⟨_, rfl⟩
  rw [← hn] at hc ⊢
  clear hn
  by_cases h1 : 48 ≤ n
  · by_cases h2 : n ≤ 57
    · have hd : Hid (dig (n : Int) = (n : Int) - 48) := Lib.hid (by unfold dig; rw [if_pos (by omega)])
      have b1 : (48 : Int) ≤ (n : Int) := by omega
      have b2 : (n : Int) ≤ 57 := by omega
      go_enter Tryd.func33, Tryd.ntmps33
      go_wp2
      go_ret
      exact ⟨ret_i64 (by rw [hd.out]), rfl⟩
    · by_cases h3 : 97 ≤ n
      · by_cases h4 : n ≤ 102
        · have hd : Hid (dig (n : Int) = (n : Int) - 97 + 10) := Lib.hid (by unfold dig; rw [if_neg (by omega), if_pos (by omega)]; omega)
          have b1 : (97 : Int) ≤ (n : Int) := by omega
          have b2 : (n : Int) ≤ 102 := by omega
          have b3 : ¬ (n : Int) ≤ 57 := by omega
          have b4 : (48 : Int) ≤ (n : Int) := by omega
          go_enter Tryd.func33, Tryd.ntmps33
          go_wp2
          go_ret
          exact ⟨ret_i64 (by rw [hd.out]), rfl⟩
        · have hd : Hid (dig (n : Int) = -1) := Lib.hid (by unfold dig; rw [if_neg (by omega), if_neg (by omega)])
          have b1 : (97 : Int) ≤ (n : Int) := by omega
          have b2 : ¬ (n : Int) ≤ 102 := by omega
          have b3 : ¬ (n : Int) ≤ 57 := by omega
          have b4 : (48 : Int) ≤ (n : Int) := by omega
          go_enter Tryd.func33, Tryd.ntmps33
          go_wp2
          go_ret
          exact ⟨ret_i64 (by rw [hd.out]), rfl⟩
      · have hd : Hid (dig (n : Int) = -1) := Lib.hid (by unfold dig; rw [if_neg (by omega), if_neg (by omega)])
        have b1 : ¬ (97 : Int) ≤ (n : Int) := by omega
        have b3 : ¬ (n : Int) ≤ 57 := by omega
        have b4 : (48 : Int) ≤ (n : Int) := by omega
        go_enter Tryd.func33, Tryd.ntmps33
        go_wp2
        go_ret
        exact ⟨ret_i64 (by rw [hd.out]), rfl⟩
  · have hd : Hid (dig (n : Int) = -1) := Lib.hid (by unfold dig; rw [if_neg (by omega), if_neg (by omega)])
    have b1 : ¬ (97 : Int) ≤ (n : Int) := by omega
    have b4 : ¬ (48 : Int) ≤ (n : Int) := by omega
    go_enter Tryd.func33, Tryd.ntmps33
    go_wp2
    go_ret
    exact ⟨ret_i64 (by rw [hd.out]), rfl⟩
theorem digit_cutF : ∀ q : Fin 16, digitsS.extract q.val (q.val + 1) = strOfNums [hexd ((q.val : Nat) : Int)] := by
  unfold hexd
  decide +kernel
theorem digit_cut (q : Nat) (h : q < 16) : (⟨#[48, 49, 50, 51, 52, 53, 54, 55, 56, 57, 97, 98, 99, 100, 101, 102]⟩ : ByteArray).extract q (q + 1) = strOfNums [hexd (q : Int)] := digit_cutF ⟨q, h⟩
theorem str_app (a b : List Int) : strOfNums a ++ strOfNums b = strOfNums (a ++ b) := by
  simp only [strOfNums]
  rw [ByteArray.mk_append_mk]
  simp
theorem add_text (a b : ByteArray) (h : a.size + b.size ≤ 9223372036854775807) (w : World) : (Op.stringOp .add a b).run Tryd.prog w = .ok (.string (a ++ b)) w :=
  run_string_add_sum (P := Tryd.prog) (w := w) a b (by omega)
def RefHexHead (w wr : World) (l : List Int) : Prop := Row wr w.heap.size 24 (nums .u8 l) ∧ Below w.heap.size w wr
set_option maxHeartbeats 2000000 in
set_option maxRecDepth 100000 in
theorem refHex_any (l : List Int) (hl : l.length = 32) (hb : bytes l) (w : World) :
    Calls Tryd.prog 16 #[.agg (nums .u8 l)] w fun ev w' => ev = .returned (.string (hexS l)) ∧ Below w.heap.size w w' := by
  have HL := Lib.hid hl
  have HB := Lib.hid hb
  have H0 : Hid (RefHexHead w (w.alloc (.cells (nums .u8 l) 24)) l) := Lib.hid ⟨Row.made _ _ _, (Below.refl _ _).alloc (Nat.le_refl _) _⟩
  clear hl hb
  go_enter Tryd.func16, Tryd.ntmps16
  go_wp2
  go_loopw [4, 5] (fun s i wr => ∃ k : Nat, k ≤ 32 ∧ i = .int .i64 k ∧ s = .string (strOfNums (hexL (l.take k))) ∧ Hid (RefHexHead w wr l)) (fun _ i _ => (32 - intOf i).toNat)
  case atStart => exact ⟨0, by omega, rfl, rfl, H0⟩
  case round =>
    clear H0
    obtain ⟨k, hk, rfl, rfl, HH⟩ := hrel
    by_cases hlt : k < 32
    · obtain ⟨S, hS⟩ : ∃ S, Hid (S = strOfNums (hexL (l.take k))) := ⟨_, Lib.hid rfl⟩
      rw [← hS.out]
      obtain ⟨n, hn, hn2⟩ : ∃ n : Nat, Hid ((n : Int) = l.getD k 0) ∧ n < 256 := by
        have h := getD_bytes l HB.out k (by rw [HL.out]; exact hlt)
        exact ⟨(l.getD k 0).toNat, Lib.hid (by omega), by omega⟩
      have hc := HH.out.1.num (i := k) (by rw [HL.out]; exact hlt)
      rw [← hn.out] at hc
      obtain ⟨q, hq⟩ : ∃ q, Hid (q = n / 16) := ⟨_, Lib.hid rfl⟩
      obtain ⟨r, hr⟩ : ∃ r, Hid (r = n % 16) := ⟨_, Lib.hid rfl⟩
      have e1 : (n : Int) / 16 = (q : Int) := by have := hq.out; omega
      have e2 : (n : Int) % 16 = (r : Int) := by have := hr.out; omega
      have q1 : (q : Int) < 16 := by have := hq.out; omega
      have q2 : (r : Int) < 16 := by have := hr.out; omega
      have hSs : S.size ≤ 64 := by rw [hS.out, strOfNums_size, hexL_length, List.length_take]; omega
      have c1 := digit_cut q (by omega)
      have c2 := digit_cut r (by omega)
      have a1 := add_text S (strOfNums [hexd (q : Int)]) (by rw [strOfNums_size]; simp; omega)
      have a2 := add_text (S ++ strOfNums [hexd (q : Int)]) (strOfNums [hexd (r : Int)]) (by rw [ByteArray.size_append, strOfNums_size, strOfNums_size]; simp; omega)
      go_wp2
      go_quiet (fail)
      go_wp2
      go_roundw
      case rel =>
        refine ⟨k + 1, by omega, by go_num, ?_, Lib.hid ⟨HH.out.1.drewN _, below_drewN HH.out.2 _⟩⟩
        have h1 := hq.out
        have h2 := hr.out
        have h3 := hn.out
        rw [take_nextL l k (by rw [HL.out]; exact hlt), hexL_snoc, ← str_app, ← hS.out, ← h3]
        have e3 : strOfNums [hexd ((n : Int) / 16), hexd ((n : Int) % 16)] = strOfNums [hexd (q : Int)] ++ strOfNums [hexd (r : Int)] := by rw [e1, e2, str_app]; rfl
        rw [e3, ByteArray.append_assoc]
      case measure => simp [intOf]; omega
    · have hk9 : Hid (k = 32) := Lib.hid (by omega)
      go_wp2
      go_ret
      refine ⟨?_, HH.out.2⟩
      rw [hk9.out, List.take_of_length_le (by rw [HL.out]; omega)]
      rfl

end Go.Proofs.YthagpnakcffjeaaDoor
