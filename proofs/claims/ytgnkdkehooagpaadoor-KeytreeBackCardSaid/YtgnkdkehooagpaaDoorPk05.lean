/-
  Several texts in one (a claim has room for 60 files): BitOnly, LampMath, PathMath, KeyMath, Seal, RefPut, Got, RefPad, RefSumMath, RefTurn.
-/
import Derived.Test.YtgnkdkehooagpaaDoorPk00
import Derived.Test.YtgnkdkehooagpaaDoorPk04
import Derived.Stop.BytesEq
import Derived.Test.YtgnkdkehooagpaaDoorPk02
import Derived.ArgAppend
import Derived.Lib.ConvBytes
import Derived.Test.YtgnkdkehooagpaaDoorPk03
namespace Go.Proofs.YtgnkdkehooagpaaDoor
open Go.RowKit
set_option linter.unusedVariables false
set_option maxRecDepth 100000

theorem and_one (v : Nat) (h : v < 256) : bits .and .i64 (wrap64 (v : Int)) 1 = ((v % 2 : Nat) : Int) := by
  have e : wrap64 (v : Int) = v := by unfold wrap64; omega
  have m := bits_mask .i64 62 (by decide) (fun n h0 h1 => by rw [IntKind.wrap_i64]; omega) 1 (by omega) (v : Int) (by omega) (by omega)
  rw [e]
  exact m.trans (by omega)
theorem byte_shift (c : UInt8) (k : Nat) : ((c.toNat : Int) / 2 ^ k) = ((c.toNat / 2 ^ k : Nat) : Int) := by rw [Int.natCast_ediv, Int.natCast_pow]; rfl
theorem shifted_lt (c : UInt8) (k : Nat) : c.toNat / 2 ^ k < 256 := Nat.lt_of_le_of_lt (Nat.div_le_self _ _) (byte_lt c)

/-- The bit of bytes, as a number. -/
def bitAt (s : ByteArray) (i : Int) : Int := if h : 0 ≤ i ∧ (i / 8).toNat < s.size then ((s[(i / 8).toNat]'h.2).toNat / 2 ^ (7 - i % 8).toNat % 2 : Nat) else 0
theorem bitAt_bd (s : ByteArray) (i : Int) : 0 ≤ bitAt s i ∧ bitAt s i ≤ 1 := by unfold bitAt; split <;> omega
set_option maxHeartbeats 400000 in
theorem bit_any (s : ByteArray) (i : Int) (w : World) (hs : s.size ≤ maxLen) (h : -9223372036854775808 ≤ i ∧ i ≤ 9223372036854775807) :
    Calls Tryd.prog 64 #[.string s, .int .i64 i] w fun e w' => e = .returned (.int .i64 (bitAt s i)) ∧ w = w' := by
  unfold maxLen at hs
  by_cases hneg : i < 0
  · have HZ := Lib.hid (show bitAt s i = 0 by unfold bitAt; rw [dif_neg (by omega)])
    go_enter Tryd.func64, Tryd.ntmps64
    go_wp2
    go_ret
    exact ⟨ret_i64 HZ.out.symm, rfl⟩
  · by_cases hbig : (s.size : Int) ≤ i / 8
    · have HZ := Lib.hid (show bitAt s i = 0 by unfold bitAt; rw [dif_neg (by omega)])
      go_enter Tryd.func64, Tryd.ntmps64
      go_wp2
      go_ret
      exact ⟨ret_i64 HZ.out.symm, rfl⟩
    · have hlt : (i / 8).toNat < s.size := by omega
      go_enter Tryd.func64, Tryd.ntmps64
      go_wp2
      go_ret
      refine ⟨ret_i64 ?_, rfl⟩
      unfold bitAt
      rw [dif_pos ⟨by omega, hlt⟩, byte_shift, and_one _ (shifted_lt _ _)]
/-- A byte, moved down. -/
def sh (c : UInt8) (j : Nat) : Nat := c.toNat / 2 ^ j
theorem sh_lt (c : UInt8) (j : Nat) : sh c j < 256 := shifted_lt c j
theorem halved (c : UInt8) (j : Nat) : ((sh c j : Nat) : Int) / 2 = ((sh c (j + 1) : Nat) : Int) := by
  unfold sh; rw [Nat.pow_succ, ← Nat.div_div_eq_div_mul]; omega
set_option maxHeartbeats 400000 in
theorem refBit_any (s : ByteArray) (i : Int) (w : World) (hs : s.size ≤ maxLen) (h : -9223372036854775808 ≤ i ∧ i ≤ 9223372036854775807) :
    Calls Tryd.prog 49 #[.string s, .int .i64 i] w fun e w' => e = .returned (.int .i64 (bitAt s i)) ∧ w = w' := by
  unfold maxLen at hs
  by_cases hneg : i < 0
  · have HZ := Lib.hid (show bitAt s i = 0 by unfold bitAt; rw [dif_neg (by omega)])
    go_enter Tryd.func49, Tryd.ntmps49
    go_wp2
    go_ret
    exact ⟨ret_i64 HZ.out.symm, rfl⟩
  · by_cases hbig : (s.size : Int) ≤ i / 8
    · have HZ := Lib.hid (show bitAt s i = 0 by unfold bitAt; rw [dif_neg (by omega)])
      go_enter Tryd.func49, Tryd.ntmps49
      go_wp2
      go_ret
      exact ⟨ret_i64 HZ.out.symm, rfl⟩
    · have hlt : (i / 8).toNat < s.size := by omega
      obtain ⟨c, hc⟩ : ∃ c : UInt8, c = s[(i / 8).toNat] := ⟨_, rfl⟩
      have HB := Lib.hid (show bitAt s i = (sh c (7 - i % 8).toNat % 2 : Nat) by unfold bitAt sh; rw [dif_pos ⟨by omega, hlt⟩, hc])
      have HC := Lib.hid hc
      clear hc
      go_enter Tryd.func49, Tryd.ntmps49
      go_wp2
      go_loop [5, 6] (fun t k => ∃ j : Nat, j ≤ (7 - i % 8).toNat ∧ k = .int .i64 (i % 8 + j) ∧ t = .int .u8 (sh c j : Nat)) (fun _ k => (7 - intOf k).toNat)
      case atStart => exact ⟨0, by omega, by simp, by rw [← HC.out]; simp [sh]⟩
      case round =>
        obtain ⟨j, hj, rfl, rfl⟩ := hrel
        have hl := sh_lt c j
        by_cases hlt2 : j < (7 - i % 8).toNat
        · have HH := Lib.hid (halved c j)
          go_wp2
          go_round
          case rel => exact ⟨j + 1, by omega, by first | go_num | (congr 1; omega), by rw [← HH.out]⟩
          case measure => simp [intOf]; omega
        · obtain rfl : j = (7 - i % 8).toNat := by omega
          go_wp2
          go_ret
          exact ⟨ret_i64 (by rw [HB.out]; omega), rfl⟩
end Go.Proofs.YtgnkdkehooagpaaDoor
namespace Go.Proofs.YtgnkdkehooagpaaDoor
open Go.RowKit
set_option linter.unusedVariables false
set_option maxRecDepth 100000

def zeroL : List Int := List.replicate 32 0
theorem zeroL_is : zeroL.length = 32 ∧ bytes zeroL := ⟨rfl, fun x hx => by have := List.eq_of_mem_replicate hx; omega⟩
/-- What is hashed of a secret. -/
def secS (seed : ByteArray) (index i bit : Int) : ByteArray := ⟨#[2]⟩ ++ textS seed ++ putS index 4 ++ putS (2 * i + bit) 2
def secL (seed : ByteArray) (index i bit : Nat) : List Int := sumL (secS seed index i bit)
/-- A secret; zero, if there is none. -/
def secF (seed : ByteArray) (index i bit : Int) : List Int := if index < 0 ∨ 2147483647 < index ∨ i < 0 ∨ 255 < i ∨ (bit ≠ 0 ∧ bit ≠ 1) then zeroL else sumL (secS seed index i bit)
theorem secF_no {seed : ByteArray} {index i bit : Int} (h : index < 0 ∨ 2147483647 < index ∨ i < 0 ∨ 255 < i ∨ (bit ≠ 0 ∧ bit ≠ 1)) : secF seed index i bit = zeroL := by unfold secF; rw [if_pos h]
theorem secF_ok {seed : ByteArray} {index i bit : Nat} (h1 : index ≤ 2147483647) (h2 : i ≤ 255) (h3 : bit ≤ 1) : secF seed index i bit = secL seed index i bit := by unfold secF; rw [if_neg (by omega)]; rfl
theorem secL_is (seed : ByteArray) (index i bit : Nat) : (secL seed index i bit).length = 32 ∧ bytes (secL seed index i bit) := ⟨sumL_length _, sumL_bytes _⟩
theorem secF_is (seed : ByteArray) (index i bit : Int) : (secF seed index i bit).length = 32 ∧ bytes (secF seed index i bit) := by
  unfold secF
  split
  · exact zeroL_is
  · exact ⟨sumL_length _, sumL_bytes _⟩
/-- A secret's hash. -/
def pubH (h : List Int) : List Int := sumL (⟨#[3]⟩ ++ strOfNums h)
theorem pubH_is (h : List Int) : (pubH h).length = 32 ∧ bytes (pubH h) := ⟨sumL_length _, sumL_bytes _⟩
def pubAt (seed : ByteArray) (index k : Nat) : List Int := pubH (secL seed index (k / 2) (k % 2))
/-- The first n of a key's public hashes. -/
def pubN (seed : ByteArray) (index n : Nat) : List (List Int) := (List.range n).map (pubAt seed index)
theorem pubN_length (seed : ByteArray) (index n : Nat) : (pubN seed index n).length = n := by simp [pubN]
theorem pubN_next (seed : ByteArray) (index n : Nat) : pubN seed index (n + 1) = pubN seed index n ++ [pubAt seed index n] := by unfold pubN; rw [List.range_succ, List.map_append]; rfl
theorem pubN_get (seed : ByteArray) (index n k : Nat) (h : k < n) : (pubN seed index n).getD k [] = pubAt seed index k := by simp [pubN, List.getD, h]
theorem pubN_hashes (seed : ByteArray) (index n : Nat) : hashes (pubN seed index n) := fun l hl => by
  obtain ⟨k, _, rfl⟩ := List.mem_map.1 hl
  exact pubH_is _
/-- A key's public hashes; none, if there is no such key. -/
def pubF (seed : ByteArray) (index : Int) : List (List Int) := if index < 0 ∨ 2147483647 < index then [] else pubN seed index.toNat 512
theorem pubF_no {seed : ByteArray} {index : Int} (h : index < 0 ∨ 2147483647 < index) : pubF seed index = [] := by unfold pubF; rw [if_pos h]
theorem pubF_ok {seed : ByteArray} {index : Nat} (h : index ≤ 2147483647) : pubF seed index = pubN seed index 512 := by unfold pubF; rw [if_neg (by omega)]; rfl
theorem pubF_hashes (seed : ByteArray) (index : Int) : hashes (pubF seed index) := by
  unfold pubF
  split
  · intro l hl; cases hl
  · exact pubN_hashes _ _ _
/-- What stands for a key with these hashes. -/
def keyS (ls : List (List Int)) : ByteArray := ⟨#[4]⟩ ++ strOfNums ls.flatten
def keyF (ls : List (List Int)) : List Int := if ls.length = 512 then sumL (keyS ls) else zeroL
theorem keyF_no {ls : List (List Int)} (h : ¬ ls.length = 512) : keyF ls = zeroL := by unfold keyF; rw [if_neg h]
theorem keyF_ok {ls : List (List Int)} (h : ls.length = 512) : keyF ls = sumL (keyS ls) := by unfold keyF; rw [if_pos h]
theorem keyF_is (ls : List (List Int)) : (keyF ls).length = 32 ∧ bytes (keyF ls) := by
  unfold keyF
  split
  · exact ⟨sumL_length _, sumL_bytes _⟩
  · exact zeroL_is
/-- A digest's bit. -/
def bitN (d : List Int) (i : Nat) : Nat := (bitAt (strOfNums d) i).toNat
theorem bitN_le (d : List Int) (i : Nat) : bitN d i ≤ 1 := by have := bitAt_bd (strOfNums d) i; unfold bitN; omega
theorem bitN_is (d : List Int) (i : Nat) : bitAt (strOfNums d) (i : Int) = (bitN d i : Int) := by have := bitAt_bd (strOfNums d) i; unfold bitN; omega
/-- The first n parts of a signature's front, and of what is behind it. -/
def sigA (seed : ByteArray) (index : Nat) (d : List Int) (n : Nat) : List (List Int) := (List.range n).map fun i => secL seed index i (bitN d i)
def sigB (seed : ByteArray) (index : Nat) (d : List Int) (n : Nat) : List (List Int) := (List.range n).map fun i => pubH (secL seed index i (1 - bitN d i))
theorem sigA_length (seed : ByteArray) (index : Nat) (d : List Int) (n : Nat) : (sigA seed index d n).length = n := by simp [sigA]
theorem sigB_length (seed : ByteArray) (index : Nat) (d : List Int) (n : Nat) : (sigB seed index d n).length = n := by simp [sigB]
theorem sigA_next (seed : ByteArray) (index : Nat) (d : List Int) (n : Nat) : sigA seed index d (n + 1) = sigA seed index d n ++ [secL seed index n (bitN d n)] := by unfold sigA; rw [List.range_succ, List.map_append]; rfl
theorem sigB_next (seed : ByteArray) (index : Nat) (d : List Int) (n : Nat) : sigB seed index d (n + 1) = sigB seed index d n ++ [pubH (secL seed index n (1 - bitN d n))] := by unfold sigB; rw [List.range_succ, List.map_append]; rfl
theorem sigA_get (seed : ByteArray) (index : Nat) (d : List Int) (n i : Nat) (h : i < n) : (sigA seed index d n).getD i [] = secL seed index i (bitN d i) := by simp [sigA, List.getD, h]
theorem sigB_get (seed : ByteArray) (index : Nat) (d : List Int) (n i : Nat) (h : i < n) : (sigB seed index d n).getD i [] = pubH (secL seed index i (1 - bitN d i)) := by simp [sigB, List.getD, h]
theorem sigA_hashes (seed : ByteArray) (index : Nat) (d : List Int) (n : Nat) : hashes (sigA seed index d n) := fun l hl => by
  obtain ⟨k, _, rfl⟩ := List.mem_map.1 hl
  exact secL_is _ _ _ _
theorem sigB_hashes (seed : ByteArray) (index : Nat) (d : List Int) (n : Nat) : hashes (sigB seed index d n) := fun l hl => by
  obtain ⟨k, _, rfl⟩ := List.mem_map.1 hl
  exact pubH_is _
theorem flat_size {ls : List (List Int)} (h : hashes ls) : ls.flatten.length = 32 * ls.length := by
  induction ls with
  | nil => rfl
  | cons l r ih =>
    rw [List.flatten_cons, List.length_append, ih (fun x hx => h x (by simp [hx])), (h l (by simp)).1, List.length_cons]
    omega
theorem flat_bytes {ls : List (List Int)} (h : hashes ls) : bytes ls.flatten := fun x hx => by
  obtain ⟨l, hl, hx⟩ := List.mem_flatten.1 hx
  exact (h l hl).2 x hx
theorem flat_part (ls : List (List Int)) : hashes ls → ∀ i, i < ls.length → (ls.flatten.drop (32 * i)).take 32 = ls.getD i [] := by
  induction ls with
  | nil => intro _ i h; simp at h
  | cons l r ih =>
    intro hs i hi
    have hl := (hs l (by simp)).1
    cases i with
    | zero =>
      rw [List.flatten_cons, Nat.mul_zero, List.drop_zero, List.take_append_of_le_length (by omega), List.take_of_length_le (by omega)]
      rfl
    | succ i =>
      have := ih (fun x hx => hs x (by simp [hx])) i (by simpa using hi)
      rw [List.flatten_cons, List.drop_append, List.drop_of_length_le (by omega), List.nil_append, show 32 * (i + 1) - l.length = 32 * i by omega, this]
      rfl
/-- A signature's bytes; nothing, if there is no such key. -/
def sigL (seed : ByteArray) (index : Nat) (d : List Int) : List Int := (sigA seed index d 256).flatten ++ (sigB seed index d 256).flatten
def sigF (seed : ByteArray) (index : Int) (d : List Int) : ByteArray := if index < 0 ∨ 2147483647 < index then ⟨#[]⟩ else strOfNums (sigL seed index.toNat d)
theorem sigF_no {seed : ByteArray} {index : Int} {d : List Int} (h : index < 0 ∨ 2147483647 < index) : sigF seed index d = ⟨#[]⟩ := by unfold sigF; rw [if_pos h]
theorem sigF_ok {seed : ByteArray} {index : Nat} {d : List Int} (h : index ≤ 2147483647) : sigF seed index d = strOfNums (sigL seed index d) := by unfold sigF; rw [if_neg (by omega)]; rfl
theorem sigL_length (seed : ByteArray) (index : Nat) (d : List Int) : (sigL seed index d).length = 16384 := by
  unfold sigL
  rw [List.length_append, flat_size (sigA_hashes _ _ _ _), flat_size (sigB_hashes _ _ _ _), sigA_length, sigB_length]
theorem sigL_bytes (seed : ByteArray) (index : Nat) (d : List Int) : bytes (sigL seed index d) := fun x hx => by
  rcases List.mem_append.1 hx with h | h
  · exact flat_bytes (sigA_hashes _ _ _ _) x h
  · exact flat_bytes (sigB_hashes _ _ _ _) x h
theorem sigL_front (seed : ByteArray) (index : Nat) (d : List Int) (i : Nat) (h : i < 256) : ((sigL seed index d).drop (32 * i)).take 32 = secL seed index i (bitN d i) := by
  have hl := flat_size (sigA_hashes seed index d 256)
  rw [sigA_length] at hl
  unfold sigL
  rw [List.drop_append_of_le_length (by omega), List.take_append_of_le_length (by rw [List.length_drop]; omega), flat_part _ (sigA_hashes _ _ _ _) i (by rw [sigA_length]; exact h), sigA_get _ _ _ _ _ h]
theorem sigL_back (seed : ByteArray) (index : Nat) (d : List Int) (i : Nat) (h : i < 256) : ((sigL seed index d).drop (8192 + 32 * i)).take 32 = pubH (secL seed index i (1 - bitN d i)) := by
  have hl := flat_size (sigA_hashes seed index d 256)
  rw [sigA_length] at hl
  unfold sigL
  rw [List.drop_append, List.drop_of_length_le (by omega), List.nil_append, show 8192 + 32 * i - ((sigA seed index d 256).flatten).length = 32 * i by omega, flat_part _ (sigB_hashes _ _ _ _) i (by rw [sigB_length]; exact h), sigB_get _ _ _ _ _ h]
/-- The public hashes that bytes and a digest say. -/
def recAt (T d : List Int) (k : Nat) : List Int := if k % 2 = bitN d (k / 2) then pubH ((T.drop (32 * (k / 2))).take 32) else (T.drop (8192 + 32 * (k / 2))).take 32
def recL (T d : List Int) : List (List Int) := (List.range 512).map (recAt T d)
theorem recL_length (T d : List Int) : (recL T d).length = 512 := by simp [recL]
theorem recL_get (T d : List Int) (k : Nat) (h : k < 512) : (recL T d).getD k [] = recAt T d k := by simp [recL, List.getD, h]
theorem recAt_is (T d : List Int) (hT : bytes T) (hl : T.length = 16384) (k : Nat) (hk : k < 512) : (recAt T d k).length = 32 ∧ bytes (recAt T d k) := by
  unfold recAt
  split
  · exact pubH_is _
  · refine ⟨by rw [List.length_take, List.length_drop]; omega, fun x hx => hT x (List.mem_of_mem_drop (List.mem_of_mem_take hx))⟩
theorem recL_hashes (T d : List Int) (hT : bytes T) (hl : T.length = 16384) : hashes (recL T d) := fun l h => by
  obtain ⟨k, hk, rfl⟩ := List.mem_map.1 h
  exact recAt_is T d hT hl k (by simpa using hk)
/-- What is recovered, and the error. -/
def recF (s : ByteArray) (d : List Int) : List Int × Int := if s.size = 16384 then (keyF (recL (textL s) d), 0) else (zeroL, 10)
theorem recF_no {s : ByteArray} {d : List Int} (h : ¬ s.size = 16384) : recF s d = (zeroL, 10) := by unfold recF; rw [if_neg h]
theorem recF_ok {s : ByteArray} {d : List Int} (h : s.size = 16384) : recF s d = (keyF (recL (textL s) d), 0) := by unfold recF; rw [if_pos h]
theorem recF_is (s : ByteArray) (d : List Int) : (recF s d).1.length = 32 ∧ bytes (recF s d).1 := by
  unfold recF
  split
  · exact keyF_is (recL (textL s) d)
  · exact zeroL_is
/-- Of a signature its key's public hashes are told. -/
theorem recL_sig (seed : ByteArray) (index : Nat) (d : List Int) : recL (sigL seed index d) d = pubN seed index 512 := by
  unfold recL pubN
  refine List.map_congr_left (fun k hk => ?_)
  have hk : k < 512 := by simpa using hk
  have hb := bitN_le d (k / 2)
  unfold recAt pubAt
  split
  · rename_i h
    rw [sigL_front _ _ _ _ (by omega), h]
  · rename_i h
    rw [sigL_back _ _ _ _ (by omega), show 1 - bitN d (k / 2) = k % 2 by omega]
theorem sigF_size (seed : ByteArray) (index : Nat) (d : List Int) (h : index ≤ 2147483647) : (sigF seed index d).size = 16384 := by rw [sigF_ok h, strOfNums_size, sigL_length]
theorem recF_sig (seed : ByteArray) (index : Nat) (d : List Int) (h : index ≤ 2147483647) : recF (sigF seed index d) d = (keyF (pubN seed index 512), 0) := by
  rw [recF_ok (sigF_size seed index d h), sigF_ok h, textL_nums _ (sigL_bytes seed index d), recL_sig]
end Go.Proofs.YtgnkdkehooagpaaDoor
namespace Go.Proofs.YtgnkdkehooagpaaDoor
open Go.RowKit
set_option linter.unusedVariables false
set_option maxRecDepth 100000

/-- The path of a leaf. -/
def pathL (ls : List (List Int)) (i : Nat) : List (List Int) :=
  if h : ls.length < 2 then []
  else if i < splitN ls.length then pathL (ls.take (splitN ls.length)) i ++ [rootL (ls.drop (splitN ls.length))]
  else pathL (ls.drop (splitN ls.length)) (i - splitN ls.length) ++ [rootL (ls.take (splitN ls.length))]
termination_by ls.length
decreasing_by
  · rw [List.length_take]; have := splitN_lt ls.length (by omega); omega
  · rw [List.length_drop]; have := splitN_pos ls.length (by omega); omega
theorem pathL_few (ls : List (List Int)) (i : Nat) (h : ls.length < 2) : pathL ls i = [] := by rw [pathL, dif_pos h]
theorem pathL_left (ls : List (List Int)) (i : Nat) (h : 2 ≤ ls.length) (hi : i < splitN ls.length) : pathL ls i = pathL (ls.take (splitN ls.length)) i ++ [rootL (ls.drop (splitN ls.length))] := by
  rw [pathL, dif_neg (by omega), if_pos hi]
theorem pathL_right (ls : List (List Int)) (i : Nat) (h : 2 ≤ ls.length) (hi : ¬ i < splitN ls.length) : pathL ls i = pathL (ls.drop (splitN ls.length)) (i - splitN ls.length) ++ [rootL (ls.take (splitN ls.length))] := by
  rw [pathL, dif_neg (by omega), if_neg hi]
theorem pathL_hashes (n : Nat) : ∀ (ls : List (List Int)) (i : Nat), ls.length = n → hashes ls → hashes (pathL ls i) := by
  induction n using Nat.strongRecOn with
  | ind n ih =>
    intro ls i hn h
    have snoc : ∀ (p : List (List Int)) (x : List Int), hashes p → (x.length = 32 ∧ bytes x) → hashes (p ++ [x]) := fun p x hp hx l hl => by
      rcases List.mem_append.1 hl with hl | hl
      · exact hp l hl
      · rw [List.mem_singleton.1 hl]; exact hx
    by_cases h2 : ls.length < 2
    · rw [pathL_few ls i h2]; intro l hl; cases hl
    · have h3 := splitN_lt ls.length (by omega)
      have h4 := splitN_pos ls.length (by omega)
      by_cases hi : i < splitN ls.length
      · rw [pathL_left ls i (by omega) hi]
        exact snoc _ _ (ih (splitN ls.length) (by omega) _ i (by rw [List.length_take]; omega) (hashes_take h _)) (rootL_is _ (hashes_drop h _))
      · rw [pathL_right ls i (by omega) hi]
        exact snoc _ _ (ih (ls.length - splitN ls.length) (by omega) _ _ (by rw [List.length_drop]) (hashes_drop h _)) (rootL_is _ (hashes_take h _))
/-- What a leaf, its number among n and a path, its last one first, come to. -/
def comeR (h : List Int) : Nat → Nat → List (List Int) → Option (List Int)
  | i, n, [] => if n = 1 then some h else none
  | i, n, x :: r => if n = 1 then none else if i < splitN n then (comeR h i (splitN n) r).map (fun y => nodeL y x) else (comeR h (i - splitN n) (n - splitN n) r).map (fun y => nodeL x y)
/-- On which side a leaf is, level by level from below: true: left. -/
def sides (i last : Nat) : List Bool :=
  if h : last = 0 then [] else if i = last ∧ i % 2 = 0 then sides (i / 2) (last / 2) else (i % 2 == 0) :: sides (i / 2) (last / 2)
termination_by last
decreasing_by all_goals omega
theorem sides_zero (i : Nat) : sides i 0 = [] := by rw [sides, dif_pos rfl]
theorem sides_skip (i last : Nat) (h0 : last ≠ 0) (h : i = last ∧ i % 2 = 0) : sides i last = sides (i / 2) (last / 2) := by rw [sides, dif_neg h0, if_pos h]
theorem sides_more (i last : Nat) (h0 : last ≠ 0) (h : ¬ (i = last ∧ i % 2 = 0)) : sides i last = (i % 2 == 0) :: sides (i / 2) (last / 2) := by rw [sides, dif_neg h0, if_neg h]
theorem sides_left (b : Nat) : ∀ i last, i < 2 ^ b → 2 ^ b ≤ last → last < 2 ^ (b + 1) → sides i last = sides i (2 ^ b - 1) ++ [true] := by
  induction b with
  | zero =>
    intro i last h1 h2 h3
    simp at h1 h2 h3
    obtain rfl : last = 1 := by omega
    subst h1
    rw [sides_more 0 1 (by omega) (by omega)]
    simp [sides_zero]
  | succ b ih =>
    intro i last h1 h2 h3
    have hp := Nat.two_pow_pos b
    have e1 : 2 ^ (b + 1) = 2 * 2 ^ b := by rw [Nat.pow_succ]; omega
    have e2 : 2 ^ (b + 1 + 1) = 4 * 2 ^ b := by rw [Nat.pow_succ, e1]; omega
    rw [e1] at h1 h2
    rw [e2] at h3
    rw [e1, sides_more i last (by omega) (by omega), sides_more i (2 * 2 ^ b - 1) (by omega) (by omega), ih (i / 2) (last / 2) (by omega) (by omega) (by rw [e1]; omega), show (2 * 2 ^ b - 1) / 2 = 2 ^ b - 1 by omega]
    rfl
theorem sides_right (b : Nat) : ∀ i last, 2 ^ b ≤ i → i ≤ last → last < 2 ^ (b + 1) → sides i last = sides (i - 2 ^ b) (last - 2 ^ b) ++ [false] := by
  induction b with
  | zero =>
    intro i last h1 h2 h3
    simp at h1 h2 h3
    obtain rfl : last = 1 := by omega
    obtain rfl : i = 1 := by omega
    rw [sides_more 1 1 (by omega) (by omega)]
    simp [sides_zero]
  | succ b ih =>
    intro i last h1 h2 h3
    have hp := Nat.two_pow_pos b
    have e1 : 2 ^ (b + 1) = 2 * 2 ^ b := by rw [Nat.pow_succ]; omega
    have e2 : 2 ^ (b + 1 + 1) = 4 * 2 ^ b := by rw [Nat.pow_succ, e1]; omega
    rw [e1] at h1
    rw [e2] at h3
    rw [e1]
    have hi := ih (i / 2) (last / 2) (by omega) (by omega) (by rw [e1]; omega)
    have d1 : (i - 2 * 2 ^ b) / 2 = i / 2 - 2 ^ b := by omega
    have d2 : (last - 2 * 2 ^ b) / 2 = last / 2 - 2 ^ b := by omega
    by_cases hs : i = last ∧ i % 2 = 0
    · rw [sides_skip i last (by omega) hs, hi]
      by_cases h0 : last - 2 * 2 ^ b = 0
      · rw [h0, sides_zero, show last / 2 - 2 ^ b = 0 by omega, sides_zero]
      · rw [sides_skip (i - 2 * 2 ^ b) (last - 2 * 2 ^ b) h0 (by omega), d1, d2]
    · rw [sides_more i last (by omega) hs, hi, sides_more (i - 2 * 2 ^ b) (last - 2 * 2 ^ b) (by omega) (by omega), d1, d2, show (i - 2 * 2 ^ b) % 2 = i % 2 by omega]
      rfl
/-- Where n is parted. -/
theorem split_pow (n : Nat) (h : 2 ≤ n) : ∃ b, splitN n = 2 ^ b ∧ 2 ^ b < n ∧ n ≤ 2 ^ (b + 1) := by
  have h1 := Nat.log2_self_le (n := n - 1) (by omega)
  have h2 := Nat.lt_log2_self (n := n - 1)
  exact ⟨Nat.log2 (n - 1), by unfold splitN; rw [if_neg (by omega)], by omega, by omega⟩
theorem sides_split (i n : Nat) (h : 2 ≤ n) (hi : i < n) : sides i (n - 1) = if i < splitN n then sides i (splitN n - 1) ++ [true] else sides (i - splitN n) (n - splitN n - 1) ++ [false] := by
  obtain ⟨b, e, h1, h2⟩ := split_pow n h
  rw [e]
  split
  · rename_i hk
    exact sides_left b i (n - 1) hk (by omega) (by omega)
  · rename_i hk
    rw [sides_right b i (n - 1) (by omega) (by omega) (by omega), show n - 1 - 2 ^ b = n - 2 ^ b - 1 by omega]
/-- A hash put together with others, from below. -/
def climbD (h : List Int) : List Bool → List (List Int) → List Int
  | true :: d, x :: p => climbD (nodeL h x) d p
  | false :: d, x :: p => climbD (nodeL x h) d p
  | _, _ => h
theorem climbD_snoc (d : List Bool) : ∀ (h : List Int) (p : List (List Int)) (b : Bool) (x : List Int), d.length = p.length → climbD h (d ++ [b]) (p ++ [x]) = if b then nodeL (climbD h d p) x else nodeL x (climbD h d p) := by
  induction d with
  | nil =>
    intro h p b x hl
    obtain rfl : p = [] := List.eq_nil_of_length_eq_zero hl.symm
    cases b <;> rfl
  | cons c d ih =>
    intro h p b x hl
    cases p with
    | nil => simp at hl
    | cons y p =>
      have := ih (if c then nodeL h y else nodeL y h) p b x (by simpa using hl)
      cases c <;> exact this
theorem comeR_sides (r : List (List Int)) : ∀ (h : List Int) (i n : Nat), i < n → comeR h i n r = if (sides i (n - 1)).length = r.length then some (climbD h (sides i (n - 1)) r.reverse) else none := by
  induction r with
  | nil =>
    intro h i n hi
    by_cases hn : n = 1
    · subst hn
      rw [sides_zero]; rfl
    · have := sides_split i n (by omega) hi
      have hl : 0 < (sides i (n - 1)).length := by rw [this]; split <;> simp
      unfold comeR
      rw [if_neg hn, if_neg (by rw [List.length_nil]; omega)]
  | cons x r ih =>
    intro h i n hi
    by_cases hn : n = 1
    · subst hn
      unfold comeR
      rw [if_pos rfl, sides_zero, if_neg (by simp)]
    · have hsp := sides_split i n (by omega) hi
      have hk1 := splitN_lt n (by omega)
      have hk2 := splitN_pos n (by omega)
      unfold comeR
      rw [if_neg hn, hsp, List.reverse_cons]
      by_cases hk : i < splitN n
      · rw [if_pos hk, if_pos hk, ih h i (splitN n) hk, List.length_append, List.length_singleton, List.length_cons]
        by_cases hl : (sides i (splitN n - 1)).length = r.length
        · rw [if_pos hl, if_pos (by omega), climbD_snoc _ _ _ _ _ (by rw [hl, List.length_reverse])]; rfl
        · rw [if_neg hl, if_neg (by omega)]; rfl
      · rw [if_neg hk, if_neg hk, ih h (i - splitN n) (n - splitN n) (by omega), List.length_append, List.length_singleton, List.length_cons]
        by_cases hl : (sides (i - splitN n) (n - splitN n - 1)).length = r.length
        · rw [if_pos hl, if_pos (by omega), climbD_snoc _ _ _ _ _ (by rw [hl, List.length_reverse])]; rfl
        · rw [if_neg hl, if_neg (by omega)]; rfl
/-- What a leaf and a path come to, of its number i among last + 1. -/
def comeL (h : List Int) (i last : Nat) (p : List (List Int)) : Option (List Int) := if (sides i last).length = p.length then some (climbD h (sides i last) p) else none
theorem comeR_L (h : List Int) (i n : Nat) (hi : i < n) (p : List (List Int)) : comeR h i n p.reverse = comeL h i (n - 1) p := by
  rw [comeR_sides _ h i n hi, List.length_reverse, List.reverse_reverse]; rfl
theorem comeL_done (h : List Int) (i : Nat) : comeL h i 0 [] = some h := by unfold comeL; rw [sides_zero]; rfl
theorem comeL_left (h : List Int) (i : Nat) (x : List Int) (p : List (List Int)) : comeL h i 0 (x :: p) = none := by unfold comeL; rw [sides_zero]; rfl
theorem sides_length_pos (last : Nat) : ∀ i, last ≠ 0 → i ≤ last → 0 < (sides i last).length := by
  induction last using Nat.strongRecOn with
  | ind last ih =>
    intro i h0 hi
    by_cases hs : i = last ∧ i % 2 = 0
    · rw [sides_skip i last h0 hs]; exact ih (last / 2) (by omega) (i / 2) (by omega) (by omega)
    · rw [sides_more i last h0 hs]; simp
theorem comeL_few (h : List Int) (i last : Nat) (h0 : last ≠ 0) (hi : i ≤ last) : comeL h i last [] = none := by
  unfold comeL
  have := sides_length_pos last i h0 hi
  rw [if_neg (by rw [List.length_nil]; omega)]
theorem comeL_skip (h : List Int) (i last : Nat) (p : List (List Int)) (h0 : last ≠ 0) (hs : i = last ∧ i % 2 = 0) : comeL h i last p = comeL h (i / 2) (last / 2) p := by
  unfold comeL; rw [sides_skip i last h0 hs]
theorem comeL_even (h : List Int) (i last : Nat) (x : List Int) (p : List (List Int)) (h0 : last ≠ 0) (hs : ¬ (i = last ∧ i % 2 = 0)) (he : i % 2 = 0) : comeL h i last (x :: p) = comeL (nodeL h x) (i / 2) (last / 2) p := by
  unfold comeL
  rw [sides_more i last h0 hs, show (i % 2 == 0) = true by simp [he]]
  simp only [List.length_cons, Nat.add_right_cancel_iff]
  rfl
theorem comeL_odd (h : List Int) (i last : Nat) (x : List Int) (p : List (List Int)) (h0 : last ≠ 0) (he : i % 2 = 1) : comeL h i last (x :: p) = comeL (nodeL x h) (i / 2) (last / 2) p := by
  unfold comeL
  rw [sides_more i last h0 (by omega), show (i % 2 == 0) = false by simp; omega]
  simp only [List.length_cons, Nat.add_right_cancel_iff]
  rfl
/-- Each leaf's path comes to the root. -/
theorem comeR_path (n : Nat) : ∀ (ls : List (List Int)) (i : Nat), ls.length = n → i < n → comeR (ls.getD i []) i n (pathL ls i).reverse = some (rootL ls) := by
  induction n using Nat.strongRecOn with
  | ind n ih =>
    intro ls i hn hi
    by_cases h2 : ls.length < 2
    · obtain rfl : n = 1 := by omega
      obtain rfl : i = 0 := by omega
      rw [pathL_few ls 0 h2, rootL_one ls hn]
      rfl
    · have h3 := splitN_lt ls.length (by omega)
      have h4 := splitN_pos ls.length (by omega)
      rw [rootL_more ls (by omega)]
      by_cases hk : i < splitN ls.length
      · rw [pathL_left ls i (by omega) hk, List.reverse_append]
        show comeR _ i n (_ :: (pathL (ls.take (splitN ls.length)) i).reverse) = _
        have e : ls.getD i [] = (ls.take (splitN ls.length)).getD i [] := by
          rw [List.getD_eq_getElem?_getD, List.getD_eq_getElem?_getD, List.getElem?_take, if_pos hk]
        unfold comeR
        rw [if_neg (by omega), ← hn, if_pos hk, e, ih (splitN ls.length) (by omega) _ i (by rw [List.length_take]; omega) hk]
        rfl
      · rw [pathL_right ls i (by omega) hk, List.reverse_append]
        show comeR _ i n (_ :: (pathL (ls.drop (splitN ls.length)) (i - splitN ls.length)).reverse) = _
        have e : ls.getD i [] = (ls.drop (splitN ls.length)).getD (i - splitN ls.length) [] := by
          rw [List.getD_eq_getElem?_getD, List.getD_eq_getElem?_getD, List.getElem?_drop, show splitN ls.length + (i - splitN ls.length) = i by omega]
        unfold comeR
        rw [if_neg (by omega), ← hn, if_neg hk, e, ih (ls.length - splitN ls.length) (by omega) _ (i - splitN ls.length) (by rw [List.length_drop]) (by omega)]
        rfl
theorem comeL_path (ls : List (List Int)) (i : Nat) (hi : i < ls.length) : comeL (ls.getD i []) i (ls.length - 1) (pathL ls i) = some (rootL ls) := by
  rw [← comeR_L _ i ls.length hi]; exact comeR_path _ ls i rfl hi
theorem pathL_sides (ls : List (List Int)) (i : Nat) (hi : i < ls.length) : (pathL ls i).length = (sides i (ls.length - 1)).length := by
  have := comeL_path ls i hi
  unfold comeL at this
  split at this
  · rename_i h; exact h.symm
  · cases this
theorem comeL_length (h : List Int) (i last : Nat) (p : List (List Int)) (hl : p.length ≠ (sides i last).length) : comeL h i last p = none := by
  unfold comeL; rw [if_neg (by omega)]
theorem sides_length (b : Nat) : ∀ i last, last < 2 ^ b → (sides i last).length ≤ b := by
  induction b with
  | zero => intro i last h; simp at h; subst h; rw [sides_zero]; simp
  | succ b ih =>
    intro i last h
    rw [Nat.pow_succ] at h
    by_cases h0 : last = 0
    · subst h0; rw [sides_zero]; simp
    · by_cases hs : i = last ∧ i % 2 = 0
      · rw [sides_skip i last h0 hs]; have := ih (i / 2) (last / 2) (by omega); omega
      · rw [sides_more i last h0 hs, List.length_cons]; have := ih (i / 2) (last / 2) (by omega); omega
theorem climbD_is (d : List Bool) : ∀ (h : List Int) (p : List (List Int)), h.length = 32 ∧ bytes h → (climbD h d p).length = 32 ∧ bytes (climbD h d p) := by
  induction d with
  | nil => intro h p hh; exact hh
  | cons b d ih =>
    intro h p hh
    cases p with
    | nil => cases b <;> exact hh
    | cons x p => cases b <;> exact ih _ p ⟨sumL_length _, sumL_bytes _⟩
/-- What Check answers: 0, 2 or 80. -/
def checkF (h : List Int) (i n : Int) (p : List (List Int)) (root : List Int) : Int :=
  if n < 1 ∨ 4096 < n ∨ i < 0 ∨ n ≤ i then 2 else if comeL h i.toNat (n.toNat - 1) p = some root then 0 else 80
theorem checkF_arg {h : List Int} {i n : Int} {p : List (List Int)} {root : List Int} (k : n < 1 ∨ 4096 < n ∨ i < 0 ∨ n ≤ i) : checkF h i n p root = 2 := by unfold checkF; rw [if_pos k]
theorem checkF_in {h : List Int} {i n : Nat} {p : List (List Int)} {root : List Int} (hi : i < n) (hn : n ≤ 4096) : checkF h i n p root = if comeL h i (n - 1) p = some root then 0 else 80 := by
  unfold checkF; rw [if_neg (by omega)]; rfl
theorem checkF_path {ls : List (List Int)} {i : Nat} (hi : i < ls.length) (hn : ls.length ≤ 4096) : checkF (ls.getD i []) i ls.length (pathL ls i) (rootL ls) = 0 := by
  rw [checkF_in hi hn, comeL_path ls i hi, if_pos rfl]
theorem checkF_length {h : List Int} {i n : Nat} {p : List (List Int)} {root : List Int} (hi : i < n) (hn : n ≤ 4096) (hl : p.length ≠ (sides i (n - 1)).length) : checkF h i n p root = 80 := by
  rw [checkF_in hi hn, comeL_length h i _ p hl, if_neg (by intro h; cases h)]
end Go.Proofs.YtgnkdkehooagpaaDoor
namespace Go.Proofs.YtgnkdkehooagpaaDoor
open Go.RowKit
set_option linter.unusedVariables false
set_option maxRecDepth 100000

/-- What stands for a seed's keys. -/
def keysF (seed : ByteArray) : List (List Int) := (List.range 8).map fun i => keyF (pubN seed i 512)
theorem keysF_length (seed : ByteArray) : (keysF seed).length = 8 := by simp [keysF]
theorem keysF_get (seed : ByteArray) (i : Nat) (h : i < 8) : (keysF seed).getD i [] = keyF (pubN seed i 512) := by simp [keysF, List.getD, h]
theorem keysF_hashes (seed : ByteArray) : hashes (keysF seed) := fun l hl => by
  obtain ⟨k, _, rfl⟩ := List.mem_map.1 hl
  exact keyF_is _
def rootF (seed : ByteArray) : List Int := rootL (keysF seed)
theorem rootF_is (seed : ByteArray) : (rootF seed).length = 32 ∧ bytes (rootF seed) := rootL_is _ (keysF_hashes seed)
/-- A seal's three parts, and the error. -/
def sealF (seed : ByteArray) (i : Int) (d : List Int) : (Int × ByteArray × List (List Int)) × Int :=
  if i < 0 ∨ 7 < i then ((0, ⟨#[]⟩, []), 2) else ((i, sigF seed i d, pathL (keysF seed) i.toNat), 0)
theorem sealF_no {seed : ByteArray} {i : Int} {d : List Int} (h : i < 0 ∨ 7 < i) : sealF seed i d = ((0, ⟨#[]⟩, []), 2) := by unfold sealF; rw [if_pos h]
theorem sealF_ok {seed : ByteArray} {i : Nat} {d : List Int} (h : i < 8) : sealF seed i d = (((i : Int), sigF seed i d, pathL (keysF seed) i), 0) := by unfold sealF; rw [if_neg (by omega)]; rfl
theorem path8_length (seed : ByteArray) (i : Nat) (h : i < 8) : (pathL (keysF seed) i).length = 3 := by
  rw [pathL_sides _ _ (by rw [keysF_length]; exact h), keysF_length]
  have key : ∀ i, i < 8 → (sides i 7).length = 3 := by
    intro i hi
    rw [sides_more i 7 (by decide) (by omega), sides_more (i / 2) (7 / 2) (by decide) (by omega), sides_more (i / 2 / 2) (7 / 2 / 2) (by decide) (by omega), sides_zero]; rfl
  exact key i h
theorem path8_hashes (seed : ByteArray) (i : Nat) : hashes (pathL (keysF seed) i) := pathL_hashes _ _ _ rfl (keysF_hashes seed)
/-- Whether a seal is verified: the error. -/
def verF (root d : List Int) (i : Int) (sig : ByteArray) (p : List (List Int)) : Int :=
  if i < 0 ∨ 7 < i then 2 else if (recF sig d).2 = 0 ∧ checkF (recF sig d).1 i 8 p root = 0 then 0 else 81
theorem verF_arg {root d : List Int} {i : Int} {sig : ByteArray} {p : List (List Int)} (h : i < 0 ∨ 7 < i) : verF root d i sig p = 2 := by unfold verF; rw [if_pos h]
theorem verF_in {root d : List Int} {i : Nat} {sig : ByteArray} {p : List (List Int)} (h : i < 8) : verF root d i sig p = if (recF sig d).2 = 0 ∧ checkF (recF sig d).1 i 8 p root = 0 then 0 else 81 := by unfold verF; rw [if_neg (by omega)]
/-- What a key signed is verified against the root. -/
theorem verF_own (seed : ByteArray) (i : Nat) (h : i < 8) (d : List Int) : verF (rootF seed) d i (sigF seed i d) (pathL (keysF seed) i) = 0 := by
  rw [verF_in h, recF_sig seed i d (by omega)]
  have e := checkF_path (ls := keysF seed) (i := i) (by rw [keysF_length]; exact h) (by rw [keysF_length]; decide)
  rw [keysF_get seed i h, keysF_length] at e
  rw [if_pos ⟨rfl, e⟩]
/-- A tree of eight leaves. -/
theorem root8 (a b c d e f g h : List Int) : rootL [a, b, c, d, e, f, g, h] = nodeL (nodeL (nodeL a b) (nodeL c d)) (nodeL (nodeL e f) (nodeL g h)) := by
  have s8 : splitN 8 = 4 := splitN_is 8 2 (by decide) (by decide)
  have s4 : splitN 4 = 2 := splitN_is 4 1 (by decide) (by decide)
  have s2 : splitN 2 = 1 := splitN_is 2 0 (by decide) (by decide)
  have r2 : ∀ x y : List Int, rootL [x, y] = nodeL x y := fun x y => by
    rw [rootL_more _ (by simp)]
    show nodeL (rootL ([x, y].take (splitN 2))) (rootL ([x, y].drop (splitN 2))) = _
    rw [s2]
    show nodeL (rootL [x]) (rootL [y]) = _
    rw [rootL_one [x] rfl, rootL_one [y] rfl]; rfl
  have r4 : ∀ x y z u : List Int, rootL [x, y, z, u] = nodeL (nodeL x y) (nodeL z u) := fun x y z u => by
    rw [rootL_more _ (by simp)]
    show nodeL (rootL ([x, y, z, u].take (splitN 4))) (rootL ([x, y, z, u].drop (splitN 4))) = _
    rw [s4]
    show nodeL (rootL [x, y]) (rootL [z, u]) = _
    rw [r2, r2]
  rw [rootL_more _ (by simp)]
  show nodeL (rootL ([a, b, c, d, e, f, g, h].take (splitN 8))) (rootL ([a, b, c, d, e, f, g, h].drop (splitN 8))) = _
  rw [s8]
  show nodeL (rootL [a, b, c, d]) (rootL [e, f, g, h]) = _
  rw [r4, r4]
theorem keysF_eight (seed : ByteArray) : keysF seed = [keyF (pubN seed 0 512), keyF (pubN seed 1 512), keyF (pubN seed 2 512), keyF (pubN seed 3 512), keyF (pubN seed 4 512), keyF (pubN seed 5 512), keyF (pubN seed 6 512), keyF (pubN seed 7 512)] := by
  unfold keysF
  rw [show List.range 8 = [0, 1, 2, 3, 4, 5, 6, 7] from rfl]; rfl
/-- The fourth leaf's path. -/
theorem path3 (a b c d e f g h : List Int) : pathL [a, b, c, d, e, f, g, h] 3 = [c, nodeL a b, nodeL (nodeL e f) (nodeL g h)] := by
  have s8 : splitN 8 = 4 := splitN_is 8 2 (by decide) (by decide)
  have s4 : splitN 4 = 2 := splitN_is 4 1 (by decide) (by decide)
  have s2 : splitN 2 = 1 := splitN_is 2 0 (by decide) (by decide)
  have r2 : ∀ x y : List Int, rootL [x, y] = nodeL x y := fun x y => by
    rw [rootL_more _ (by simp)]
    show nodeL (rootL ([x, y].take (splitN 2))) (rootL ([x, y].drop (splitN 2))) = _
    rw [s2]
    show nodeL (rootL [x]) (rootL [y]) = _
    rw [rootL_one [x] rfl, rootL_one [y] rfl]; rfl
  have r4 : ∀ x y z u : List Int, rootL [x, y, z, u] = nodeL (nodeL x y) (nodeL z u) := fun x y z u => by
    rw [rootL_more _ (by simp)]
    show nodeL (rootL ([x, y, z, u].take (splitN 4))) (rootL ([x, y, z, u].drop (splitN 4))) = _
    rw [s4]
    show nodeL (rootL [x, y]) (rootL [z, u]) = _
    rw [r2, r2]
  rw [pathL_left _ _ (by simp) (by show 3 < splitN 8; rw [s8]; decide)]
  show pathL ([a, b, c, d, e, f, g, h].take (splitN 8)) 3 ++ [rootL ([a, b, c, d, e, f, g, h].drop (splitN 8))] = _
  rw [s8]
  show pathL [a, b, c, d] 3 ++ [rootL [e, f, g, h]] = _
  rw [r4, pathL_right _ _ (by simp) (by show ¬ 3 < splitN 4; rw [s4]; decide)]
  show pathL ([a, b, c, d].drop (splitN 4)) (3 - splitN 4) ++ [rootL ([a, b, c, d].take (splitN 4))] ++ _ = _
  rw [s4]
  show pathL [c, d] 1 ++ [rootL [a, b]] ++ _ = _
  rw [r2, pathL_right _ _ (by simp) (by show ¬ 1 < splitN 2; rw [s2]; decide)]
  show pathL ([c, d].drop (splitN 2)) (1 - splitN 2) ++ [rootL ([c, d].take (splitN 2))] ++ _ ++ _ = _
  rw [s2]
  show pathL [d] 0 ++ [rootL [c]] ++ _ ++ _ = _
  rw [pathL_few _ _ (by simp), rootL_one [c] rfl]; rfl
/-- What a leaf and such a path come to. -/
theorem come3 (x c n r : List Int) : comeL x 3 7 [c, n, r] = some (nodeL (nodeL n (nodeL c x)) r) := by
  rw [comeL_odd _ _ _ _ _ (by decide) (by decide)]
  show comeL (nodeL c x) 1 3 [n, r] = _
  rw [comeL_odd _ _ _ _ _ (by decide) (by decide)]
  show comeL (nodeL n (nodeL c x)) 0 1 [r] = _
  rw [comeL_even _ _ _ _ _ (by decide) (by decide) (by decide)]
  show comeL (nodeL (nodeL n (nodeL c x)) r) 0 0 [] = _
  rw [comeL_done]
end Go.Proofs.YtgnkdkehooagpaaDoor
namespace Go.Proofs.YtgnkdkehooagpaaDoor
open Go.RowKit Go.Great
set_option linter.unusedVariables false
set_option maxRecDepth 100000

/-- A seal's cells. -/
def sealV (i : Int) (s : ByteArray) (A : Option Addr) (n c : Nat) : Array Value := #[.int .i64 i, .string s, .slice A n c]
theorem sealV_size (i : Int) (s : ByteArray) (A : Option Addr) (n c : Nat) : (sealV i s A n c).size = 3 := rfl
theorem sealV_one (i : Int) (s : ByteArray) (A : Option Addr) (n c : Nat) : (sealV i s A n c).all (·.oneCell') = true := by simp [sealV, Value.oneCell']
theorem sizeS (n : Nat) (h : n = 3) : (Tryd.prog.info? 32).map (·.size) = some n := by rw [h]; kernel_rfl
def readS (p : Value) : Sem Value := Instr.loadAt 32 p
theorem read_s (p : Value) : Instr.loadAt 32 p = readS p := rfl
theorem Row.readS {w : World} {g : Nat} {t : TypeId} {C : Array Value} (h : Row w g t C) (hn : C.size = 3) : (readS (.pointer (some ⟨g, 0, none⟩))).run Tryd.prog w = .ok (.agg C) w := by
  unfold Go.Proofs.YtgnkdkehooagpaaDoor.readS
  simp only [Instr.loadAt, Instr.sureAddr, Sem.run_bind, Sem.run_pure, Result.andThen_ok, run_loadVar_row w g t 32 C (0, 0) _ h Tryd.underlying32 rfl (sizeS _ hn)]
def writeS (p v : Value) : Sem Unit := Instr.storeAt 32 p v
theorem write_s (p v : Value) : Instr.storeAt 32 p v = writeS p v := rfl
theorem Row.writeS {w : World} {g : Nat} {t : TypeId} {C D : Array Value} (h : Row w g t C) (hn : C.size = 3) (hd : D.size = 3) (h1 : D.all (·.oneCell') = true) : (writeS (.pointer (some ⟨g, 0, none⟩)) (.agg D)).run Tryd.prog w = .ok () (w.setRow g D) := by
  unfold Go.Proofs.YtgnkdkehooagpaaDoor.writeS
  simp only [Instr.storeAt, Instr.sureAddr, Sem.run_bind, Sem.run_pure, Result.andThen_ok, run_storeVar_row w g t 32 C D h (sizeS _ hd) (by rw [hn, hd]) h1]
theorem get_loadS {o : Oper} {a : Act} {x : Operand} {p : Option Addr} {v : Value} {w : World} (ho : o.op = .load 32 x) (hx : a.eval x = .pointer p) (h : (readS (.pointer p)).run Tryd.prog w = .ok v w) : (execOp a.eval o).run Tryd.prog w = .ok (.value v) w := by
  unfold execOp
  simp only [ho, hx, read_s, Sem.run_bind, Sem.run_pure, h, Result.andThen_ok]
/-- A seal into a block that is made for it. -/
theorem made_seal (w1 : World) (L : Array Value) (hL : L.size = 3) (oL : L.all (·.oneCell') = true) : ∃ w2, (writeS (.pointer (some ⟨w1.heap.size, 0, none⟩)) (.agg L)).run Tryd.prog (w1.alloc (.cells #[.int .i64 0, .string ⟨#[]⟩, .slice none 0 0] 32)) = .ok () w2 ∧ Row w2 w1.heap.size 32 L ∧ Below w1.heap.size w1 w2 := by
  refine ⟨(w1.alloc (.cells (sealV 0 ⟨#[]⟩ none 0 0) 32)).setRow w1.heap.size L, ?_, (Row.made _ _ _).whole _, below_setRow ((Below.refl _ _).alloc (Nat.le_refl _) _) (Nat.le_refl _)⟩
  exact (Row.made w1 32 (sealV 0 ⟨#[]⟩ none 0 0)).writeS rfl hL oL
theorem seal_cells {w : World} {g : Nat} {t : TypeId} {i : Int} {s : ByteArray} {A : Option Addr} {n c : Nat} (h : Row w g t (sealV i s A n c)) : w.cell? ⟨g, 0, none⟩ = some (.int .i64 i) ∧ w.cell? ⟨g, 1, none⟩ = some (.string s) ∧ w.cell? ⟨g, 2, none⟩ = some (.slice A n c) := ⟨h.cell 0, h.cell 1, h.cell 2⟩
theorem text_of_list {s t : ByteArray} (h : s.toList = t.toList) : s = t := by
  rw [ByteArray.toList_eq, ByteArray.toList_eq] at h
  exact Go.WideShapes.bytes_inj h
/-- What functions that hand a seal back, and an error, do. -/
def GivesS (w : World) (r : (Int × ByteArray × List (List Int)) × Int) (e : Ending) (w' : World) : Prop :=
  ∃ A c, e = .returned (.tuple #[.agg (sealV r.1.1 r.1.2.1 A r.1.2.2.length c), .int .i64 r.2]) ∧ r.1.2.2.length ≤ c ∧ c ≤ maxLen ∧ HL w' w'.heap.size A r.1.2.2 ∧ Below w.heap.size w w'
/-- Two seals in blocks of the call's own. -/
def TwoS (w wr : World) (C D : Array Value) : Prop := Row wr w.heap.size 32 C ∧ Row wr (w.heap.size + 1) 32 D ∧ Below w.heap.size w wr
theorem TwoS.start (w : World) (C D : Array Value) : TwoS w ((w.alloc (.cells C 32)).alloc (.cells D 32)) C D :=
  ⟨(Row.made _ _ _).alloc _, Row.made2 _ _ _ _, ((Below.refl _ _).alloc (Nat.le_refl _) _).alloc (by simp) _⟩
set_option maxHeartbeats 2000000 in
theorem sealSame_any (i j : Int) (s t : ByteArray) (ls ms : List (List Int)) (hl : hashes ls) (hm : hashes ms) (h63 : ls.length ≤ 9223372036854775807) (h64 : ms.length ≤ 9223372036854775807) (A B : Option Addr) (c d : Nat) (w : World) (hA : HW w A ls) (hB : HW w B ms) :
    Calls Tryd.prog 14 #[.agg (sealV i s A ls.length c), .agg (sealV j t B ms.length d)] w fun e w' => e = .returned (.bool (decide (i = j ∧ s = t ∧ ls = ms))) ∧ Below w.heap.size w w' := by
  obtain ⟨n, hn⟩ : ∃ n, Hid (n = ls.length) := ⟨_, Lib.hid rfl⟩
  obtain ⟨m, hmm⟩ : ∃ m, Hid (m = ms.length) := ⟨_, Lib.hid rfl⟩
  obtain ⟨b, hb⟩ : ∃ b, Hid (b = decide (ls = ms)) := ⟨_, Lib.hid rfl⟩
  have X1 : Hid (∀ W, Below w.heap.size w W → Calls Tryd.prog 29 #[.slice A n c, .slice B m d] W fun e w' => e = .returned (.bool b) ∧ Below W.heap.size W w') := Lib.hid fun W hW => by
    rw [hn.out, hmm.out, hb.out]
    refine (lsame_any ls ms hl hm h63 h64 A B c d W (hA.next hW) (hB.next hW)).mono ?_
    rintro e w' ⟨h1, k, rfl⟩
    exact ⟨h1, below_drewN (Below.refl _ _) k⟩
  have H0 : Hid (TwoS w ((w.alloc (.cells (sealV i s A n c) 32)).alloc (.cells (sealV j t B m d) 32)) (sealV i s A n c) (sealV j t B m d)) := Lib.hid (TwoS.start _ _ _)
  rw [← hn.out, ← hmm.out]
  clear hA hB hl hm h63 h64 hn hmm
  by_cases h1 : i = j
  · have d1 : (i == j) = true := by simpa using h1
    by_cases h2 : s = t
    · have d3 : s.toList = t.toList := by rw [h2]
      have d2 : (s.toList == t.toList) = true := by rw [d3]; exact beq_self_eq_true _
      have HD : Hid (decide (i = j ∧ s = t ∧ ls = ms) = b) := Lib.hid (by rw [hb.out]; simp [h1, h2])
      rw [HD.out]
      clear h1 h2 hb
      go_enter Tryd.func14, Tryd.ntmps14
      go_upto_region 1 with fail
      refine world_gen (fun X => TwoS w X (sealV i s A n c) (sealV j t B m d)) H0.out (fun X HX => ?_)
      have HX := Lib.hid HX
      obtain ⟨c0, c1, c2⟩ := seal_cells HX.out.1
      obtain ⟨e0, e1, e2⟩ := seal_cells HX.out.2.1
      have hq := HX.out.2.2
      go_wp2_with (go_at_call 29; (with_reducible refine (X1.out _ hq).mono ?_); rintro e w1 ⟨rfl, hb1⟩; have HB := Lib.hid (below_new hq hb1); clear hb1)
      go_ret
      exact ⟨rfl, HB.out⟩
    · have d3 : ¬ s.toList = t.toList := fun h => h2 (text_of_list h)
      have d2 : (s.toList == t.toList) = false := by simpa using d3
      have HD : Hid (decide (i = j ∧ s = t ∧ ls = ms) = false) := Lib.hid (by simp [h2])
      rw [HD.out]
      clear h1 h2 hb
      go_enter Tryd.func14, Tryd.ntmps14
      go_upto_region 1 with fail
      refine world_gen (fun X => TwoS w X (sealV i s A n c) (sealV j t B m d)) H0.out (fun X HX => ?_)
      have HX := Lib.hid HX
      obtain ⟨c0, c1, c2⟩ := seal_cells HX.out.1
      obtain ⟨e0, e1, e2⟩ := seal_cells HX.out.2.1
      go_wp2
      go_ret
      exact ⟨rfl, HX.out.2.2⟩
  · have d1 : (i == j) = false := by simpa using h1
    have HD : Hid (decide (i = j ∧ s = t ∧ ls = ms) = false) := Lib.hid (by simp [h1])
    rw [HD.out]
    clear h1 hb
    go_enter Tryd.func14, Tryd.ntmps14
    go_upto_region 1 with fail
    refine world_gen (fun X => TwoS w X (sealV i s A n c) (sealV j t B m d)) H0.out (fun X HX => ?_)
    have HX := Lib.hid HX
    obtain ⟨c0, c1, c2⟩ := seal_cells HX.out.1
    obtain ⟨e0, e1, e2⟩ := seal_cells HX.out.2.1
    go_wp2
    go_ret
    exact ⟨rfl, HX.out.2.2⟩
end Go.Proofs.YtgnkdkehooagpaaDoor
namespace Go.Proofs.YtgnkdkehooagpaaDoor
open Go.RowKit
set_option linter.unusedVariables false
set_option maxRecDepth 100000

/-- A text of one byte, out of a slice that was just made. -/
theorem one_text (w : World) (x : Int) : (convert 42 9 (.slice (some ⟨w.heap.size, 0, none⟩) 1 1)).run Tryd.prog (w.alloc (.cells #[.int .u8 x] 5)) = .ok (.string (strOfNums [x])) (w.alloc (.cells #[.int .u8 x] 5)) :=
  run_convert_bytes_arg (w.alloc (.cells #[.int .u8 x] 5)) 42 5 Tryd.underlying42 Tryd.underlying5 w.heap.size 0 1 1 [x] rfl (fun i hi => by
    obtain rfl : i = 0 := by omega
    simp [World.cell?_alloc_new]) 9 Tryd.underlying9
theorem putL_next (n : Int) (j : Nat) : strOfNums [n / 2 ^ (8 * j) % 256] ++ strOfNums (putL n j) = strOfNums (putL n (j + 1)) := by
  simp only [strOfNums, putL]
  rw [ByteArray.mk_append_mk]; rfl
theorem put_add (n : Int) (j : Nat) (hj : j < 64) (w : World) : (Op.stringOp .add (strOfNums [n / 2 ^ (8 * j) % 256]) (strOfNums (putL n j))).run Tryd.prog w = .ok (.string (strOfNums (putL n (j + 1)))) w := by
  have e := run_string_add_sum (P := Tryd.prog) (w := w) (strOfNums [n / 2 ^ (8 * j) % 256]) (strOfNums (putL n j)) (by rw [strOfNums_size, strOfNums_size, putL_length]; simp; omega)
  rw [putL_next] at e
  exact e
theorem down8 (n : Int) (j : Nat) : n / 2 ^ (8 * j) / 256 = n / 2 ^ (8 * (j + 1)) := by
  rw [Int.ediv_ediv_of_nonneg (Int.pow_nonneg (by omega)), show 8 * (j + 1) = 8 * j + 8 by omega, Int.pow_add]; rfl
theorem down_bd (n : Int) (j : Nat) (h : 0 ≤ n ∧ n < 18446744073709551616) : 0 ≤ n / 2 ^ (8 * j) ∧ n / 2 ^ (8 * j) < 18446744073709551616 := by
  have hp : (0 : Int) < 2 ^ (8 * j) := Int.pow_pos (by omega)
  exact ⟨Int.ediv_nonneg h.1 (by omega), Int.lt_of_le_of_lt (Int.ediv_le_self _ h.1) h.2⟩
set_option maxHeartbeats 400000 in
theorem refPut_any (n k : Int) (w : World) (h : 0 ≤ n ∧ n < 18446744073709551616) :
    Calls Tryd.prog 62 #[.int .u64 n, .int .i64 k] w fun e w' => e = .returned (.string (putS n k)) ∧ Below w.heap.size w w' := by
  by_cases hs : 1 ≤ k ∧ k ≤ 8
  · obtain ⟨s, rfl⟩ : ∃ s : Nat, k = s := ⟨k.toNat, by omega⟩
    have HZ := Lib.hid (putS_some n s hs)
    go_enter Tryd.func62, Tryd.ntmps62
    go_wp2
    go_loopw [0, 5, 6] (fun t c i wr => ∃ j : Nat, ∃ m : Int, j ≤ s ∧ i = .int .i64 j ∧ Hid (m = n / 2 ^ (8 * j)) ∧ t = .int .u64 m ∧ c = .string (strOfNums (putL n j)) ∧ Hid (Below w.heap.size w wr)) (fun _ _ i _ => (s - intOf i).toNat)
    case atStart => exact ⟨0, n, by omega, rfl, by simp [Hid], rfl, rfl, Lib.hid (Below.refl _ _)⟩
    case round =>
      obtain ⟨j, m, hj, rfl, HM, rfl, rfl, HB⟩ := hrel
      by_cases hlt : j < s
      · have hm : 0 ≤ m ∧ m < 18446744073709551616 := by rw [HM.out]; exact down_bd n j h
        have HD := Lib.hid (down8 n j)
        have ht := fun (w : World) => one_text w (m % 256)
        have ha := fun (w : World) => (by rw [HM.out]; exact put_add n j (by omega) w : (Op.stringOp .add (strOfNums [m % 256]) (strOfNums (putL n j))).run Tryd.prog w = .ok (.string (strOfNums (putL n (j + 1)))) w)
        go_wp2
        go_roundw
        case rel => exact ⟨j + 1, m / 256, by omega, by go_num, Lib.hid (by rw [HM.out]; exact HD.out), by go_num, rfl, Lib.hid (HB.out.alloc HB.out.size _)⟩
        case measure => simp [intOf]; omega
      · obtain rfl : s = j := by omega
        go_wp2
        go_ret
        exact ⟨ret_str (by rw [HZ.out]; rfl), HB.out⟩
  · have HZ := Lib.hid (putS_none n k hs)
    by_cases hs1 : k < 1
    · go_enter Tryd.func62, Tryd.ntmps62
      go_wp2
      go_rounds 1
      go_ret
      exact ⟨ret_str HZ.out.symm, Below.refl _ _⟩
    · have hs2 : 9 ≤ k := by omega
      go_enter Tryd.func62, Tryd.ntmps62
      go_wp2
      go_rounds 1
      go_ret
      exact ⟨ret_str HZ.out.symm, Below.refl _ _⟩
end Go.Proofs.YtgnkdkehooagpaaDoor
namespace Go.Proofs.YtgnkdkehooagpaaDoor
open Go.RowKit
set_option linter.unusedVariables false

theorem info_byte : (Tryd.prog.info? 5).map (fun i => (i.zero, i.size, i.bytes)) = some (some (.int .u8 0), 1, 1) := by kernel_rfl
/-- Block g, of capacity cap, begins with the m bytes l; none of its cells is frozen; it is no older than B. -/
def Got (w : World) (B g cap : Nat) (l : List Int) (m : Nat) : Prop :=
  l.length = m ∧ B ≤ g ∧ m ≤ cap ∧ ∃ cur fz, w.heap[g]? = some (.cells cur 5 fz) ∧ (fz = (0, 0) ∨ cur.size ≤ fz.1) ∧ cur.size = cap ∧ cur.toList.take m = l.map (Value.int .u8)
theorem Got.lt {w : World} {B g cap : Nat} {l : List Int} {m : Nat} (h : Got w B g cap l m) : g < w.heap.size := by
  obtain ⟨_, _, _, cur, fz, hr, _⟩ := h
  exact (Array.getElem?_eq_some_iff.1 hr).1
theorem Got.same {w w' : World} {B g cap : Nat} {l : List Int} {m : Nat} (h : Got w B g cap l m) (e : w'.heap[g]? = w.heap[g]?) : Got w' B g cap l m := by
  obtain ⟨h1, h2, h3, cur, fz, hr, h4⟩ := h
  exact ⟨h1, h2, h3, cur, fz, e.trans hr, h4⟩
theorem Got.alloc {w : World} {B g cap : Nat} {l : List Int} {m : Nat} (h : Got w B g cap l m) (o : Obj) : Got (w.alloc o) B g cap l m := h.same (Below.heap_alloc w o g h.lt)
theorem Got.cell {w : World} {B g cap : Nat} {l : List Int} {m : Nat} (h : Got w B g cap l m) (i : Nat) (hi : i < m) : w.cell? ⟨g, i, none⟩ = some (.int .u8 (l.getD i 0)) := by
  obtain ⟨h1, _, h3, cur, fz, hr, _, hc, ht⟩ := h
  rw [cell_of_row w g i cur _ fz hr]
  have e : (cur.toList.take m)[i]? = (l.map (Value.int .u8))[i]? := by rw [ht]
  rw [List.getElem?_take, if_pos hi] at e
  rw [← Array.getElem?_toList, e]
  simp [List.getD, List.getElem?_eq_getElem (show i < l.length by omega)]
theorem take_set_next (L : List Value) (n : Nat) (v : Value) (h : n < L.length) : (L.set n v).take (n + 1) = L.take n ++ [v] := by
  rw [List.take_succ_eq_append_getElem (by simpa using h), List.take_set_of_le (Nat.le_refl _), List.getElem_set_self]
theorem below_setCells_w {B g : Nat} (hg : B ≤ g) : ∀ (vs : List Value) (o : Nat) (w : World), Below B w (w.setCells g o vs)
  | [], _, w => Below.refl _ _
  | v :: r, o, w => ((Below.refl B w).setCell (p := ⟨g, o, none⟩) hg v).trans (below_setCells_w hg r (o + 1) _)
theorem got_cells (g : Nat) (t : TypeId) (fz : Nat × Nat) : ∀ (vs : List Value) (o : Nat) (w : World) (cur : Array Value), w.heap[g]? = some (.cells cur t fz) → o + vs.length ≤ cur.size →
    ∃ cur', (w.setCells g o vs).heap[g]? = some (.cells cur' t fz) ∧ cur'.size = cur.size ∧ cur'.toList.take (o + vs.length) = cur.toList.take o ++ vs
  | [], o, w, cur, h, _ => ⟨cur, h, rfl, by simp⟩
  | v :: r, o, w, cur, h, hl => by
    simp only [List.length_cons] at hl
    have h1 : (w.setCell ⟨g, o, none⟩ v).heap[g]? = some (.cells (cur.setIfInBounds o v) t fz) := by
      rw [setCell_eq_setRow w g o cur _ fz _ h]
      exact setRow_heap w g cur _ _ _ h
    obtain ⟨cur', e1, e2, e3⟩ := got_cells g t fz r (o + 1) (w.setCell ⟨g, o, none⟩ v) _ h1 (by simp; omega)
    refine ⟨cur', e1, by simpa using e2, ?_⟩
    rw [List.length_cons, show o + (r.length + 1) = o + 1 + r.length by omega, e3, Array.toList_setIfInBounds, take_set_next _ _ _ (by simp; omega), List.append_assoc]
    rfl
/-- Bytes more behind a row of the call's own. -/
theorem wpList_append_got {ops : Array Oper} {rest : List Oper} {o : Oper} {a : Act} {Q : Exit → Act → World → Prop} (w : World) (hg : o.guard = none) (s x : Operand)
    (hop : o.op = Op.call { callee := Callee.builtin Builtin.append, args := #[s, x], argTypes := #[42, 42] })
    (B g cap m : Nat) (l : List Int) (hs : a.eval s = .slice (some ⟨g, 0, none⟩) m cap) (G : Got w B g cap l m) (hB : B ≤ w.heap.size) (k n c : Nat) (t : TypeId) (ys : List Int) (hx : a.eval x = .slice (some ⟨k, 0, none⟩) n c) (hn0 : 0 < n)
    (hy : ys.length = n) (hh : Row w k t (nums .u8 ys)) (hm : m + n ≤ 140737488355328)
    (next : ∀ g' cap' w', Got w' B g' cap' (l ++ ys) (m + n) → Below B w w' → wpList Tryd.prog ops Q rest (a.put o.dst (.slice (some ⟨g', 0, none⟩) (m + n) cap')) w') :
    wpList Tryd.prog ops Q (o :: rest) a w := by
  obtain ⟨hlen, hBg, hn, cur, fz, hr, hf, hc, ht⟩ := G
  obtain ⟨i0, hi, hz0, hz1, hz2⟩ := info_parts info_byte
  have hcell : ∀ j, w.cell? ⟨g, j, none⟩ = cur[j]? := fun j => cell_of_row w g j cur _ fz hr
  have hfroz : ∀ j, j < cur.size → w.frozen? ⟨g, j, none⟩ = false := fun j hj => by
    obtain ⟨lo, hi'⟩ := fz
    rcases hf with hf | hf
    · simp only [Prod.mk.injEq] at hf; obtain ⟨rfl, rfl⟩ := hf; exact frozen_of_row w g j cur _ hr
    · have : ¬ lo ≤ j := by simp at hf; omega
      simp [World.frozen?, hr, this]
  have hadd : ∀ j, (⟨k, 0, none⟩ : Addr).add j = ⟨k, j, none⟩ := fun j => by unfold Addr.add; split <;> simp_all
  refine wpList_append_arg w hg s x _ hop 5 i0 (.int .u8 0) 1 1 Tryd.underlying42 hi hz0 hz1 hz2 rfl (by decide) g 0 m cap (l.map (Value.int .u8)) hs (by simp [hlen]) ?olds ⟨k, 0, none⟩ n c (ys.map (Value.int .u8)) hx (by simp [hy]) ?c1 ?c2 ?spare (by unfold maxLen; omega) (by omega) ?room ?grow
  case olds =>
    intro j u hu
    rw [Nat.zero_add, hcell]
    rw [← ht, List.getElem?_take] at hu
    split at hu
    · simpa using hu
    · cases hu
  case c1 =>
    intro j u hj
    rw [hadd, hh.cell j]
    simpa [nums] using hj
  case c2 =>
    intro u hu
    obtain ⟨z, _, rfl⟩ := List.mem_map.1 hu
    rfl
  case spare =>
    intro hr' j hj
    have hj0 : j < n := by simpa [hy] using hj
    rw [Nat.zero_add, Nat.mul_one, hcell, hfroz (m + j) (by omega)]
    exact ⟨by simp; omega, rfl⟩
  case room =>
    intro hr'
    obtain ⟨cur', e1, e2, e3⟩ := got_cells g _ fz (ys.map (Value.int .u8)) m w cur hr (by simp; omega)
    rw [show 0 + m * 1 = m by omega]
    refine next g cap _ ⟨by simp [hlen, hy], hBg, hr', cur', fz, e1, by rw [e2]; exact hf, by rw [e2]; exact hc, ?_⟩ (below_setCells_w hBg _ _ _)
    rw [List.length_map, hy] at e3
    rw [e3, ht, List.map_append]
  case grow =>
    intro hg' v' w' hown hgr
    obtain ⟨_, h2⟩ := hown
    rcases h2 with ⟨_, h0⟩ | ⟨g', cap', cur', hv, hb', hcell', hn', hm', hcs, htk⟩
    · omega
    · subst hv
      exact next g' cap' w' ⟨by simp [hlen, hy], by omega, hn', cur', (0, 0), hcell', .inl rfl, by omega, by rw [Nat.mul_one] at htk; rw [htk, List.map_append]⟩ ((Below.refl _ _).grown hgr hB (fun k h => by cases h))
theorem conv_text (w : World) (s : ByteArray) : ∃ wb cap, (convert 9 42 (.string s)).run Tryd.prog w = .ok (.slice (some ⟨w.heap.size, 0, none⟩) s.size cap) wb ∧ Hid (Got wb w.heap.size w.heap.size cap (textL s) s.size) ∧ Hid (Below w.heap.size w wb) := by
  refine ⟨_, _, Lib.run_convert_string_bytes w 9 42 5 s Tryd.underlying9 Tryd.underlying42 Tryd.underlying5, Lib.hid ⟨textL_length s, Nat.le_refl _, grownCap_ge w s.size 0 _, Lib.bytesCells w 5 s, _, Lib.bytesWorld_at_new w 5 s, .inr (Nat.le_refl _), ?_, ?_⟩, Lib.hid ⟨?_, ?_, ?_, ?_, fun j hj => Lib.bytesWorld_at_old w 5 s j hj⟩⟩
  · have := grownCap_ge w s.size 0 5
    have e : s.data.size = s.size := rfl
    simp [Lib.bytesCells, e]; omega
  · have e : s.data.toList.length = s.size := by rw [Array.length_toList]; rfl
    simp only [Lib.bytesCells, Array.toList_append, Array.toList_map]
    rw [List.take_append_of_le_length (by simp [e]), List.take_of_length_le (by simp [e]), textL, List.map_map]; rfl
  · rfl
  · rfl
  · rfl
  · rw [Lib.bytesWorld_size]; omega
end Go.Proofs.YtgnkdkehooagpaaDoor
namespace Go.Proofs.YtgnkdkehooagpaaDoor
open Go.RowKit
set_option linter.unusedVariables false

/-- How many zeros. -/
def zerosN (n : Nat) : Nat := (119 - n % 64) % 64
theorem zerosN_lt (n : Nat) : zerosN n < 64 := by unfold zerosN; omega
theorem zerosN_is (n : Nat) : (n + 1 + zerosN n) % 64 = 56 := by unfold zerosN; omega
theorem zerosN_le (n z : Nat) (h : (n + 1 + z) % 64 = 56) (hz : z ≤ zerosN n) : z = zerosN n := by unfold zerosN at *; omega
/-- The first q of the eight bytes of a number. -/
def beL (N : Int) : Nat → List Int
  | 0 => []
  | q + 1 => beL N q ++ [N / 2 ^ (8 * (7 - q)) % 256]
def padL (s : ByteArray) : List Int := textL s ++ [128] ++ List.replicate (zerosN s.size) 0 ++ beL ((s.size : Int) * 8) 8
def lenV : Value → Nat
  | .slice _ n _ => n
  | _ => 0
set_option maxHeartbeats 4000000 in
set_option maxRecDepth 100000 in
theorem pad_any (s : ByteArray) (hs : s.size ≤ 1000000) (w : World) :
    Calls Tryd.prog 59 #[.string s] w fun ev w' => ∃ g cap, ev = .returned (.slice (some ⟨g, 0, none⟩) (s.size + 1 + zerosN s.size + 8) cap) ∧ Got w' w.heap.size g cap (padL s) (s.size + 1 + zerosN s.size + 8) ∧ Below w.heap.size w w' := by
  obtain ⟨wb, cap0, hcv, G0, B0⟩ := conv_text w s
  have hzl := zerosN_lt s.size
  go_enter Tryd.func59, Tryd.ntmps59
  go_wp2_with (at_builtin; refine wpList_append_got _ rfl (.tmp 7) (.tmp 8) rfl w.heap.size w.heap.size cap0 s.size (textL s) rfl (G0.out.alloc _) ?hB1 wb.heap.size 1 1 5 [128] rfl (by omega) rfl (Row.made wb _ _) (by omega) ?kont1)
  case hB1 => have := B0.out.size; simp; omega
  case kont1 =>
    intro g1 cap1 w1 G1 B1
    have GH : Hid (Got w1 w.heap.size g1 cap1 (textL s ++ [128] ++ List.replicate 0 0) (s.size + 1)) := Lib.hid (by simpa using G1)
    have BH : Hid (Below w.heap.size w w1) := Lib.hid ((B0.out.alloc B0.out.size _).trans B1)
    clear hcv G0 B0 G1 B1
    go_wp2
    go_loopw [3] (fun v wr => ∃ g cap m z, v = .slice (some ⟨g, 0, none⟩) m cap ∧ m = s.size + 1 + z ∧ z ≤ zerosN s.size ∧ Hid (Got wr w.heap.size g cap (textL s ++ [128] ++ List.replicate z 0) m) ∧ Hid (Below w.heap.size w wr)) (fun v _ => 1000100 - lenV v)
    case atStart => exact ⟨g1, cap1, _, 0, rfl, rfl, Nat.zero_le _, GH, BH⟩
    case round =>
      clear GH BH
      obtain ⟨g, cap, m, z, rfl, hm, hz, HG, HB⟩ := hrel
      by_cases h56 : m % 64 = 56
      · have ez : z = zerosN s.size := zerosN_le _ _ (by rw [← hm]; exact h56) hz
        have HM : Hid (m = s.size + 1 + zerosN s.size) := Lib.hid (by omega)
        obtain ⟨L, HL⟩ : ∃ L, Hid (L = textL s ++ [128] ++ List.replicate (zerosN s.size) 0) := ⟨_, Lib.hid rfl⟩
        rw [ez, ← HL.out] at HG
        have hmb : m ≤ 1000070 := by omega
        clear hm hz ez hzl
        have et : (m : Int).tmod 64 = 56 := by
          rw [Int.tmod_eq_emod_of_nonneg (by omega)]; omega
        clear h56
        go_wp2
        go_loopw [3, 5] (fun v i wr => ∃ g cap q x, v = .slice (some ⟨g, 0, none⟩) (m + q) cap ∧ i = .int .i64 x ∧ x = 7 - (q : Int) ∧ q ≤ 8 ∧ Hid (Got wr w.heap.size g cap (L ++ beL ((s.size : Int) * 8) q) (m + q)) ∧ Hid (Below w.heap.size w wr)) (fun _ i _ => (intOf i + 1).toNat)
        case atStart => exact ⟨g, cap, 0, 7, rfl, rfl, by omega, by omega, Lib.hid (by simpa [beL] using HG.out), HB⟩
        case round =>
          clear HG HB et
          obtain ⟨g, cap, q, x, rfl, rfl, hx, hq, HG, HB⟩ := hrel
          by_cases h0 : x < 0
          · have hq8 : q = 8 := by omega
            have HQ : Hid (q = 8) := Lib.hid hq8
            clear hx hq hq8
            go_wp2
            go_ret
            refine ⟨g, cap, by rw [HM.out, HQ.out]; rfl, ?_, HB.out⟩
            have := HG.out
            rw [HQ.out, HL.out, HM.out] at this
            exact this
          · obtain ⟨r, rfl⟩ : ∃ r : Nat, x = r := ⟨x.toNat, by omega⟩
            have hr : r ≤ 7 := by omega
            have HX : Hid (7 - q = r ∧ q < 8) := Lib.hid (by omega)
            clear hx hq h0
            go_wp2_with (at_builtin; refine wpList_append_got _ rfl (.tmp 25) (.tmp 31) rfl w.heap.size g cap (m + q) _ rfl (HG.out.alloc _) ?hB2 _ 1 1 5 [_] rfl (by omega) rfl (Row.made _ _ _) (by have := HX.out; omega) ?kont2)
            case hB2 => have := HB.out.size; simp; omega
            case kont2 =>
              intro g2 cap2 w2 G2 B2
              go_wp2
              go_roundw
              case rel =>
                have hX := HX.out
                exact ⟨g2, cap2, q + 1, _, rfl, rfl, by omega, by omega, Lib.hid (by simp only [beL, hX.1]; exact G2), Lib.hid ((HB.out.alloc HB.out.size _).trans B2)⟩
              case measure => first | (simp [intOf]; done) | (simp [intOf]; omega)
      · have hzz : z < zerosN s.size := by
          rcases Nat.lt_or_ge z (zerosN s.size) with h | h
          · exact h
          · exfalso; apply h56; rw [hm, show z = zerosN s.size by omega]; exact zerosN_is s.size
        have et : ((m : Int).tmod 64 != 56) = true := by
          rw [Int.tmod_eq_emod_of_nonneg (by omega)]; simp; omega
        have et2 : ¬ ((m : Int).tmod 64 = 56) := by simpa using et
        go_wp2_with (at_builtin; refine wpList_append_got _ rfl (.tmp 14) (.tmp 15) rfl w.heap.size g cap m _ rfl (HG.out.alloc _) ?hB3 _ 1 1 5 [0] rfl (by omega) rfl (Row.made _ _ _) (by omega) ?kont3)
        case hB3 => have := HB.out.size; simp; omega
        case kont3 =>
          intro g2 cap2 w2 G2 B2
          go_wp2
          go_roundw
          case rel => exact ⟨g2, cap2, _, z + 1, rfl, by omega, by omega, Lib.hid (by rw [List.replicate_succ']; simpa using G2), Lib.hid ((HB.out.alloc HB.out.size _).trans B2)⟩
          case measure => simp [lenV]; omega
#print axioms pad_any
end Go.Proofs.YtgnkdkehooagpaaDoor
namespace Go.Proofs.YtgnkdkehooagpaaDoor
open Go.RowKit
set_option linter.unusedVariables false

/-- The text, filled up. -/
def fullS (s : ByteArray) : ByteArray := ((s ++ mark) ++ zerosS (zerosN s.size)) ++ putS (8 * (s.size : Int)) 8
theorem extract_join (s : ByteArray) (k : Nat) (h : k ≤ s.size) : s.extract 0 k ++ s.extract k s.size = s := by
  rw [ByteArray.extract_append_extract, Nat.min_eq_left (Nat.zero_le _), Nat.max_eq_right h, ByteArray.extract_zero_size]
theorem fullS_split (s : ByteArray) : fullS s = s.extract 0 (64 * (s.size / 64)) ++ fillS (s.extract (64 * (s.size / 64)) s.size) s.size := by
  have e : (119 - (s.extract (64 * (s.size / 64)) s.size).size) % 64 = zerosN s.size := by
    rw [ByteArray.size_extract]; unfold zerosN; omega
  unfold fullS fillS
  rw [e, ← ByteArray.append_assoc, ← ByteArray.append_assoc, ← ByteArray.append_assoc, extract_join s _ (by omega)]
theorem fullS_size (s : ByteArray) : (fullS s).size = s.size + 1 + zerosN s.size + 8 := by
  unfold fullS
  rw [ByteArray.size_append, ByteArray.size_append, ByteArray.size_append, zerosS_size, put8_size]; rfl
theorem join (s : ByteArray) (N : Nat) (hN : (fullS s).size = 64 * N) : sumL s = bytesL (Sha.blocks Ks Hs (fullS s) N).list := by
  have hA : (s.extract 0 (64 * (s.size / 64))).size = 64 * (s.size / 64) := by rw [ByteArray.size_extract]; omega
  have hF : (fullS s).size = 64 * (s.size / 64) + (fillS (s.extract (64 * (s.size / 64)) s.size) s.size).size := by
    rw [fullS_split, ByteArray.size_append, hA]
  have e1 : N = s.size / 64 + (fillS (s.extract (64 * (s.size / 64)) s.size) s.size).size / 64 := by omega
  have h64 : (fillS (s.extract (64 * (s.size / 64)) s.size) s.size).size = 64 * ((fillS (s.extract (64 * (s.size / 64)) s.size) s.size).size / 64) := by omega
  unfold sumL
  rw [e1, Sha.blocks_add Ks Hs (fullS s) (fillS (s.extract (64 * (s.size / 64)) s.size) s.size) _ _ (fun i hi => by
    rw [fullS_split, getb_right _ _ _ (by rw [hA]; omega) (by rw [hA]; omega), hA, Nat.add_sub_cancel_left])]
  rw [Sha.blocks_congr Ks Hs (fullS s) (s.extract 0 (64 * (s.size / 64))) (s.size / 64) (fun i hi => by
    rw [fullS_split, getb_left _ _ _ (by rw [hA]; omega)])]
theorem textL_zeros (z : Nat) : textL (zerosS z) = List.replicate z 0 := by
  induction z with
  | zero => rfl
  | succ z ih =>
    show textL ⟨([0] ++ Lib.repeatL [0] z).toArray⟩ = _
    rw [List.replicate_succ, ← ih]
    rfl
theorem putL_beL (N : Int) : putL N 8 = beL N 8 := rfl
theorem padL_text (s : ByteArray) : padL s = textL (fullS s) := by
  unfold fullS padL
  rw [textL_app, textL_app, textL_app, textL_zeros, putS_some _ 8 (by omega), textL_nums _ (fun x hx => ?_), Int.mul_comm]
  · rfl
  · simp [putL] at hx
    omega
theorem padL_get (s : ByteArray) (i : Nat) (h : i < (fullS s).size) : (padL s).getD i 0 = (((fullS s).get! i).toNat : Int) := by
  rw [padL_text, get_elem _ i h]
  have hl : i < (fullS s).data.toList.length := by rw [Array.length_toList]; exact h
  unfold textL
  simp [List.getD, h]
  rfl
#print axioms join
#print axioms padL_get
end Go.Proofs.YtgnkdkehooagpaaDoor
namespace Go.Proofs.YtgnkdkehooagpaaDoor
open Go.RowKit
set_option linter.unusedVariables false

theorem turn_of (x : Int) (k : Nat) (h : 0 ≤ x ∧ x < 4294967296) (h1 : 1 ≤ k) (h2 : k ≤ 31) :
    bits .or .u32 (x / 2 ^ k) (x * 2 ^ (32 - k) % 4294967296) = Math.rot x (-(k : Int)) := by
  have e := rot_of x (-(k : Int)) (32 - k) h (by omega) (by omega)
  rw [show 32 - (32 - k) = k by omega] at e
  rw [← e]
  obtain ⟨n, rfl⟩ : ∃ n : Nat, x = n := ⟨x.toNat, by omega⟩
  have hn : n < 4294967296 := by omega
  have e1 : (n : Int) * 2 ^ (32 - k) % 4294967296 = ((n * 2 ^ (32 - k) % 4294967296 : Nat) : Int) := by
    rw [Int.natCast_emod, Int.natCast_mul, Int.natCast_pow]; rfl
  have e2 : (n : Int) / 2 ^ k = ((n / 2 ^ k : Nat) : Int) := by
    rw [Int.natCast_ediv, Int.natCast_pow]; rfl
  have l2 : n / 2 ^ k < 4294967296 := Nat.lt_of_le_of_lt (Nat.div_le_self _ _) hn
  rw [e1, e2, u32_or_nat _ _ (by omega) (by omega), u32_or_nat _ _ (by omega) (by omega), Nat.or_comm]
set_option maxHeartbeats 400000 in
theorem turn_any (x : Int) (k : Nat) (w : World) (h : 0 ≤ x ∧ x < 4294967296) (h1 : 1 ≤ k) (h2 : k ≤ 31) :
    Calls Tryd.prog 60 #[.int .u32 x, .int .u32 (k : Int)] w fun e w' => e = .returned (.int .u32 (Math.rot x (-(k : Int)))) ∧ w = w' := by
  have HO := Lib.hid (turn_of x k h h1 h2)
  have hw : IntKind.u32.wrap (32 - (k : Int)) = ((32 - k : Nat) : Int) := by rw [IntKind.wrap_u32]; omega
  have ht : (32 - (k : Int)).toNat = 32 - k := by omega
  go_enter Tryd.func60, Tryd.ntmps60
  go_wp2
  go_ret
  refine ⟨ret_u32 ?_, rfl⟩
  exact HO.out
#print axioms turn_any
end Go.Proofs.YtgnkdkehooagpaaDoor
