/-
  Keys that sign once, as plain functions (layer 8): secrets, public hashes, what stands for a key, signatures, what is recovered; and that of a signature what stands for its key is recovered. No program is named here.
-/
import Derived.Test.YtllabnhgiojmmaaDoorTreeMath
import Derived.Test.YtllabnhgiojmmaaDoorTexts
import Derived.Test.YtllabnhgiojmmaaDoorBitOnly
namespace Go.Proofs.YtllabnhgiojmmaaDoor
open Go.RowKit
set_option linter.unusedVariables false
set_option maxRecDepth 100000

def zeroL : List Int := List.replicate 32 0
theorem zeroL_is : zeroL.length = 32 ∧ bytes zeroL := ⟨rfl, fun x hx => by have := List.eq_of_mem_replicate hx; omega⟩
/-- What is hashed of a secret. -/
def secS (seed : ByteArray) (index i bit : Int) : ByteArray := ⟨#[2]⟩ ++ textS seed ++ putS index 4 ++ putS (2 * i + bit) 2
def secL (seed : ByteArray) (index i bit : Nat) : List Int := sumL (secS seed index i bit)
/-- A secret; zero, if there is none. -/
def secF (seed : ByteArray) (index i bit : Int) : List Int := if index < 0 ∨ 2147483647 < index ∨ i < 0 ∨ 255 < i ∨ (bit ≠ 0 ∧ bit ≠ 1) then zeroL else sumL (secS seed index i bit)
theorem secF_no {seed : ByteArray} {index i bit : Int} (h : index < 0 ∨ 2147483647 < index ∨ i < 0 ∨ 255 < i ∨ (bit ≠ 0 ∧ bit ≠ 1)) : secF seed index i bit = zeroL := by unfold secF; rw [if_pos h]
theorem secF_ok {seed : ByteArray} {index i bit : Nat} (h1 : index ≤ 2147483647) (h2 : i ≤ 255) (h3 : bit ≤ 1) : secF seed index i bit = secL seed index i bit := by unfold secF; rw [if_neg (by omega)]; rfl
theorem secL_is (seed : ByteArray) (index i bit : Nat) : (secL seed index i bit).length = 32 ∧ bytes (secL seed index i bit) := ⟨sumL_length _, sumL_bytes _⟩
theorem secF_is (seed : ByteArray) (index i bit : Int) : (secF seed index i bit).length = 32 ∧ bytes (secF seed index i bit) := by
  unfold secF
  split
  · exact zeroL_is
  · exact ⟨sumL_length _, sumL_bytes _⟩
/-- A secret's hash. -/
def pubH (h : List Int) : List Int := sumL (⟨#[3]⟩ ++ strOfNums h)
theorem pubH_is (h : List Int) : (pubH h).length = 32 ∧ bytes (pubH h) := ⟨sumL_length _, sumL_bytes _⟩
def pubAt (seed : ByteArray) (index k : Nat) : List Int := pubH (secL seed index (k / 2) (k % 2))
/-- The first n of a key's public hashes. -/
def pubN (seed : ByteArray) (index n : Nat) : List (List Int) := (List.range n).map (pubAt seed index)
theorem pubN_length (seed : ByteArray) (index n : Nat) : (pubN seed index n).length = n := by simp [pubN]
theorem pubN_next (seed : ByteArray) (index n : Nat) : pubN seed index (n + 1) = pubN seed index n ++ [pubAt seed index n] := by unfold pubN; rw [List.range_succ, List.map_append]; rfl
theorem pubN_get (seed : ByteArray) (index n k : Nat) (h : k < n) : (pubN seed index n).getD k [] = pubAt seed index k := by simp [pubN, List.getD, h]
theorem pubN_hashes (seed : ByteArray) (index n : Nat) : hashes (pubN seed index n) := fun l hl => by
  obtain ⟨k, _, rfl⟩ := List.mem_map.1 hl
  exact pubH_is _
/-- A key's public hashes; none, if there is no such key. -/
def pubF (seed : ByteArray) (index : Int) : List (List Int) := if index < 0 ∨ 2147483647 < index then [] else pubN seed index.toNat 512
theorem pubF_no {seed : ByteArray} {index : Int} (h : index < 0 ∨ 2147483647 < index) : pubF seed index = [] := by unfold pubF; rw [if_pos h]
theorem pubF_ok {seed : ByteArray} {index : Nat} (h : index ≤ 2147483647) : pubF seed index = pubN seed index 512 := by unfold pubF; rw [if_neg (by omega)]; rfl
theorem pubF_hashes (seed : ByteArray) (index : Int) : hashes (pubF seed index) := by
  unfold pubF
  split
  · intro l hl; cases hl
  · exact pubN_hashes _ _ _
/-- What stands for a key with these hashes. -/
def keyS (ls : List (List Int)) : ByteArray := ⟨#[4]⟩ ++ strOfNums ls.flatten
def keyF (ls : List (List Int)) : List Int := if ls.length = 512 then sumL (keyS ls) else zeroL
theorem keyF_no {ls : List (List Int)} (h : ¬ ls.length = 512) : keyF ls = zeroL := by unfold keyF; rw [if_neg h]
theorem keyF_ok {ls : List (List Int)} (h : ls.length = 512) : keyF ls = sumL (keyS ls) := by unfold keyF; rw [if_pos h]
theorem keyF_is (ls : List (List Int)) : (keyF ls).length = 32 ∧ bytes (keyF ls) := by
  unfold keyF
  split
  · exact ⟨sumL_length _, sumL_bytes _⟩
  · exact zeroL_is
/-- A digest's bit. -/
def bitN (d : List Int) (i : Nat) : Nat := (bitAt (strOfNums d) i).toNat
theorem bitN_le (d : List Int) (i : Nat) : bitN d i ≤ 1 := by have := bitAt_bd (strOfNums d) i; unfold bitN; omega
theorem bitN_is (d : List Int) (i : Nat) : bitAt (strOfNums d) (i : Int) = (bitN d i : Int) := by have := bitAt_bd (strOfNums d) i; unfold bitN; omega
/-- The first n parts of a signature's front, and of what is behind it. -/
def sigA (seed : ByteArray) (index : Nat) (d : List Int) (n : Nat) : List (List Int) := (List.range n).map fun i => secL seed index i (bitN d i)
def sigB (seed : ByteArray) (index : Nat) (d : List Int) (n : Nat) : List (List Int) := (List.range n).map fun i => pubH (secL seed index i (1 - bitN d i))
theorem sigA_length (seed : ByteArray) (index : Nat) (d : List Int) (n : Nat) : (sigA seed index d n).length = n := by simp [sigA]
theorem sigB_length (seed : ByteArray) (index : Nat) (d : List Int) (n : Nat) : (sigB seed index d n).length = n := by simp [sigB]
theorem sigA_next (seed : ByteArray) (index : Nat) (d : List Int) (n : Nat) : sigA seed index d (n + 1) = sigA seed index d n ++ [secL seed index n (bitN d n)] := by unfold sigA; rw [List.range_succ, List.map_append]; rfl
theorem sigB_next (seed : ByteArray) (index : Nat) (d : List Int) (n : Nat) : sigB seed index d (n + 1) = sigB seed index d n ++ [pubH (secL seed index n (1 - bitN d n))] := by unfold sigB; rw [List.range_succ, List.map_append]; rfl
theorem sigA_get (seed : ByteArray) (index : Nat) (d : List Int) (n i : Nat) (h : i < n) : (sigA seed index d n).getD i [] = secL seed index i (bitN d i) := by simp [sigA, List.getD, h]
theorem sigB_get (seed : ByteArray) (index : Nat) (d : List Int) (n i : Nat) (h : i < n) : (sigB seed index d n).getD i [] = pubH (secL seed index i (1 - bitN d i)) := by simp [sigB, List.getD, h]
theorem sigA_hashes (seed : ByteArray) (index : Nat) (d : List Int) (n : Nat) : hashes (sigA seed index d n) := fun l hl => by
  obtain ⟨k, _, rfl⟩ := List.mem_map.1 hl
  exact secL_is _ _ _ _
theorem sigB_hashes (seed : ByteArray) (index : Nat) (d : List Int) (n : Nat) : hashes (sigB seed index d n) := fun l hl => by
  obtain ⟨k, _, rfl⟩ := List.mem_map.1 hl
  exact pubH_is _
theorem flat_size {ls : List (List Int)} (h : hashes ls) : ls.flatten.length = 32 * ls.length := by
  induction ls with
  | nil => rfl
  | cons l r ih =>
    rw [List.flatten_cons, List.length_append, ih (fun x hx => h x (by simp [hx])), (h l (by simp)).1, List.length_cons]
    omega
theorem flat_bytes {ls : List (List Int)} (h : hashes ls) : bytes ls.flatten := fun x hx => by
  obtain ⟨l, hl, hx⟩ := List.mem_flatten.1 hx
  exact (h l hl).2 x hx
theorem flat_part (ls : List (List Int)) : hashes ls → ∀ i, i < ls.length → (ls.flatten.drop (32 * i)).take 32 = ls.getD i [] := by
  induction ls with
  | nil => intro _ i h; simp at h
  | cons l r ih =>
    intro hs i hi
    have hl := (hs l (by simp)).1
    cases i with
    | zero =>
      rw [List.flatten_cons, Nat.mul_zero, List.drop_zero, List.take_append_of_le_length (by omega), List.take_of_length_le (by omega)]
      rfl
    | succ i =>
      have := ih (fun x hx => hs x (by simp [hx])) i (by simpa using hi)
      rw [List.flatten_cons, List.drop_append, List.drop_of_length_le (by omega), List.nil_append, show 32 * (i + 1) - l.length = 32 * i by omega, this]
      rfl
/-- A signature's bytes; nothing, if there is no such key. -/
def sigL (seed : ByteArray) (index : Nat) (d : List Int) : List Int := (sigA seed index d 256).flatten ++ (sigB seed index d 256).flatten
def sigF (seed : ByteArray) (index : Int) (d : List Int) : ByteArray := if index < 0 ∨ 2147483647 < index then ⟨#[]⟩ else strOfNums (sigL seed index.toNat d)
theorem sigF_no {seed : ByteArray} {index : Int} {d : List Int} (h : index < 0 ∨ 2147483647 < index) : sigF seed index d = ⟨#[]⟩ := by unfold sigF; rw [if_pos h]
theorem sigF_ok {seed : ByteArray} {index : Nat} {d : List Int} (h : index ≤ 2147483647) : sigF seed index d = strOfNums (sigL seed index d) := by unfold sigF; rw [if_neg (by omega)]; rfl
theorem sigL_length (seed : ByteArray) (index : Nat) (d : List Int) : (sigL seed index d).length = 16384 := by
  unfold sigL
  rw [List.length_append, flat_size (sigA_hashes _ _ _ _), flat_size (sigB_hashes _ _ _ _), sigA_length, sigB_length]
theorem sigL_bytes (seed : ByteArray) (index : Nat) (d : List Int) : bytes (sigL seed index d) := fun x hx => by
  rcases List.mem_append.1 hx with h | h
  · exact flat_bytes (sigA_hashes _ _ _ _) x h
  · exact flat_bytes (sigB_hashes _ _ _ _) x h
theorem sigL_front (seed : ByteArray) (index : Nat) (d : List Int) (i : Nat) (h : i < 256) : ((sigL seed index d).drop (32 * i)).take 32 = secL seed index i (bitN d i) := by
  have hl := flat_size (sigA_hashes seed index d 256)
  rw [sigA_length] at hl
  unfold sigL
  rw [List.drop_append_of_le_length (by omega), List.take_append_of_le_length (by rw [List.length_drop]; omega), flat_part _ (sigA_hashes _ _ _ _) i (by rw [sigA_length]; exact h), sigA_get _ _ _ _ _ h]
theorem sigL_back (seed : ByteArray) (index : Nat) (d : List Int) (i : Nat) (h : i < 256) : ((sigL seed index d).drop (8192 + 32 * i)).take 32 = pubH (secL seed index i (1 - bitN d i)) := by
  have hl := flat_size (sigA_hashes seed index d 256)
  rw [sigA_length] at hl
  unfold sigL
  rw [List.drop_append, List.drop_of_length_le (by omega), List.nil_append, show 8192 + 32 * i - ((sigA seed index d 256).flatten).length = 32 * i by omega, flat_part _ (sigB_hashes _ _ _ _) i (by rw [sigB_length]; exact h), sigB_get _ _ _ _ _ h]
/-- The public hashes that bytes and a digest say. -/
def recAt (T d : List Int) (k : Nat) : List Int := if k % 2 = bitN d (k / 2) then pubH ((T.drop (32 * (k / 2))).take 32) else (T.drop (8192 + 32 * (k / 2))).take 32
def recL (T d : List Int) : List (List Int) := (List.range 512).map (recAt T d)
theorem recL_length (T d : List Int) : (recL T d).length = 512 := by simp [recL]
theorem recL_get (T d : List Int) (k : Nat) (h : k < 512) : (recL T d).getD k [] = recAt T d k := by simp [recL, List.getD, h]
theorem recAt_is (T d : List Int) (hT : bytes T) (hl : T.length = 16384) (k : Nat) (hk : k < 512) : (recAt T d k).length = 32 ∧ bytes (recAt T d k) := by
  unfold recAt
  split
  · exact pubH_is _
  · refine ⟨by rw [List.length_take, List.length_drop]; omega, fun x hx => hT x (List.mem_of_mem_drop (List.mem_of_mem_take hx))⟩
theorem recL_hashes (T d : List Int) (hT : bytes T) (hl : T.length = 16384) : hashes (recL T d) := fun l h => by
  obtain ⟨k, hk, rfl⟩ := List.mem_map.1 h
  exact recAt_is T d hT hl k (by simpa using hk)
/-- What is recovered, and the error. -/
def recF (s : ByteArray) (d : List Int) : List Int × Int := if s.size = 16384 then (keyF (recL (textL s) d), 0) else (zeroL, 10)
theorem recF_no {s : ByteArray} {d : List Int} (h : ¬ s.size = 16384) : recF s d = (zeroL, 10) := by unfold recF; rw [if_neg h]
theorem recF_ok {s : ByteArray} {d : List Int} (h : s.size = 16384) : recF s d = (keyF (recL (textL s) d), 0) := by unfold recF; rw [if_pos h]
theorem recF_is (s : ByteArray) (d : List Int) : (recF s d).1.length = 32 ∧ bytes (recF s d).1 := by
  unfold recF
  split
  · exact keyF_is (recL (textL s) d)
  · exact zeroL_is
/-- Of a signature its key's public hashes are told. -/
theorem recL_sig (seed : ByteArray) (index : Nat) (d : List Int) : recL (sigL seed index d) d = pubN seed index 512 := by
  unfold recL pubN
  refine List.map_congr_left (fun k hk => ?_)
  have hk : k < 512 := by simpa using hk
  have hb := bitN_le d (k / 2)
  unfold recAt pubAt
  split
  · rename_i h
    rw [sigL_front _ _ _ _ (by omega), h]
  · rename_i h
    rw [sigL_back _ _ _ _ (by omega), show 1 - bitN d (k / 2) = k % 2 by omega]
theorem sigF_size (seed : ByteArray) (index : Nat) (d : List Int) (h : index ≤ 2147483647) : (sigF seed index d).size = 16384 := by rw [sigF_ok h, strOfNums_size, sigL_length]
theorem recF_sig (seed : ByteArray) (index : Nat) (d : List Int) (h : index ≤ 2147483647) : recF (sigF seed index d) d = (keyF (pubN seed index 512), 0) := by
  rw [recF_ok (sigF_size seed index d h), sigF_ok h, textL_nums _ (sigL_bytes seed index d), recL_sig]
end Go.Proofs.YtllabnhgiojmmaaDoor
