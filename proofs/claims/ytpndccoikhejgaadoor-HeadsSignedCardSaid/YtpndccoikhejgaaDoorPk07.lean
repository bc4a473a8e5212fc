/-
  Several texts in one (a claim has room for 60 files): CodecFactsB, PathMath, KeyMath, HeadMath, HeadParts, ListSame.
-/
import Derived.Test.YtpndccoikhejgaaDoorPk05
import Derived.Test.YtpndccoikhejgaaDoorPk06
import Derived.Test.YtpndccoikhejgaaDoorPk04
namespace Go.Proofs.YtpndccoikhejgaaDoor
open Go.RowKit
set_option linter.unusedVariables false
set_option maxRecDepth 100000

theorem bytes_app {a b : List Int} (ha : ∀ x ∈ a, 0 ≤ x ∧ x < 256) (hb : ∀ x ∈ b, 0 ≤ x ∧ x < 256) : ∀ x ∈ a ++ b, 0 ≤ x ∧ x < 256 := fun x hx => by
  rcases List.mem_append.1 hx with h | h
  · exact ha x h
  · exact hb x h
theorem rest_app (a b : ByteArray) (p : Nat) (hp : p = a.size) : (a ++ b).extract p (a ++ b).size = b := by
  apply textL_inj
  rw [textL_rest, textL_app, List.drop_append_of_le_length (by rw [textL_length]; omega), List.drop_of_length_le (by rw [textL_length]; omega), List.nil_append]
theorem head_app (a b : ByteArray) (p : Nat) (hp : p = a.size) : (a ++ b).extract 0 p = a := by
  apply textL_inj
  rw [textL_take, textL_app, List.take_append_of_le_length (by rw [textL_length]; omega), List.take_of_length_le (by rw [textL_length]; omega)]
theorem numS_len (n : Nat) : (numS n).size = (Codec.numL n).length := by unfold numS; rw [strOfNums_size]
/-- A number, read. -/
theorem read_num (n : Nat) (hn : n < 18446744073709551616) (r : ByteArray) : readR (numS n ++ r) = some (n, (numS n).size) := by
  unfold readR
  rw [textL_app, textNum, Codec.rdP_num n hn, numS_len]
theorem read_numV (n : Nat) (hn : n < 18446744073709551616) (r : ByteArray) : readV (numS n ++ r) = .tuple #[.int .u64 (n : Nat), .string r, .bool true] := by
  rw [readV_yes _ _ _ (read_num n hn r), rest_app _ _ _ rfl]
/-- A text, read. -/
theorem cut_textV (s r : ByteArray) (hs : s.size < 18446744073709551616) : cutV (textS s ++ r) = .tuple #[.string s, .string r, .bool true] := by
  have e : textS s ++ r = numS s.size ++ (s ++ r) := by unfold textS; rw [ByteArray.append_assoc]
  have h := read_num s.size hs (s ++ r)
  rw [e, cutV_yes _ _ _ h (by rw [rest_app _ _ _ rfl, ByteArray.size_append]; omega), rest_app _ _ _ rfl, head_app _ _ _ rfl, rest_app _ _ _ rfl]
theorem chunk_is (ls : List (List Int)) (hs : hashes ls) (t : List Int) : ∀ k, k ≤ ls.length → chunk (ls.flatten ++ t) k = ls.take k := by
  intro k
  induction k with
  | zero => intro _; simp [chunk]
  | succ k ih =>
    intro hk
    have hkl : k < ls.length := by omega
    simp only [chunk]
    rw [ih (by omega), List.take_succ_eq_append_getElem hkl]
    congr 2
    have e : ls = ls.take k ++ (ls[k] :: ls.drop (k + 1)) := by rw [← List.drop_eq_getElem_cons hkl, List.take_append_drop]
    have hl : (ls.take k).flatten.length = 32 * k := by rw [flat_length (hashes_take hs k), List.length_take]; omega
    have hx : (ls[k]).length = 32 := (hs _ (List.getElem_mem hkl)).1
    have e2 : ls.flatten ++ t = (ls.take k).flatten ++ (ls[k] ++ ((ls.drop (k + 1)).flatten ++ t)) := by
      conv => lhs; rw [e]
      rw [List.flatten_append, List.flatten_cons]
      simp only [List.append_assoc]
    rw [e2, List.drop_append_of_le_length (by omega), List.drop_of_length_le (by omega), List.nil_append, List.take_append_of_le_length (by omega), List.take_of_length_le (by omega)]
theorem listS_is (ls : List (List Int)) (h : ¬ 64 < ls.length) : listS ls = numS ls.length ++ strOfNums ls.flatten := by
  unfold listS numS listL
  rw [if_neg h, texts_app]
/-- A list, read. -/
theorem unhs_list (ls : List (List Int)) (hs : hashes ls) (hn : ¬ 64 < ls.length) (r : ByteArray) :
    unhsR (listS ls ++ r) = some (ls.length, (numS ls.length).size) ∧ (listS ls ++ r).extract (numS ls.length).size (listS ls ++ r).size = strOfNums ls.flatten ++ r := by
  have hf : textL (strOfNums ls.flatten) = ls.flatten := textL_nums _ (flat_bytes hs)
  have e : listS ls ++ r = numS ls.length ++ (strOfNums ls.flatten ++ r) := by rw [listS_is ls hn, ByteArray.append_assoc]
  rw [e]
  refine ⟨?_, rest_app _ _ _ rfl⟩
  refine unhsR_yes _ _ _ (read_num _ (by omega) _) ⟨by omega, ?_⟩
  rw [rest_app _ _ _ rfl, ByteArray.size_append, strOfNums_size, flat_length hs]
  omega
theorem list_rest (ls : List (List Int)) (hs : hashes ls) (r : ByteArray) : (strOfNums ls.flatten ++ r).extract (32 * ls.length) (strOfNums ls.flatten ++ r).size = r :=
  rest_app _ _ _ (by rw [strOfNums_size, flat_length hs])
theorem list_chunk (ls : List (List Int)) (hs : hashes ls) (r : ByteArray) : chunk (textL (strOfNums ls.flatten ++ r)) ls.length = ls := by
  rw [textL_app, textL_nums _ (flat_bytes hs), chunk_is ls hs _ _ (Nat.le_refl _), List.take_length]
/-- Of a text that is cut off nothing is read. -/
theorem read_short (n : Nat) (hn : n < 18446744073709551616) (r : ByteArray) (k : Nat) (hk : k < (numS n).size + r.size) (m p : Nat) (h : readR ((numS n ++ r).extract 0 k) = some (m, p)) :
    m = n ∧ ((numS n ++ r).extract 0 k).extract p ((numS n ++ r).extract 0 k).size = r.extract 0 (k - (numS n).size) ∧ (r.extract 0 (k - (numS n).size)).size < r.size := by
  obtain ⟨h1, h2, h3, h4⟩ := readR_lt _ _ _ h
  have ht : textL ((numS n ++ r).extract 0 k) = (Codec.numL n ++ textL r).take k := by rw [textL_take, textL_app, textNum]
  have e : Codec.numL m ++ ((textL ((numS n ++ r).extract 0 k)).drop p ++ (Codec.numL n ++ textL r).drop k) = Codec.numL n ++ textL r := by
    rw [← List.append_assoc, ← h4, ht, List.take_append_drop]
  obtain ⟨rfl, e2⟩ := Codec.numL_prefix m n h1 hn _ _ e
  have hl : (textL ((numS m ++ r).extract 0 k)).length = k := by rw [ht, List.length_take, List.length_append, textL_length, ← numS_len]; omega
  rw [textL_length] at hl
  have hp : p = (numS m).size := by rw [h2, numS_len]
  have hpk : (numS m).size ≤ k := by rw [← hp, ← hl]; exact h3
  refine ⟨rfl, ?_, by rw [ByteArray.size_extract]; omega⟩
  apply textL_inj
  rw [textL_rest, textL_take, textL_take, textL_app, hp, List.drop_take, List.drop_append_of_le_length (by rw [textL_length]; omega), List.drop_of_length_le (by rw [textL_length]; omega), List.nil_append]
theorem cut_short (s : ByteArray) (hs : s.size < 18446744073709551616) (k : Nat) (hk : k < (textS s).size) : cutV ((textS s).extract 0 k) = .tuple #[.string ⟨#[]⟩, .string ⟨#[]⟩, .bool false] := by
  have hk' : k < (numS s.size).size + s.size := by unfold textS at hk; rwa [ByteArray.size_append] at hk
  rcases h : readR ((textS s).extract 0 k) with _ | ⟨m, p⟩
  · exact cutV_none _ h
  · obtain ⟨rfl, e, hlt⟩ := read_short s.size hs s k hk' m p h
    exact cutV_great _ _ _ h (by unfold textS; rw [e]; omega)
theorem unhs_short (ls : List (List Int)) (hs : hashes ls) (hn : ¬ 64 < ls.length) (k : Nat) (hk : k < (listS ls).size) : unhsR ((listS ls).extract 0 k) = none := by
  rw [listS_is ls hn] at hk ⊢
  have hk' : k < (numS ls.length).size + (strOfNums ls.flatten).size := by rwa [ByteArray.size_append] at hk
  rcases h : readR ((numS ls.length ++ strOfNums ls.flatten).extract 0 k) with _ | ⟨m, p⟩
  · exact unhsR_none _ h
  · obtain ⟨rfl, e, hlt⟩ := read_short ls.length (by omega) _ k hk' m p h
    refine unhsR_no _ _ _ h (fun hc => ?_)
    rw [e] at hc
    rw [strOfNums_size, flat_length hs] at hlt
    omega
theorem cut_in_two (T : ByteArray) (n : Nat) : T.extract 0 n ++ T.extract n T.size = T := by
  apply textL_inj
  rw [textL_app, textL_take, textL_rest, List.take_append_drop]
theorem cut_in_two' (T : ByteArray) (n : Nat) : strOfNums ((textL T).take n) ++ T.extract n T.size = T := by
  apply textL_inj
  rw [textL_app, textL_rest, textL_nums _ (fun x hx => textL_bytes T x (List.mem_of_mem_take hx)), List.take_append_drop]
/-- What is read has the bytes that stood there. -/
theorem read_form (s : ByteArray) (n p : Nat) (h : readR s = some (n, p)) : numS n ++ s.extract p s.size = s ∧ n < 18446744073709551616 ∧ (numS n).size = p := by
  obtain ⟨h1, h2, h3, h4⟩ := readR_lt _ _ _ h
  refine ⟨?_, h1, by rw [numS_len, h2]⟩
  apply textL_inj
  rw [textL_app, textNum, textL_rest, ← h4]
theorem cut_form (s : ByteArray) (n p : Nat) (h : readR s = some (n, p)) (hn : n ≤ (s.extract p s.size).size) :
    textS ((s.extract p s.size).extract 0 n) ++ (s.extract p s.size).extract n (s.extract p s.size).size = s := by
  obtain ⟨h1, h2, h3⟩ := read_form s n p h
  have hl : ((s.extract p s.size).extract 0 n).size = n := by rw [ByteArray.size_extract]; omega
  unfold textS
  rw [hl, ByteArray.append_assoc, cut_in_two, h1]
theorem unh_form (s : ByteArray) (h : ¬ s.size < 32) : strOfNums ((textL s).take 32) ++ s.extract 32 s.size = s := by
  apply textL_inj
  rw [textL_app, textL_rest, textL_nums _ (fun x hx => textL_bytes s x (List.mem_of_mem_take hx)), List.take_append_drop]
theorem unhs_form (s : ByteArray) (n p : Nat) (h : readR s = some (n, p)) (hn : n ≤ 64 ∧ 32 * n ≤ (s.extract p s.size).size) :
    listS (chunk (textL (s.extract p s.size)) n) ++ (s.extract p s.size).extract (32 * n) (s.extract p s.size).size = s := by
  obtain ⟨h1, h2, h3⟩ := read_form s n p h
  rw [listS_is _ (by rw [chunk_length]; omega), chunk_length, chunk_flat _ _ (by rw [textL_length]; exact hn.2), ByteArray.append_assoc]
  rw [cut_in_two', h1]
/-- What is told of a text, as parts. -/
theorem cutV_parts (s : ByteArray) : ∃ a b o, cutV s = .tuple #[.string a, .string b, .bool o] := by
  unfold cutV
  split
  · exact ⟨_, _, _, rfl⟩
  · exact ⟨_, _, _, rfl⟩
theorem unhV_parts (s : ByteArray) : ∃ l b o, unhV s = .tuple #[.agg (nums .u8 l), .string b, .bool o] ∧ l.length = 32 ∧ ∀ x ∈ l, 0 ≤ x ∧ x < 256 := by
  by_cases h : s.size < 32
  · exact ⟨_, _, _, unhV_no s h, by simp, fun x hx => by have := List.eq_of_mem_replicate hx; omega⟩
  · exact ⟨_, _, _, unhV_yes s h, by rw [List.length_take, textL_length]; omega, fun x hx => textL_bytes s x (List.mem_of_mem_take hx)⟩
def unhsL (s : ByteArray) : List (List Int) := match unhsR s with
  | none => []
  | some (n, p) => chunk (textL (s.extract p s.size)) n
def unhsT (s : ByteArray) : ByteArray := match unhsR s with
  | none => ⟨#[]⟩
  | some (n, p) => (s.extract p s.size).extract (32 * n) (s.extract p s.size).size
def unhsO (s : ByteArray) : Bool := (unhsR s).isSome
theorem unhsR_some (s : ByteArray) (n p : Nat) (h : unhsR s = some (n, p)) : readR s = some (n, p) ∧ n ≤ 64 ∧ 32 * n ≤ (s.extract p s.size).size := by
  unfold unhsR at h
  split at h
  · rename_i n' p' hr
    split at h
    · rename_i hc
      simp only [Option.some.injEq, Prod.mk.injEq] at h
      obtain ⟨rfl, rfl⟩ := h
      exact ⟨hr, hc⟩
    · cases h
  · cases h
theorem unhsL_hashes (s : ByteArray) : hashes (unhsL s) := by
  unfold unhsL
  split
  · exact fun l h => by cases h
  · rename_i n p h
    obtain ⟨_, _, h3⟩ := unhsR_some s _ _ h
    exact chunk_hashes _ _ (by rw [textL_length]; exact h3) (textL_bytes _)
theorem unhsL_length (s : ByteArray) : (unhsL s).length ≤ 64 := by
  unfold unhsL
  split
  · simp
  · rename_i n p h
    rw [chunk_length]
    exact (unhsR_some s _ _ h).2.1
theorem UnhsPost.parts {s : ByteArray} {w w' : World} {e : Ending} (h : UnhsPost s w e w') :
    ∃ A c, e = .returned (.tuple #[.slice A (unhsL s).length c, .string (unhsT s), .bool (unhsO s)]) ∧ HL w' w'.heap.size A (unhsL s) ∧ ((unhsL s).length ≤ c ∧ c ≤ maxLen) ∧ Below w.heap.size w w' := by
  obtain ⟨hb, h⟩ := h
  unfold unhsL unhsT unhsO
  rcases hr : unhsR s with _ | ⟨n, p⟩
  · rw [hr] at h
    exact ⟨none, 0, h, HL.nil _ _ _, ⟨Nat.le_refl _, by decide⟩, hb⟩
  · rw [hr] at h
    obtain ⟨A, c, he, hA, hc⟩ := h
    exact ⟨A, c, by rw [he]; simp only [chunk_length]; rfl, hA, by simpa only [chunk_length] using hc, hb⟩
end Go.Proofs.YtpndccoikhejgaaDoor
namespace Go.Proofs.YtpndccoikhejgaaDoor
open Go.RowKit
set_option linter.unusedVariables false
set_option maxRecDepth 100000

/-- The path of a leaf. -/
def pathL (ls : List (List Int)) (i : Nat) : List (List Int) :=
  if h : ls.length < 2 then []
  else if i < splitN ls.length then pathL (ls.take (splitN ls.length)) i ++ [rootL (ls.drop (splitN ls.length))]
  else pathL (ls.drop (splitN ls.length)) (i - splitN ls.length) ++ [rootL (ls.take (splitN ls.length))]
termination_by ls.length
decreasing_by
  · rw [List.length_take]; have := splitN_lt ls.length (by omega); omega
  · rw [List.length_drop]; have := splitN_pos ls.length (by omega); omega
theorem pathL_few (ls : List (List Int)) (i : Nat) (h : ls.length < 2) : pathL ls i = [] := by rw [pathL, dif_pos h]
theorem pathL_left (ls : List (List Int)) (i : Nat) (h : 2 ≤ ls.length) (hi : i < splitN ls.length) : pathL ls i = pathL (ls.take (splitN ls.length)) i ++ [rootL (ls.drop (splitN ls.length))] := by
  rw [pathL, dif_neg (by omega), if_pos hi]
theorem pathL_right (ls : List (List Int)) (i : Nat) (h : 2 ≤ ls.length) (hi : ¬ i < splitN ls.length) : pathL ls i = pathL (ls.drop (splitN ls.length)) (i - splitN ls.length) ++ [rootL (ls.take (splitN ls.length))] := by
  rw [pathL, dif_neg (by omega), if_neg hi]
theorem pathL_hashes (n : Nat) : ∀ (ls : List (List Int)) (i : Nat), ls.length = n → hashes ls → hashes (pathL ls i) := by
  induction n using Nat.strongRecOn with
  | ind n ih =>
    intro ls i hn h
    have snoc : ∀ (p : List (List Int)) (x : List Int), hashes p → (x.length = 32 ∧ bytes x) → hashes (p ++ [x]) := fun p x hp hx l hl => by
      rcases List.mem_append.1 hl with hl | hl
      · exact hp l hl
      · rw [List.mem_singleton.1 hl]; exact hx
    by_cases h2 : ls.length < 2
    · rw [pathL_few ls i h2]; intro l hl; cases hl
    · have h3 := splitN_lt ls.length (by omega)
      have h4 := splitN_pos ls.length (by omega)
      by_cases hi : i < splitN ls.length
      · rw [pathL_left ls i (by omega) hi]
        exact snoc _ _ (ih (splitN ls.length) (by omega) _ i (by rw [List.length_take]; omega) (hashes_take h _)) (rootL_is _ (hashes_drop h _))
      · rw [pathL_right ls i (by omega) hi]
        exact snoc _ _ (ih (ls.length - splitN ls.length) (by omega) _ _ (by rw [List.length_drop]) (hashes_drop h _)) (rootL_is _ (hashes_take h _))
/-- What a leaf, its number among n and a path, its last one first, come to. -/
def comeR (h : List Int) : Nat → Nat → List (List Int) → Option (List Int)
  | i, n, [] => if n = 1 then some h else none
  | i, n, x :: r => if n = 1 then none else if i < splitN n then (comeR h i (splitN n) r).map (fun y => nodeL y x) else (comeR h (i - splitN n) (n - splitN n) r).map (fun y => nodeL x y)
/-- On which side a leaf is, level by level from below: true: left. -/
def sides (i last : Nat) : List Bool :=
  if h : last = 0 then [] else if i = last ∧ i % 2 = 0 then sides (i / 2) (last / 2) else (i % 2 == 0) :: sides (i / 2) (last / 2)
termination_by last
decreasing_by all_goals omega
theorem sides_zero (i : Nat) : sides i 0 = [] := by rw [sides, dif_pos rfl]
theorem sides_skip (i last : Nat) (h0 : last ≠ 0) (h : i = last ∧ i % 2 = 0) : sides i last = sides (i / 2) (last / 2) := by rw [sides, dif_neg h0, if_pos h]
theorem sides_more (i last : Nat) (h0 : last ≠ 0) (h : ¬ (i = last ∧ i % 2 = 0)) : sides i last = (i % 2 == 0) :: sides (i / 2) (last / 2) := by rw [sides, dif_neg h0, if_neg h]
theorem sides_left (b : Nat) : ∀ i last, i < 2 ^ b → 2 ^ b ≤ last → last < 2 ^ (b + 1) → sides i last = sides i (2 ^ b - 1) ++ [true] := by
  induction b with
  | zero =>
    intro i last h1 h2 h3
    simp at h1 h2 h3
    obtain rfl : last = 1 := by omega
    subst h1
    rw [sides_more 0 1 (by omega) (by omega)]
    simp [sides_zero]
  | succ b ih =>
    intro i last h1 h2 h3
    have hp := Nat.two_pow_pos b
    have e1 : 2 ^ (b + 1) = 2 * 2 ^ b := by rw [Nat.pow_succ]; omega
    have e2 : 2 ^ (b + 1 + 1) = 4 * 2 ^ b := by rw [Nat.pow_succ, e1]; omega
    rw [e1] at h1 h2
    rw [e2] at h3
    rw [e1, sides_more i last (by omega) (by omega), sides_more i (2 * 2 ^ b - 1) (by omega) (by omega), ih (i / 2) (last / 2) (by omega) (by omega) (by rw [e1]; omega), show (2 * 2 ^ b - 1) / 2 = 2 ^ b - 1 by omega]
    rfl
theorem sides_right (b : Nat) : ∀ i last, 2 ^ b ≤ i → i ≤ last → last < 2 ^ (b + 1) → sides i last = sides (i - 2 ^ b) (last - 2 ^ b) ++ [false] := by
  induction b with
  | zero =>
    intro i last h1 h2 h3
    simp at h1 h2 h3
    obtain rfl : last = 1 := by omega
    obtain rfl : i = 1 := by omega
    rw [sides_more 1 1 (by omega) (by omega)]
    simp [sides_zero]
  | succ b ih =>
    intro i last h1 h2 h3
    have hp := Nat.two_pow_pos b
    have e1 : 2 ^ (b + 1) = 2 * 2 ^ b := by rw [Nat.pow_succ]; omega
    have e2 : 2 ^ (b + 1 + 1) = 4 * 2 ^ b := by rw [Nat.pow_succ, e1]; omega
    rw [e1] at h1
    rw [e2] at h3
    rw [e1]
    have hi := ih (i / 2) (last / 2) (by omega) (by omega) (by rw [e1]; omega)
    have d1 : (i - 2 * 2 ^ b) / 2 = i / 2 - 2 ^ b := by omega
    have d2 : (last - 2 * 2 ^ b) / 2 = last / 2 - 2 ^ b := by omega
    by_cases hs : i = last ∧ i % 2 = 0
    · rw [sides_skip i last (by omega) hs, hi]
      by_cases h0 : last - 2 * 2 ^ b = 0
      · rw [h0, sides_zero, show last / 2 - 2 ^ b = 0 by omega, sides_zero]
      · rw [sides_skip (i - 2 * 2 ^ b) (last - 2 * 2 ^ b) h0 (by omega), d1, d2]
    · rw [sides_more i last (by omega) hs, hi, sides_more (i - 2 * 2 ^ b) (last - 2 * 2 ^ b) (by omega) (by omega), d1, d2, show (i - 2 * 2 ^ b) % 2 = i % 2 by omega]
      rfl
/-- Where n is parted. -/
theorem split_pow (n : Nat) (h : 2 ≤ n) : ∃ b, splitN n = 2 ^ b ∧ 2 ^ b < n ∧ n ≤ 2 ^ (b + 1) := by
  have h1 := Nat.log2_self_le (n := n - 1) (by omega)
  have h2 := Nat.lt_log2_self (n := n - 1)
  exact ⟨Nat.log2 (n - 1), by unfold splitN; rw [if_neg (by omega)], by omega, by omega⟩
theorem sides_split (i n : Nat) (h : 2 ≤ n) (hi : i < n) : sides i (n - 1) = if i < splitN n then sides i (splitN n - 1) ++ [true] else sides (i - splitN n) (n - splitN n - 1) ++ [false] := by
  obtain ⟨b, e, h1, h2⟩ := split_pow n h
  rw [e]
  split
  · rename_i hk
    exact sides_left b i (n - 1) hk (by omega) (by omega)
  · rename_i hk
    rw [sides_right b i (n - 1) (by omega) (by omega) (by omega), show n - 1 - 2 ^ b = n - 2 ^ b - 1 by omega]
/-- A hash put together with others, from below. -/
def climbD (h : List Int) : List Bool → List (List Int) → List Int
  | true :: d, x :: p => climbD (nodeL h x) d p
  | false :: d, x :: p => climbD (nodeL x h) d p
  | _, _ => h
theorem climbD_snoc (d : List Bool) : ∀ (h : List Int) (p : List (List Int)) (b : Bool) (x : List Int), d.length = p.length → climbD h (d ++ [b]) (p ++ [x]) = if b then nodeL (climbD h d p) x else nodeL x (climbD h d p) := by
  induction d with
  | nil =>
    intro h p b x hl
    obtain rfl : p = [] := List.eq_nil_of_length_eq_zero hl.symm
    cases b <;> rfl
  | cons c d ih =>
    intro h p b x hl
    cases p with
    | nil => simp at hl
    | cons y p =>
      have := ih (if c then nodeL h y else nodeL y h) p b x (by simpa using hl)
      cases c <;> exact this
theorem comeR_sides (r : List (List Int)) : ∀ (h : List Int) (i n : Nat), i < n → comeR h i n r = if (sides i (n - 1)).length = r.length then some (climbD h (sides i (n - 1)) r.reverse) else none := by
  induction r with
  | nil =>
    intro h i n hi
    by_cases hn : n = 1
    · subst hn
      rw [sides_zero]; rfl
    · have := sides_split i n (by omega) hi
      have hl : 0 < (sides i (n - 1)).length := by rw [this]; split <;> simp
      unfold comeR
      rw [if_neg hn, if_neg (by rw [List.length_nil]; omega)]
  | cons x r ih =>
    intro h i n hi
    by_cases hn : n = 1
    · subst hn
      unfold comeR
      rw [if_pos rfl, sides_zero, if_neg (by simp)]
    · have hsp := sides_split i n (by omega) hi
      have hk1 := splitN_lt n (by omega)
      have hk2 := splitN_pos n (by omega)
      unfold comeR
      rw [if_neg hn, hsp, List.reverse_cons]
      by_cases hk : i < splitN n
      · rw [if_pos hk, if_pos hk, ih h i (splitN n) hk, List.length_append, List.length_singleton, List.length_cons]
        by_cases hl : (sides i (splitN n - 1)).length = r.length
        · rw [if_pos hl, if_pos (by omega), climbD_snoc _ _ _ _ _ (by rw [hl, List.length_reverse])]; rfl
        · rw [if_neg hl, if_neg (by omega)]; rfl
      · rw [if_neg hk, if_neg hk, ih h (i - splitN n) (n - splitN n) (by omega), List.length_append, List.length_singleton, List.length_cons]
        by_cases hl : (sides (i - splitN n) (n - splitN n - 1)).length = r.length
        · rw [if_pos hl, if_pos (by omega), climbD_snoc _ _ _ _ _ (by rw [hl, List.length_reverse])]; rfl
        · rw [if_neg hl, if_neg (by omega)]; rfl
/-- What a leaf and a path come to, of its number i among last + 1. -/
def comeL (h : List Int) (i last : Nat) (p : List (List Int)) : Option (List Int) := if (sides i last).length = p.length then some (climbD h (sides i last) p) else none
theorem comeR_L (h : List Int) (i n : Nat) (hi : i < n) (p : List (List Int)) : comeR h i n p.reverse = comeL h i (n - 1) p := by
  rw [comeR_sides _ h i n hi, List.length_reverse, List.reverse_reverse]; rfl
theorem comeL_done (h : List Int) (i : Nat) : comeL h i 0 [] = some h := by unfold comeL; rw [sides_zero]; rfl
theorem comeL_left (h : List Int) (i : Nat) (x : List Int) (p : List (List Int)) : comeL h i 0 (x :: p) = none := by unfold comeL; rw [sides_zero]; rfl
theorem sides_length_pos (last : Nat) : ∀ i, last ≠ 0 → i ≤ last → 0 < (sides i last).length := by
  induction last using Nat.strongRecOn with
  | ind last ih =>
    intro i h0 hi
    by_cases hs : i = last ∧ i % 2 = 0
    · rw [sides_skip i last h0 hs]; exact ih (last / 2) (by omega) (i / 2) (by omega) (by omega)
    · rw [sides_more i last h0 hs]; simp
theorem comeL_few (h : List Int) (i last : Nat) (h0 : last ≠ 0) (hi : i ≤ last) : comeL h i last [] = none := by
  unfold comeL
  have := sides_length_pos last i h0 hi
  rw [if_neg (by rw [List.length_nil]; omega)]
theorem comeL_skip (h : List Int) (i last : Nat) (p : List (List Int)) (h0 : last ≠ 0) (hs : i = last ∧ i % 2 = 0) : comeL h i last p = comeL h (i / 2) (last / 2) p := by
  unfold comeL; rw [sides_skip i last h0 hs]
theorem comeL_even (h : List Int) (i last : Nat) (x : List Int) (p : List (List Int)) (h0 : last ≠ 0) (hs : ¬ (i = last ∧ i % 2 = 0)) (he : i % 2 = 0) : comeL h i last (x :: p) = comeL (nodeL h x) (i / 2) (last / 2) p := by
  unfold comeL
  rw [sides_more i last h0 hs, show (i % 2 == 0) = true by simp [he]]
  simp only [List.length_cons, Nat.add_right_cancel_iff]
  rfl
theorem comeL_odd (h : List Int) (i last : Nat) (x : List Int) (p : List (List Int)) (h0 : last ≠ 0) (he : i % 2 = 1) : comeL h i last (x :: p) = comeL (nodeL x h) (i / 2) (last / 2) p := by
  unfold comeL
  rw [sides_more i last h0 (by omega), show (i % 2 == 0) = false by simp; omega]
  simp only [List.length_cons, Nat.add_right_cancel_iff]
  rfl
/-- Each leaf's path comes to the root. -/
theorem comeR_path (n : Nat) : ∀ (ls : List (List Int)) (i : Nat), ls.length = n → i < n → comeR (ls.getD i []) i n (pathL ls i).reverse = some (rootL ls) := by
  induction n using Nat.strongRecOn with
  | ind n ih =>
    intro ls i hn hi
    by_cases h2 : ls.length < 2
    · obtain rfl : n = 1 := by omega
      obtain rfl : i = 0 := by omega
      rw [pathL_few ls 0 h2, rootL_one ls hn]
      rfl
    · have h3 := splitN_lt ls.length (by omega)
      have h4 := splitN_pos ls.length (by omega)
      rw [rootL_more ls (by omega)]
      by_cases hk : i < splitN ls.length
      · rw [pathL_left ls i (by omega) hk, List.reverse_append]
        show comeR _ i n (_ :: (pathL (ls.take (splitN ls.length)) i).reverse) = _
        have e : ls.getD i [] = (ls.take (splitN ls.length)).getD i [] := by
          rw [List.getD_eq_getElem?_getD, List.getD_eq_getElem?_getD, List.getElem?_take, if_pos hk]
        unfold comeR
        rw [if_neg (by omega), ← hn, if_pos hk, e, ih (splitN ls.length) (by omega) _ i (by rw [List.length_take]; omega) hk]
        rfl
      · rw [pathL_right ls i (by omega) hk, List.reverse_append]
        show comeR _ i n (_ :: (pathL (ls.drop (splitN ls.length)) (i - splitN ls.length)).reverse) = _
        have e : ls.getD i [] = (ls.drop (splitN ls.length)).getD (i - splitN ls.length) [] := by
          rw [List.getD_eq_getElem?_getD, List.getD_eq_getElem?_getD, List.getElem?_drop, show splitN ls.length + (i - splitN ls.length) = i by omega]
        unfold comeR
        rw [if_neg (by omega), ← hn, if_neg hk, e, ih (ls.length - splitN ls.length) (by omega) _ (i - splitN ls.length) (by rw [List.length_drop]) (by omega)]
        rfl
theorem comeL_path (ls : List (List Int)) (i : Nat) (hi : i < ls.length) : comeL (ls.getD i []) i (ls.length - 1) (pathL ls i) = some (rootL ls) := by
  rw [← comeR_L _ i ls.length hi]; exact comeR_path _ ls i rfl hi
theorem pathL_sides (ls : List (List Int)) (i : Nat) (hi : i < ls.length) : (pathL ls i).length = (sides i (ls.length - 1)).length := by
  have := comeL_path ls i hi
  unfold comeL at this
  split at this
  · rename_i h; exact h.symm
  · cases this
theorem comeL_length (h : List Int) (i last : Nat) (p : List (List Int)) (hl : p.length ≠ (sides i last).length) : comeL h i last p = none := by
  unfold comeL; rw [if_neg (by omega)]
theorem sides_length (b : Nat) : ∀ i last, last < 2 ^ b → (sides i last).length ≤ b := by
  induction b with
  | zero => intro i last h; simp at h; subst h; rw [sides_zero]; simp
  | succ b ih =>
    intro i last h
    rw [Nat.pow_succ] at h
    by_cases h0 : last = 0
    · subst h0; rw [sides_zero]; simp
    · by_cases hs : i = last ∧ i % 2 = 0
      · rw [sides_skip i last h0 hs]; have := ih (i / 2) (last / 2) (by omega); omega
      · rw [sides_more i last h0 hs, List.length_cons]; have := ih (i / 2) (last / 2) (by omega); omega
theorem climbD_is (d : List Bool) : ∀ (h : List Int) (p : List (List Int)), h.length = 32 ∧ bytes h → (climbD h d p).length = 32 ∧ bytes (climbD h d p) := by
  induction d with
  | nil => intro h p hh; exact hh
  | cons b d ih =>
    intro h p hh
    cases p with
    | nil => cases b <;> exact hh
    | cons x p => cases b <;> exact ih _ p ⟨sumL_length _, sumL_bytes _⟩
/-- What Check answers: 0, 2 or 80. -/
def checkF (h : List Int) (i n : Int) (p : List (List Int)) (root : List Int) : Int :=
  if n < 1 ∨ 4096 < n ∨ i < 0 ∨ n ≤ i then 2 else if comeL h i.toNat (n.toNat - 1) p = some root then 0 else 80
theorem checkF_arg {h : List Int} {i n : Int} {p : List (List Int)} {root : List Int} (k : n < 1 ∨ 4096 < n ∨ i < 0 ∨ n ≤ i) : checkF h i n p root = 2 := by unfold checkF; rw [if_pos k]
theorem checkF_in {h : List Int} {i n : Nat} {p : List (List Int)} {root : List Int} (hi : i < n) (hn : n ≤ 4096) : checkF h i n p root = if comeL h i (n - 1) p = some root then 0 else 80 := by
  unfold checkF; rw [if_neg (by omega)]; rfl
theorem checkF_path {ls : List (List Int)} {i : Nat} (hi : i < ls.length) (hn : ls.length ≤ 4096) : checkF (ls.getD i []) i ls.length (pathL ls i) (rootL ls) = 0 := by
  rw [checkF_in hi hn, comeL_path ls i hi, if_pos rfl]
theorem checkF_length {h : List Int} {i n : Nat} {p : List (List Int)} {root : List Int} (hi : i < n) (hn : n ≤ 4096) (hl : p.length ≠ (sides i (n - 1)).length) : checkF h i n p root = 80 := by
  rw [checkF_in hi hn, comeL_length h i _ p hl, if_neg (by intro h; cases h)]
end Go.Proofs.YtpndccoikhejgaaDoor
namespace Go.Proofs.YtpndccoikhejgaaDoor
open Go.RowKit
set_option linter.unusedVariables false
set_option maxRecDepth 100000

/-- What stands for a seed's keys. -/
def keysF (seed : ByteArray) : List (List Int) := (List.range 8).map fun i => keyF (pubN seed i 512)
theorem keysF_length (seed : ByteArray) : (keysF seed).length = 8 := by simp [keysF]
theorem keysF_get (seed : ByteArray) (i : Nat) (h : i < 8) : (keysF seed).getD i [] = keyF (pubN seed i 512) := by simp [keysF, List.getD, h]
theorem keysF_hashes (seed : ByteArray) : hashes (keysF seed) := fun l hl => by
  obtain ⟨k, _, rfl⟩ := List.mem_map.1 hl
  exact keyF_is _
def rootF (seed : ByteArray) : List Int := rootL (keysF seed)
theorem rootF_is (seed : ByteArray) : (rootF seed).length = 32 ∧ bytes (rootF seed) := rootL_is _ (keysF_hashes seed)
/-- A seal's three parts, and the error. -/
def sealF (seed : ByteArray) (i : Int) (d : List Int) : (Int × ByteArray × List (List Int)) × Int :=
  if i < 0 ∨ 7 < i then ((0, ⟨#[]⟩, []), 2) else ((i, sigF seed i d, pathL (keysF seed) i.toNat), 0)
theorem sealF_no {seed : ByteArray} {i : Int} {d : List Int} (h : i < 0 ∨ 7 < i) : sealF seed i d = ((0, ⟨#[]⟩, []), 2) := by unfold sealF; rw [if_pos h]
theorem sealF_ok {seed : ByteArray} {i : Nat} {d : List Int} (h : i < 8) : sealF seed i d = (((i : Int), sigF seed i d, pathL (keysF seed) i), 0) := by unfold sealF; rw [if_neg (by omega)]; rfl
theorem path8_length (seed : ByteArray) (i : Nat) (h : i < 8) : (pathL (keysF seed) i).length = 3 := by
  rw [pathL_sides _ _ (by rw [keysF_length]; exact h), keysF_length]
  have key : ∀ i, i < 8 → (sides i 7).length = 3 := by
    intro i hi
    rw [sides_more i 7 (by decide) (by omega), sides_more (i / 2) (7 / 2) (by decide) (by omega), sides_more (i / 2 / 2) (7 / 2 / 2) (by decide) (by omega), sides_zero]; rfl
  exact key i h
theorem path8_hashes (seed : ByteArray) (i : Nat) : hashes (pathL (keysF seed) i) := pathL_hashes _ _ _ rfl (keysF_hashes seed)
/-- Whether a seal is verified: the error. -/
def verF (root d : List Int) (i : Int) (sig : ByteArray) (p : List (List Int)) : Int :=
  if i < 0 ∨ 7 < i then 2 else if (recF sig d).2 = 0 ∧ checkF (recF sig d).1 i 8 p root = 0 then 0 else 81
theorem verF_arg {root d : List Int} {i : Int} {sig : ByteArray} {p : List (List Int)} (h : i < 0 ∨ 7 < i) : verF root d i sig p = 2 := by unfold verF; rw [if_pos h]
theorem verF_in {root d : List Int} {i : Nat} {sig : ByteArray} {p : List (List Int)} (h : i < 8) : verF root d i sig p = if (recF sig d).2 = 0 ∧ checkF (recF sig d).1 i 8 p root = 0 then 0 else 81 := by unfold verF; rw [if_neg (by omega)]
/-- What a key signed is verified against the root. -/
theorem verF_own (seed : ByteArray) (i : Nat) (h : i < 8) (d : List Int) : verF (rootF seed) d i (sigF seed i d) (pathL (keysF seed) i) = 0 := by
  rw [verF_in h, recF_sig seed i d (by omega)]
  have e := checkF_path (ls := keysF seed) (i := i) (by rw [keysF_length]; exact h) (by rw [keysF_length]; decide)
  rw [keysF_get seed i h, keysF_length] at e
  rw [if_pos ⟨rfl, e⟩]
/-- A tree of eight leaves. -/
theorem root8 (a b c d e f g h : List Int) : rootL [a, b, c, d, e, f, g, h] = nodeL (nodeL (nodeL a b) (nodeL c d)) (nodeL (nodeL e f) (nodeL g h)) := by
  have s8 : splitN 8 = 4 := splitN_is 8 2 (by decide) (by decide)
  have s4 : splitN 4 = 2 := splitN_is 4 1 (by decide) (by decide)
  have s2 : splitN 2 = 1 := splitN_is 2 0 (by decide) (by decide)
  have r2 : ∀ x y : List Int, rootL [x, y] = nodeL x y := fun x y => by
    rw [rootL_more _ (by simp)]
    show nodeL (rootL ([x, y].take (splitN 2))) (rootL ([x, y].drop (splitN 2))) = _
    rw [s2]
    show nodeL (rootL [x]) (rootL [y]) = _
    rw [rootL_one [x] rfl, rootL_one [y] rfl]; rfl
  have r4 : ∀ x y z u : List Int, rootL [x, y, z, u] = nodeL (nodeL x y) (nodeL z u) := fun x y z u => by
    rw [rootL_more _ (by simp)]
    show nodeL (rootL ([x, y, z, u].take (splitN 4))) (rootL ([x, y, z, u].drop (splitN 4))) = _
    rw [s4]
    show nodeL (rootL [x, y]) (rootL [z, u]) = _
    rw [r2, r2]
  rw [rootL_more _ (by simp)]
  show nodeL (rootL ([a, b, c, d, e, f, g, h].take (splitN 8))) (rootL ([a, b, c, d, e, f, g, h].drop (splitN 8))) = _
  rw [s8]
  show nodeL (rootL [a, b, c, d]) (rootL [e, f, g, h]) = _
  rw [r4, r4]
theorem keysF_eight (seed : ByteArray) : keysF seed = [keyF (pubN seed 0 512), keyF (pubN seed 1 512), keyF (pubN seed 2 512), keyF (pubN seed 3 512), keyF (pubN seed 4 512), keyF (pubN seed 5 512), keyF (pubN seed 6 512), keyF (pubN seed 7 512)] := by
  unfold keysF
  rw [show List.range 8 = [0, 1, 2, 3, 4, 5, 6, 7] from rfl]; rfl
/-- The fourth leaf's path. -/
theorem path3 (a b c d e f g h : List Int) : pathL [a, b, c, d, e, f, g, h] 3 = [c, nodeL a b, nodeL (nodeL e f) (nodeL g h)] := by
  have s8 : splitN 8 = 4 := splitN_is 8 2 (by decide) (by decide)
  have s4 : splitN 4 = 2 := splitN_is 4 1 (by decide) (by decide)
  have s2 : splitN 2 = 1 := splitN_is 2 0 (by decide) (by decide)
  have r2 : ∀ x y : List Int, rootL [x, y] = nodeL x y := fun x y => by
    rw [rootL_more _ (by simp)]
    show nodeL (rootL ([x, y].take (splitN 2))) (rootL ([x, y].drop (splitN 2))) = _
    rw [s2]
    show nodeL (rootL [x]) (rootL [y]) = _
    rw [rootL_one [x] rfl, rootL_one [y] rfl]; rfl
  have r4 : ∀ x y z u : List Int, rootL [x, y, z, u] = nodeL (nodeL x y) (nodeL z u) := fun x y z u => by
    rw [rootL_more _ (by simp)]
    show nodeL (rootL ([x, y, z, u].take (splitN 4))) (rootL ([x, y, z, u].drop (splitN 4))) = _
    rw [s4]
    show nodeL (rootL [x, y]) (rootL [z, u]) = _
    rw [r2, r2]
  rw [pathL_left _ _ (by simp) (by show 3 < splitN 8; rw [s8]; decide)]
  show pathL ([a, b, c, d, e, f, g, h].take (splitN 8)) 3 ++ [rootL ([a, b, c, d, e, f, g, h].drop (splitN 8))] = _
  rw [s8]
  show pathL [a, b, c, d] 3 ++ [rootL [e, f, g, h]] = _
  rw [r4, pathL_right _ _ (by simp) (by show ¬ 3 < splitN 4; rw [s4]; decide)]
  show pathL ([a, b, c, d].drop (splitN 4)) (3 - splitN 4) ++ [rootL ([a, b, c, d].take (splitN 4))] ++ _ = _
  rw [s4]
  show pathL [c, d] 1 ++ [rootL [a, b]] ++ _ = _
  rw [r2, pathL_right _ _ (by simp) (by show ¬ 1 < splitN 2; rw [s2]; decide)]
  show pathL ([c, d].drop (splitN 2)) (1 - splitN 2) ++ [rootL ([c, d].take (splitN 2))] ++ _ ++ _ = _
  rw [s2]
  show pathL [d] 0 ++ [rootL [c]] ++ _ ++ _ = _
  rw [pathL_few _ _ (by simp), rootL_one [c] rfl]; rfl
/-- What a leaf and such a path come to. -/
theorem come3 (x c n r : List Int) : comeL x 3 7 [c, n, r] = some (nodeL (nodeL n (nodeL c x)) r) := by
  rw [comeL_odd _ _ _ _ _ (by decide) (by decide)]
  show comeL (nodeL c x) 1 3 [n, r] = _
  rw [comeL_odd _ _ _ _ _ (by decide) (by decide)]
  show comeL (nodeL n (nodeL c x)) 0 1 [r] = _
  rw [comeL_even _ _ _ _ _ (by decide) (by decide) (by decide)]
  show comeL (nodeL (nodeL n (nodeL c x)) r) 0 0 [] = _
  rw [comeL_done]
end Go.Proofs.YtpndccoikhejgaaDoor
namespace Go.Proofs.YtpndccoikhejgaaDoor
open Go.RowKit
set_option linter.unusedVariables false
set_option maxRecDepth 100000

/-- A signed head: size, root, index, signature, path. -/
structure Sh where
  size : Int
  root : List Int
  index : Int
  sig : ByteArray
  path : List (List Int)
/-- Its hashes are hashes. -/
def Sh.fits (x : Sh) : Prop := (x.root.length = 32 ∧ bytes x.root) ∧ hashes x.path
/-- It may be. -/
def Sh.ok (x : Sh) : Prop := (0 ≤ x.size ∧ x.size ≤ 4096) ∧ (0 ≤ x.index ∧ x.index ≤ 7) ∧ x.sig.size = 16384 ∧ x.path.length = 3
instance (x : Sh) : Decidable x.ok := by unfold Sh.ok; infer_instance
theorem Sh.ext' {x y : Sh} (h1 : x.size = y.size) (h2 : x.root = y.root) (h3 : x.index = y.index) (h4 : x.sig = y.sig) (h5 : x.path = y.path) : x = y := by
  cases x; cases y; simp_all
/-- Its bytes. -/
def headS (x : Sh) : ByteArray := numS x.size.toNat ++ (strOfNums x.root ++ (numS x.index.toNat ++ (textS x.sig ++ listS x.path)))
/-- What stands ahead of bytes, and what is behind it. -/
def rdN (s : ByteArray) : Option (Nat × ByteArray) := match readR s with
  | none => none
  | some (n, p) => some (n, s.extract p s.size)
def rdH (s : ByteArray) : Option (List Int × ByteArray) := if s.size < 32 then none else some ((textL s).take 32, s.extract 32 s.size)
def rdT (s : ByteArray) : Option (ByteArray × ByteArray) := match readR s with
  | none => none
  | some (n, p) => if n ≤ (s.extract p s.size).size then some ((s.extract p s.size).extract 0 n, (s.extract p s.size).extract n (s.extract p s.size).size) else none
def rdL (s : ByteArray) : Option (List (List Int) × ByteArray) := match unhsR s with
  | none => none
  | some (n, p) => some (chunk (textL (s.extract p s.size)) n, (s.extract p s.size).extract (32 * n) (s.extract p s.size).size)
theorem rdN_put (n : Nat) (hn : n < 18446744073709551616) (r : ByteArray) : rdN (numS n ++ r) = some (n, r) := by
  unfold rdN; rw [read_num n hn r]; simp only; rw [rest_app _ _ _ rfl]
theorem rdN_form {s r : ByteArray} {n : Nat} (h : rdN s = some (n, r)) : numS n ++ r = s ∧ n < 18446744073709551616 := by
  unfold rdN at h
  split at h
  · cases h
  · rename_i n' p hr
    simp only [Option.some.injEq, Prod.mk.injEq] at h
    obtain ⟨rfl, rfl⟩ := h
    obtain ⟨h1, h2, _⟩ := read_form s _ _ hr
    exact ⟨h1, h2⟩
theorem rdH_put (l : List Int) (hl : l.length = 32 ∧ bytes l) (r : ByteArray) : rdH (strOfNums l ++ r) = some (l, r) := by
  have hz : (strOfNums l).size = 32 := by rw [strOfNums_size, hl.1]
  unfold rdH
  rw [if_neg (by rw [ByteArray.size_append]; omega), rest_app _ _ _ hz.symm, textL_app, textL_nums _ hl.2, List.take_append_of_le_length (by omega), List.take_of_length_le (by omega)]
theorem rdH_form {s r : ByteArray} {l : List Int} (h : rdH s = some (l, r)) : strOfNums l ++ r = s ∧ l.length = 32 ∧ bytes l := by
  unfold rdH at h
  split at h
  · cases h
  · rename_i hs
    simp only [Option.some.injEq, Prod.mk.injEq] at h
    obtain ⟨rfl, rfl⟩ := h
    exact ⟨unh_form s hs, by rw [List.length_take, textL_length]; omega, fun x hx => textL_bytes s x (List.mem_of_mem_take hx)⟩
theorem rdT_put (t : ByteArray) (ht : t.size < 18446744073709551616) (r : ByteArray) : rdT (textS t ++ r) = some (t, r) := by
  have e : textS t ++ r = numS t.size ++ (t ++ r) := by unfold textS; rw [ByteArray.append_assoc]
  unfold rdT
  rw [e, read_num t.size ht (t ++ r)]
  simp only
  rw [rest_app _ _ _ rfl, if_pos (by rw [ByteArray.size_append]; omega), head_app _ _ _ rfl, rest_app _ _ _ rfl]
theorem rdT_form {s r t : ByteArray} (h : rdT s = some (t, r)) : textS t ++ r = s := by
  unfold rdT at h
  split at h
  · cases h
  · rename_i n p hr
    split at h
    · rename_i hn
      simp only [Option.some.injEq, Prod.mk.injEq] at h
      obtain ⟨rfl, rfl⟩ := h
      exact cut_form s n p hr hn
    · cases h
theorem rdL_put (ls : List (List Int)) (hs : hashes ls) (hn : ls.length ≤ 64) (r : ByteArray) : rdL (listS ls ++ r) = some (ls, r) := by
  obtain ⟨h1, h2⟩ := unhs_list ls hs (by omega) r
  unfold rdL
  rw [h1]
  simp only
  rw [h2, list_chunk ls hs r, list_rest ls hs r]
theorem rdL_form {s r : ByteArray} {ls : List (List Int)} (h : rdL s = some (ls, r)) : listS ls ++ r = s ∧ hashes ls ∧ ls.length ≤ 64 := by
  unfold rdL at h
  split at h
  · cases h
  · rename_i n p hr
    simp only [Option.some.injEq, Prod.mk.injEq] at h
    obtain ⟨rfl, rfl⟩ := h
    obtain ⟨h1, h2, h3⟩ := unhsR_some s _ _ hr
    exact ⟨unhs_form s n p h1 ⟨h2, h3⟩, chunk_hashes _ _ (by rw [textL_length]; exact h3) (textL_bytes _), by rw [chunk_length]; exact h2⟩
/-- All of a head that stands ahead, and what is behind it. -/
def parseF (s : ByteArray) : Option (Sh × ByteArray) :=
  (rdN s).bind fun a => (rdH a.2).bind fun b => (rdN b.2).bind fun c => (rdT c.2).bind fun d => (rdL d.2).bind fun e => some (⟨(a.1 : Int), b.1, (c.1 : Int), d.1, e.1⟩, e.2)
theorem parse_put (x : Sh) (hf : x.fits) (h0 : 0 ≤ x.size ∧ x.size < 18446744073709551616) (h1 : 0 ≤ x.index ∧ x.index < 18446744073709551616) (h2 : x.sig.size < 18446744073709551616) (h3 : x.path.length ≤ 64) (r : ByteArray) : parseF (headS x ++ r) = some (x, r) := by
  have e : headS x ++ r = numS x.size.toNat ++ (strOfNums x.root ++ (numS x.index.toNat ++ (textS x.sig ++ (listS x.path ++ r)))) := by
    unfold headS; simp only [ByteArray.append_assoc]
  unfold parseF
  rw [e, rdN_put _ (by omega)]
  simp only [Option.bind_some]
  rw [rdH_put _ hf.1]
  simp only [Option.bind_some]
  rw [rdN_put _ (by omega)]
  simp only [Option.bind_some]
  rw [rdT_put _ h2]
  simp only [Option.bind_some]
  rw [rdL_put _ hf.2 h3]
  simp only [Option.bind_some, Option.some.injEq, Prod.mk.injEq, and_true]
  exact Sh.ext' (Int.toNat_of_nonneg h0.1) rfl (Int.toNat_of_nonneg h1.1) rfl rfl
theorem parse_form {s r : ByteArray} {x : Sh} (h : parseF s = some (x, r)) : headS x ++ r = s ∧ x.fits ∧ (0 ≤ x.size ∧ x.size < 18446744073709551616) ∧ (0 ≤ x.index ∧ x.index < 18446744073709551616) ∧ x.path.length ≤ 64 := by
  unfold parseF at h
  obtain ⟨⟨n, s1⟩, ha, h⟩ := Option.bind_eq_some_iff.1 h
  obtain ⟨⟨l, s2⟩, hb, h⟩ := Option.bind_eq_some_iff.1 h
  obtain ⟨⟨i, s3⟩, hc, h⟩ := Option.bind_eq_some_iff.1 h
  obtain ⟨⟨t, s4⟩, hd, h⟩ := Option.bind_eq_some_iff.1 h
  obtain ⟨⟨p, s5⟩, he, h⟩ := Option.bind_eq_some_iff.1 h
  simp only [Option.some.injEq, Prod.mk.injEq] at h
  obtain ⟨rfl, rfl⟩ := h
  obtain ⟨a1, a2⟩ := rdN_form ha
  obtain ⟨b1, b2⟩ := rdH_form hb
  obtain ⟨c1, c2⟩ := rdN_form hc
  have d1 := rdT_form hd
  obtain ⟨e1, e2, e3⟩ := rdL_form he
  simp only at b1 b2 c1 c2 d1 e1 e2 e3
  refine ⟨?_, ⟨b2, e2⟩, ⟨by show (0 : Int) ≤ (n : Int); omega, by show (n : Int) < _; omega⟩, ⟨by show (0 : Int) ≤ (i : Int); omega, by show (i : Int) < _; omega⟩, e3⟩
  unfold headS
  simp only [ByteArray.append_assoc, Int.toNat_natCast]
  rw [e1, d1, c1, b1, a1]
/-- The head of bytes. -/
def getF (s : ByteArray) : Option Sh := match parseF s with
  | none => none
  | some (x, r) => if r.size = 0 ∧ x.ok then some x else none
theorem ok_bounds {x : Sh} (h : x.ok) : (0 ≤ x.size ∧ x.size < 18446744073709551616) ∧ (0 ≤ x.index ∧ x.index < 18446744073709551616) ∧ x.sig.size < 18446744073709551616 ∧ x.path.length ≤ 64 := by
  obtain ⟨h1, h2, h3, h4⟩ := h
  omega
theorem empty_of_size {r : ByteArray} (h : r.size = 0) : r = ⟨#[]⟩ := by
  apply textL_inj
  have e : ∀ l : List Int, l.length = 0 → l = [] := fun l hl => List.eq_nil_of_length_eq_zero hl
  rw [e (textL r) (by rw [textL_length]; exact h), e (textL ⟨#[]⟩) (by rw [textL_length]; rfl)]
theorem app_empty (s : ByteArray) : s ++ ⟨#[]⟩ = s := by
  apply textL_inj
  have e : textL ⟨#[]⟩ = [] := List.eq_nil_of_length_eq_zero (by rw [textL_length]; rfl)
  rw [textL_app, e, List.append_nil]
theorem parse_ok (x : Sh) (hf : x.fits) (ho : x.ok) (r : ByteArray) : parseF (headS x ++ r) = some (x, r) := by
  obtain ⟨h1, h2, h3, h4⟩ := ok_bounds ho
  exact parse_put x hf h1 h2 h3 h4 r
theorem get_put (x : Sh) (hf : x.fits) (ho : x.ok) : getF (headS x) = some x := by
  have h := parse_ok x hf ho ⟨#[]⟩
  rw [app_empty] at h
  unfold getF
  rw [h]
  simp only
  rw [if_pos ⟨rfl, ho⟩]
theorem get_form {s : ByteArray} {x : Sh} (h : getF s = some x) : headS x = s ∧ x.fits ∧ x.ok := by
  unfold getF at h
  split at h
  · cases h
  · rename_i y r hp
    split at h
    · rename_i hc
      obtain rfl := Option.some.inj h
      obtain ⟨h1, h2, _⟩ := parse_form hp
      rw [empty_of_size hc.1, app_empty] at h1
      exact ⟨h1, h2, hc.2⟩
    · cases h
/-- What has something behind it, and what is cut off, is none. -/
theorem get_behind (x : Sh) (hf : x.fits) (ho : x.ok) (r : ByteArray) (hr : r.size ≠ 0) : getF (headS x ++ r) = none := by
  unfold getF
  rw [parse_ok x hf ho r]
  simp only
  rw [if_neg (fun h => hr h.1)]
theorem get_cut (x : Sh) (hf : x.fits) (ho : x.ok) (k : Nat) (hk : k < (headS x).size) : getF ((headS x).extract 0 k) = none := by
  rcases h : getF ((headS x).extract 0 k) with _ | y
  · rfl
  · exfalso
    obtain ⟨h1, h2, h3⟩ := get_form h
    have e : headS y ++ (headS x).extract k (headS x).size = headS x := by rw [h1]; exact cut_in_two _ k
    have p1 := parse_ok y h2 h3 ((headS x).extract k (headS x).size)
    have p2 := parse_ok x hf ho ⟨#[]⟩
    rw [e] at p1
    rw [app_empty, p1] at p2
    simp only [Option.some.injEq, Prod.mk.injEq] at p2
    have := congrArg ByteArray.size p2.2
    rw [ByteArray.size_extract] at this
    have z : (⟨#[]⟩ : ByteArray).size = 0 := rfl
    omega
theorem headS_inj {x y : Sh} (hx : x.fits) (ox : x.ok) (hy : y.fits) (oy : y.ok) (h : headS x = headS y) : x = y := by
  have a := get_put x hx ox
  rw [h, get_put y hy oy] at a
  exact (Option.some.inj a).symm
/-- What is signed of a head. -/
def digS (size : Int) (root : List Int) : ByteArray := ⟨#[5]⟩ ++ putS (size % 18446744073709551616) 8 ++ strOfNums root
def digF (size : Int) (root : List Int) : List Int := sumL (digS size root)
theorem digF_is (size : Int) (root : List Int) : (digF size root).length = 32 ∧ bytes (digF size root) := ⟨sumL_length _, sumL_bytes _⟩
/-- Put's answer. -/
def putF (x : Sh) : ByteArray × Int := if x.ok then (headS x, 0) else (⟨#[]⟩, 2)
/-- Check's answer. -/
def chkF (key : List Int) (x : Sh) : Int := if x.ok then (if verF key (digF x.size x.root) x.index x.sig x.path = 0 then 0 else 81) else 2
/-- How a head stands to another one. -/
def ordF (s : Int) (r : List Int) (s' : Int) (r' : List Int) : Int := if s < s' then 0 else if s' < s then 2 else if r = r' then 1 else 3
end Go.Proofs.YtpndccoikhejgaaDoor
namespace Go.Proofs.YtpndccoikhejgaaDoor
open Go.RowKit
set_option linter.unusedVariables false
set_option maxRecDepth 100000

def numA (s : ByteArray) : Nat := match rdN s with | none => 0 | some (n, _) => n
def numB (s : ByteArray) : ByteArray := match rdN s with | none => ⟨#[]⟩ | some (_, t) => t
def numO (s : ByteArray) : Bool := (rdN s).isSome
def hashA (s : ByteArray) : List Int := match rdH s with | none => List.replicate 32 0 | some (l, _) => l
def hashB (s : ByteArray) : ByteArray := match rdH s with | none => ⟨#[]⟩ | some (_, t) => t
def hashO (s : ByteArray) : Bool := (rdH s).isSome
def cutA (s : ByteArray) : ByteArray := match rdT s with | none => ⟨#[]⟩ | some (l, _) => l
def cutB (s : ByteArray) : ByteArray := match rdT s with | none => ⟨#[]⟩ | some (_, t) => t
def cutO (s : ByteArray) : Bool := (rdT s).isSome
theorem rdN_is (s : ByteArray) : rdN s = if numO s then some (numA s, numB s) else none := by
  unfold numO numA numB; cases rdN s <;> rfl
theorem rdH_is (s : ByteArray) : rdH s = if hashO s then some (hashA s, hashB s) else none := by
  unfold hashO hashA hashB; cases rdH s <;> rfl
theorem rdT_is (s : ByteArray) : rdT s = if cutO s then some (cutA s, cutB s) else none := by
  unfold cutO cutA cutB; cases rdT s <;> rfl
theorem rdL_is (s : ByteArray) : rdL s = if unhsO s then some (unhsL s, unhsT s) else none := by
  unfold rdL unhsO unhsL unhsT; cases unhsR s <;> rfl
theorem readV_is (s : ByteArray) : readV s = .tuple #[.int .u64 (numA s : Int), .string (numB s), .bool (numO s)] := by
  unfold numA numB numO rdN
  rcases h : readR s with _ | ⟨n, p⟩
  · rw [readV_no s h]; rfl
  · rw [readV_yes s n p h]; rfl
theorem unhV_is (s : ByteArray) : unhV s = .tuple #[.agg (nums .u8 (hashA s)), .string (hashB s), .bool (hashO s)] := by
  unfold hashA hashB hashO rdH
  by_cases h : s.size < 32
  · rw [unhV_no s h, if_pos h]; rfl
  · rw [unhV_yes s h, if_neg h]; rfl
theorem cutV_is (s : ByteArray) : cutV s = .tuple #[.string (cutA s), .string (cutB s), .bool (cutO s)] := by
  unfold cutA cutB cutO rdT
  rcases h : readR s with _ | ⟨n, p⟩
  · rw [cutV_none s h]; rfl
  · simp only
    by_cases hn : n ≤ (s.extract p s.size).size
    · rw [cutV_yes s n p h hn, if_pos hn]; rfl
    · rw [cutV_great s n p h hn, if_neg hn]; rfl
theorem hashA_is (s : ByteArray) : (hashA s).length = 32 ∧ bytes (hashA s) := by
  unfold hashA
  split
  · exact zeroL_is
  · rename_i l t h; exact (rdH_form h).2
theorem numA_lt (s : ByteArray) : numA s < 18446744073709551616 := by
  unfold numA
  split
  · decide
  · rename_i n t h; exact (rdN_form h).2
theorem numB_le (s : ByteArray) : (numB s).size ≤ s.size := by
  unfold numB
  split
  · exact Nat.zero_le _
  · rename_i n t h
    have := congrArg ByteArray.size (rdN_form h).1
    rw [ByteArray.size_append] at this; omega
theorem hashB_le (s : ByteArray) : (hashB s).size ≤ s.size := by
  unfold hashB
  split
  · exact Nat.zero_le _
  · rename_i n t h
    have := congrArg ByteArray.size (rdH_form h).1
    rw [ByteArray.size_append] at this; omega
theorem cutB_le (s : ByteArray) : (cutB s).size ≤ s.size := by
  unfold cutB
  split
  · exact Nat.zero_le _
  · rename_i n t h
    have := congrArg ByteArray.size (rdT_form h)
    rw [ByteArray.size_append] at this; omega
/-- The chain of rests; all flags; the head that is told. -/
def rest1 (s : ByteArray) : ByteArray := numB s
def rest2 (s : ByteArray) : ByteArray := hashB (rest1 s)
def rest3 (s : ByteArray) : ByteArray := numB (rest2 s)
def rest4 (s : ByteArray) : ByteArray := cutB (rest3 s)
def allO (s : ByteArray) : Prop := numO s = true ∧ hashO (rest1 s) = true ∧ numO (rest2 s) = true ∧ cutO (rest3 s) = true ∧ unhsO (rest4 s) = true
def toldF (s : ByteArray) : Sh := ⟨(numA s : Int), hashA (rest1 s), (numA (rest2 s) : Int), cutA (rest3 s), unhsL (rest4 s)⟩
theorem toldF_fits (s : ByteArray) : (toldF s).fits := ⟨hashA_is _, unhsL_hashes _⟩
theorem parse_yes (s : ByteArray) (h : allO s) : parseF s = some (toldF s, unhsT (rest4 s)) := by
  obtain ⟨h1, h2, h3, h4, h5⟩ := h
  unfold parseF
  rw [rdN_is, if_pos h1]
  simp only [Option.bind_some]
  rw [show numB s = rest1 s from rfl, rdH_is, if_pos h2]
  simp only [Option.bind_some]
  rw [show hashB (rest1 s) = rest2 s from rfl, rdN_is, if_pos h3]
  simp only [Option.bind_some]
  rw [show numB (rest2 s) = rest3 s from rfl, rdT_is, if_pos h4]
  simp only [Option.bind_some]
  rw [show cutB (rest3 s) = rest4 s from rfl, rdL_is, if_pos h5]
  rfl
theorem parse_no (s : ByteArray) (h : ¬ allO s) : parseF s = none := by
  unfold parseF
  rw [rdN_is]
  by_cases h1 : numO s = true
  · rw [if_pos h1]
    simp only [Option.bind_some]
    rw [show numB s = rest1 s from rfl, rdH_is]
    by_cases h2 : hashO (rest1 s) = true
    · rw [if_pos h2]
      simp only [Option.bind_some]
      rw [show hashB (rest1 s) = rest2 s from rfl, rdN_is]
      by_cases h3 : numO (rest2 s) = true
      · rw [if_pos h3]
        simp only [Option.bind_some]
        rw [show numB (rest2 s) = rest3 s from rfl, rdT_is]
        by_cases h4 : cutO (rest3 s) = true
        · rw [if_pos h4]
          simp only [Option.bind_some]
          rw [show cutB (rest3 s) = rest4 s from rfl, rdL_is]
          by_cases h5 : unhsO (rest4 s) = true
          · exact absurd ⟨h1, h2, h3, h4, h5⟩ h
          · rw [if_neg h5]; rfl
        · rw [if_neg h4]; rfl
      · rw [if_neg h3]; rfl
    · rw [if_neg h2]; rfl
  · rw [if_neg h1]; rfl
theorem get_no (s : ByteArray) (h : ¬ allO s) : getF s = none := by unfold getF; rw [parse_no s h]
theorem get_bad (s : ByteArray) (h : ¬ ((toldF s).ok)) : getF s = none := by
  unfold getF
  by_cases ha : allO s
  · rw [parse_yes s ha]
    simp only
    rw [if_neg (fun hc => h hc.2)]
  · rw [parse_no s ha]
/-- Put of what was told is the text itself where nothing stands behind it. -/
theorem get_yes (s : ByteArray) (ha : allO s) (ho : (toldF s).ok) : (headS (toldF s) = s → getF s = some (toldF s)) ∧ (¬ headS (toldF s) = s → getF s = none) := by
  have hp := parse_yes s ha
  have hf := (parse_form hp).1
  constructor
  · intro h
    have := get_put (toldF s) (toldF_fits s) ho
    rwa [h] at this
  · intro h
    unfold getF
    rw [hp]
    simp only
    rw [if_neg (fun hc => h (by rw [empty_of_size hc.1, app_empty] at hf; exact hf))]
end Go.Proofs.YtpndccoikhejgaaDoor
namespace Go.Proofs.YtpndccoikhejgaaDoor
open Go.RowKit Go.Great
set_option linter.unusedVariables false
set_option maxRecDepth 100000

theorem take_same {ls ms : List (List Int)} {k : Nat} (h : ls.take k = ms.take k) (h1 : k < ls.length) (h2 : k < ms.length) (h3 : ls.getD k [] = ms.getD k []) : ls.take (k + 1) = ms.take (k + 1) := by
  rw [List.take_succ_eq_append_getElem h1, List.take_succ_eq_append_getElem h2, h]
  rw [List.getD_eq_getElem?_getD, List.getD_eq_getElem?_getD, List.getElem?_eq_getElem h1, List.getElem?_eq_getElem h2] at h3
  simp only [Option.getD_some] at h3
  rw [h3]
theorem same_all {ls ms : List (List Int)} (h : ls.take ls.length = ms.take ls.length) (h1 : ls.length = ms.length) : ls = ms := by
  rw [List.take_of_length_le (Nat.le_refl _), List.take_of_length_le (by omega)] at h
  exact h
theorem same_not {ls ms : List (List Int)} {k : Nat} (h3 : ¬ ls.getD k [] = ms.getD k []) : ¬ ls = ms := fun e => h3 (by rw [e])
attribute [local go_sem ↓ high] read_at neq_at
set_option maxHeartbeats 4000000 in
theorem lsame_any (ls ms : List (List Int)) (hl : hashes ls) (hm : hashes ms) (h63 : ls.length ≤ 9223372036854775807) (h64 : ms.length ≤ 9223372036854775807) (A B : Option Addr) (c d : Nat) (w : World) (hA : HL w w.heap.size A ls) (hB : HL w w.heap.size B ms) :
    Calls Tryd.prog 70 #[.slice A ls.length c, .slice B ms.length d] w fun e w' => e = .returned (.bool (decide (ls = ms))) ∧ ∃ k, w' = w.drewN k := by
  obtain ⟨n, hn⟩ : ∃ n, Hid (n = ls.length) := ⟨_, Lib.hid rfl⟩
  obtain ⟨m, hmm⟩ : ∃ m, Hid (m = ms.length) := ⟨_, Lib.hid rfl⟩
  rw [← hn.out] at h63 ⊢
  rw [← hmm.out] at h64 ⊢
  have HA := Lib.hid hA
  have HB := Lib.hid hB
  clear hA hB
  by_cases hnm : n = m
  · have HNM : Hid (ls.length = ms.length) := Lib.hid (by rw [← hn.out, ← hmm.out]; exact hnm)
    subst hnm
    have d1 : ((n : Int) != (n : Int)) = false := by simp
    have d2 : ((n : Int) == (n : Int)) = true := by simp
    obtain ⟨b, hb⟩ : ∃ b, Hid (b = decide (ls = ms)) := ⟨_, Lib.hid rfl⟩
    rw [← hb.out]
    go_enter Tryd.func70, Tryd.ntmps70
    go_wp2
    go_loopw [5] (fun s13 wr => ∃ k q : Nat, k ≤ n ∧ s13 = .int .i64 (k : Int) ∧ wr = w.drewN q ∧ Hid (ls.take k = ms.take k)) (fun s13 _ => (n - intOf s13).toNat)
    case atStart => exact ⟨0, 0, by omega, rfl, rfl, Lib.hid rfl⟩
    case round =>
      obtain ⟨k, q, hk, rfl, rfl, HK⟩ := hrel
      by_cases hlt : k < n
      · obtain ⟨ad, rfl⟩ := HA.out.some k (by rw [← hn.out]; exact hlt)
        obtain ⟨bd, rfl⟩ := HB.out.some k (by rw [← hmm.out]; exact hlt)
        have s1 := fun p => (HA.out.next (below_drewN (Below.refl _ w) p) (Nat.le_refl _)).read hl k (by rw [← hn.out]; exact hlt)
        have s2 := fun p => (HB.out.next (below_drewN (Below.refl _ w) p) (Nat.le_refl _)).read hm k (by rw [← hmm.out]; exact hlt)
        obtain ⟨l, hll⟩ : ∃ l, Hid (l = ls.getD k []) := ⟨_, Lib.hid rfl⟩
        obtain ⟨l2, hl2⟩ : ∃ l, Hid (l = ms.getD k []) := ⟨_, Lib.hid rfl⟩
        rw [← hll.out] at s1
        rw [← hl2.out] at s2
        have i1 := hashes_at hl k (by rw [← hn.out]; exact hlt)
        have i2 := hashes_at hm k (by rw [← hmm.out]; exact hlt)
        rw [← hll.out] at i1
        rw [← hl2.out] at i2
        by_cases he : l = l2
        · have N1 := fun W => (neqAt_hash l l2 i1.1 i2.1 i1.2 i2.2 W).trans (by rw [decide_eq_true he]; try rfl)
          have HN : Hid (ls.take (k + 1) = ms.take (k + 1)) := Lib.hid (take_same HK.out (by rw [← hn.out]; exact hlt) (by rw [← hmm.out]; exact hlt) (by rw [← hll.out, ← hl2.out]; exact he))
          clear i1 i2 he
          go_wp2
          go_quiet (fail)
          go_wp2
          go_roundw
          case rel => exact ⟨k + 1, _, by omega, by go_num, rfl, HN⟩
          case measure => simp [intOf]; omega
        · have N1 := fun W => (neqAt_hash l l2 i1.1 i2.1 i1.2 i2.2 W).trans (by rw [decide_eq_false he]; try rfl)
          have HN : Hid (b = false) := Lib.hid (by rw [hb.out]; exact decide_eq_false (same_not (by rw [← hll.out, ← hl2.out]; exact he)))
          clear i1 i2 he
          go_wp2
          go_quiet (fail)
          go_wp2
          go_ret
          exact ⟨by rw [HN.out]; rfl, q + nq, World.drewN_drewN _ _ _⟩
      · have hk9 : Hid (k = n) := Lib.hid (by omega)
        have HN : Hid (b = true) := Lib.hid (by rw [hb.out]; exact decide_eq_true (same_all (by have := HK.out; rw [hk9.out, hn.out] at this; exact this) HNM.out))
        go_wp2
        go_ret
        exact ⟨by rw [HN.out]; rfl, _, rfl⟩
  · have d1 : ((n : Int) != (m : Int)) = true := by simp; omega
    have d2 : ((n : Int) == (m : Int)) = false := by simp; omega
    have HN : Hid (decide (ls = ms) = false) := Lib.hid (decide_eq_false (fun e => hnm (by rw [hn.out, hmm.out, e])))
    go_enter Tryd.func70, Tryd.ntmps70
    go_wp2
    go_ret
    exact ⟨by rw [HN.out]; rfl, 0, rfl⟩
end Go.Proofs.YtpndccoikhejgaaDoor
