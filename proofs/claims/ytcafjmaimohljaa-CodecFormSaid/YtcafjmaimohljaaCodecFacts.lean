/-
  Plain facts of layer 3: what is put is read, what is read has the bytes that stood there; of what is cut off nothing is read. No walk stands here.
-/
import Derived.Test.YtcafjmaimohljaaUnhsWalk
import Derived.Test.YtcafjmaimohljaaHashes
import Derived.Test.YtcafjmaimohljaaRefCut
namespace Go.Proofs.Ytcafjmaimohljaa
open Go.RowKit
set_option linter.unusedVariables false

theorem bytes_app {a b : List Int} (ha : ∀ x ∈ a, 0 ≤ x ∧ x < 256) (hb : ∀ x ∈ b, 0 ≤ x ∧ x < 256) : ∀ x ∈ a ++ b, 0 ≤ x ∧ x < 256 := fun x hx => by
  rcases List.mem_append.1 hx with h | h
  · exact ha x h
  · exact hb x h
theorem rest_app (a b : ByteArray) (p : Nat) (hp : p = a.size) : (a ++ b).extract p (a ++ b).size = b := by
  apply textL_inj
  rw [textL_rest, textL_app, List.drop_append_of_le_length (by rw [textL_length]; omega), List.drop_of_length_le (by rw [textL_length]; omega), List.nil_append]
theorem head_app (a b : ByteArray) (p : Nat) (hp : p = a.size) : (a ++ b).extract 0 p = a := by
  apply textL_inj
  rw [textL_take, textL_app, List.take_append_of_le_length (by rw [textL_length]; omega), List.take_of_length_le (by rw [textL_length]; omega)]
theorem numS_len (n : Nat) : (numS n).size = (Codec.numL n).length := by unfold numS; rw [strOfNums_size]
/-- A number, read. -/
theorem read_num (n : Nat) (hn : n < 18446744073709551616) (r : ByteArray) : readR (numS n ++ r) = some (n, (numS n).size) := by
  unfold readR
  rw [textL_app, textNum, Codec.rdP_num n hn, numS_len]
theorem read_numV (n : Nat) (hn : n < 18446744073709551616) (r : ByteArray) : readV (numS n ++ r) = .tuple #[.int .u64 (n : Nat), .string r, .bool true] := by
  rw [readV_yes _ _ _ (read_num n hn r), rest_app _ _ _ rfl]
/-- A text, read. -/
theorem cut_textV (s r : ByteArray) (hs : s.size < 18446744073709551616) : cutV (textS s ++ r) = .tuple #[.string s, .string r, .bool true] := by
  have e : textS s ++ r = numS s.size ++ (s ++ r) := by unfold textS; rw [ByteArray.append_assoc]
  have h := read_num s.size hs (s ++ r)
  rw [e, cutV_yes _ _ _ h (by rw [rest_app _ _ _ rfl, ByteArray.size_append]; omega), rest_app _ _ _ rfl, head_app _ _ _ rfl, rest_app _ _ _ rfl]
theorem chunk_is (ls : List (List Int)) (hs : hashes ls) (t : List Int) : ∀ k, k ≤ ls.length → chunk (ls.flatten ++ t) k = ls.take k := by
  intro k
  induction k with
  | zero => intro _; simp [chunk]
  | succ k ih =>
    intro hk
    have hkl : k < ls.length := by omega
    simp only [chunk]
    rw [ih (by omega), List.take_succ_eq_append_getElem hkl]
    congr 2
    have e : ls = ls.take k ++ (ls[k] :: ls.drop (k + 1)) := by rw [← List.drop_eq_getElem_cons hkl, List.take_append_drop]
    have hl : (ls.take k).flatten.length = 32 * k := by rw [flat_length (hashes_take hs k), List.length_take]; omega
    have hx : (ls[k]).length = 32 := (hs _ (List.getElem_mem hkl)).1
    have e2 : ls.flatten ++ t = (ls.take k).flatten ++ (ls[k] ++ ((ls.drop (k + 1)).flatten ++ t)) := by
      conv => lhs; rw [e]
      rw [List.flatten_append, List.flatten_cons]
      simp only [List.append_assoc]
    rw [e2, List.drop_append_of_le_length (by omega), List.drop_of_length_le (by omega), List.nil_append, List.take_append_of_le_length (by omega), List.take_of_length_le (by omega)]
theorem listS_is (ls : List (List Int)) (h : ¬ 64 < ls.length) : listS ls = numS ls.length ++ strOfNums ls.flatten := by
  unfold listS numS listL
  rw [if_neg h, texts_app]
/-- A list, read. -/
theorem unhs_list (ls : List (List Int)) (hs : hashes ls) (hn : ¬ 64 < ls.length) (r : ByteArray) :
    unhsR (listS ls ++ r) = some (ls.length, (numS ls.length).size) ∧ (listS ls ++ r).extract (numS ls.length).size (listS ls ++ r).size = strOfNums ls.flatten ++ r := by
  have hf : textL (strOfNums ls.flatten) = ls.flatten := textL_nums _ (flat_bytes hs)
  have e : listS ls ++ r = numS ls.length ++ (strOfNums ls.flatten ++ r) := by rw [listS_is ls hn, ByteArray.append_assoc]
  rw [e]
  refine ⟨?_, rest_app _ _ _ rfl⟩
  refine unhsR_yes _ _ _ (read_num _ (by omega) _) ⟨by omega, ?_⟩
  rw [rest_app _ _ _ rfl, ByteArray.size_append, strOfNums_size, flat_length hs]
  omega
theorem list_rest (ls : List (List Int)) (hs : hashes ls) (r : ByteArray) : (strOfNums ls.flatten ++ r).extract (32 * ls.length) (strOfNums ls.flatten ++ r).size = r :=
  rest_app _ _ _ (by rw [strOfNums_size, flat_length hs])
theorem list_chunk (ls : List (List Int)) (hs : hashes ls) (r : ByteArray) : chunk (textL (strOfNums ls.flatten ++ r)) ls.length = ls := by
  rw [textL_app, textL_nums _ (flat_bytes hs), chunk_is ls hs _ _ (Nat.le_refl _), List.take_length]
/-- Of a text that is cut off nothing is read. -/
theorem read_short (n : Nat) (hn : n < 18446744073709551616) (r : ByteArray) (k : Nat) (hk : k < (numS n).size + r.size) (m p : Nat) (h : readR ((numS n ++ r).extract 0 k) = some (m, p)) :
    m = n ∧ ((numS n ++ r).extract 0 k).extract p ((numS n ++ r).extract 0 k).size = r.extract 0 (k - (numS n).size) ∧ (r.extract 0 (k - (numS n).size)).size < r.size := by
  obtain ⟨h1, h2, h3, h4⟩ := readR_lt _ _ _ h
  have ht : textL ((numS n ++ r).extract 0 k) = (Codec.numL n ++ textL r).take k := by rw [textL_take, textL_app, textNum]
  have e : Codec.numL m ++ ((textL ((numS n ++ r).extract 0 k)).drop p ++ (Codec.numL n ++ textL r).drop k) = Codec.numL n ++ textL r := by
    rw [← List.append_assoc, ← h4, ht, List.take_append_drop]
  obtain ⟨rfl, e2⟩ := Codec.numL_prefix m n h1 hn _ _ e
  have hl : (textL ((numS m ++ r).extract 0 k)).length = k := by rw [ht, List.length_take, List.length_append, textL_length, ← numS_len]; omega
  rw [textL_length] at hl
  have hp : p = (numS m).size := by rw [h2, numS_len]
  have hpk : (numS m).size ≤ k := by rw [← hp, ← hl]; exact h3
  refine ⟨rfl, ?_, by rw [ByteArray.size_extract]; omega⟩
  apply textL_inj
  rw [textL_rest, textL_take, textL_take, textL_app, hp, List.drop_take, List.drop_append_of_le_length (by rw [textL_length]; omega), List.drop_of_length_le (by rw [textL_length]; omega), List.nil_append]
theorem cut_short (s : ByteArray) (hs : s.size < 18446744073709551616) (k : Nat) (hk : k < (textS s).size) : cutV ((textS s).extract 0 k) = .tuple #[.string ⟨#[]⟩, .string ⟨#[]⟩, .bool false] := by
  have hk' : k < (numS s.size).size + s.size := by unfold textS at hk; rwa [ByteArray.size_append] at hk
  rcases h : readR ((textS s).extract 0 k) with _ | ⟨m, p⟩
  · exact cutV_none _ h
  · obtain ⟨rfl, e, hlt⟩ := read_short s.size hs s k hk' m p h
    exact cutV_great _ _ _ h (by unfold textS; rw [e]; omega)
theorem unhs_short (ls : List (List Int)) (hs : hashes ls) (hn : ¬ 64 < ls.length) (k : Nat) (hk : k < (listS ls).size) : unhsR ((listS ls).extract 0 k) = none := by
  rw [listS_is ls hn] at hk ⊢
  have hk' : k < (numS ls.length).size + (strOfNums ls.flatten).size := by rwa [ByteArray.size_append] at hk
  rcases h : readR ((numS ls.length ++ strOfNums ls.flatten).extract 0 k) with _ | ⟨m, p⟩
  · exact unhsR_none _ h
  · obtain ⟨rfl, e, hlt⟩ := read_short ls.length (by omega) _ k hk' m p h
    refine unhsR_no _ _ _ h (fun hc => ?_)
    rw [e] at hc
    rw [strOfNums_size, flat_length hs] at hlt
    omega
theorem cut_in_two (T : ByteArray) (n : Nat) : T.extract 0 n ++ T.extract n T.size = T := by
  apply textL_inj
  rw [textL_app, textL_take, textL_rest, List.take_append_drop]
theorem cut_in_two' (T : ByteArray) (n : Nat) : strOfNums ((textL T).take n) ++ T.extract n T.size = T := by
  apply textL_inj
  rw [textL_app, textL_rest, textL_nums _ (fun x hx => textL_bytes T x (List.mem_of_mem_take hx)), List.take_append_drop]
/-- What is read has the bytes that stood there. -/
theorem read_form (s : ByteArray) (n p : Nat) (h : readR s = some (n, p)) : numS n ++ s.extract p s.size = s ∧ n < 18446744073709551616 ∧ (numS n).size = p := by
  obtain ⟨h1, h2, h3, h4⟩ := readR_lt _ _ _ h
  refine ⟨?_, h1, by rw [numS_len, h2]⟩
  apply textL_inj
  rw [textL_app, textNum, textL_rest, ← h4]
theorem cut_form (s : ByteArray) (n p : Nat) (h : readR s = some (n, p)) (hn : n ≤ (s.extract p s.size).size) :
    textS ((s.extract p s.size).extract 0 n) ++ (s.extract p s.size).extract n (s.extract p s.size).size = s := by
  obtain ⟨h1, h2, h3⟩ := read_form s n p h
  have hl : ((s.extract p s.size).extract 0 n).size = n := by rw [ByteArray.size_extract]; omega
  unfold textS
  rw [hl, ByteArray.append_assoc, cut_in_two, h1]
theorem unh_form (s : ByteArray) (h : ¬ s.size < 32) : strOfNums ((textL s).take 32) ++ s.extract 32 s.size = s := by
  apply textL_inj
  rw [textL_app, textL_rest, textL_nums _ (fun x hx => textL_bytes s x (List.mem_of_mem_take hx)), List.take_append_drop]
theorem unhs_form (s : ByteArray) (n p : Nat) (h : readR s = some (n, p)) (hn : n ≤ 64 ∧ 32 * n ≤ (s.extract p s.size).size) :
    listS (chunk (textL (s.extract p s.size)) n) ++ (s.extract p s.size).extract (32 * n) (s.extract p s.size).size = s := by
  obtain ⟨h1, h2, h3⟩ := read_form s n p h
  rw [listS_is _ (by rw [chunk_length]; omega), chunk_length, chunk_flat _ _ (by rw [textL_length]; exact hn.2), ByteArray.append_assoc]
  rw [cut_in_two', h1]
/-- What is told of a text, as parts. -/
theorem cutV_parts (s : ByteArray) : ∃ a b o, cutV s = .tuple #[.string a, .string b, .bool o] := by
  unfold cutV
  split
  · exact ⟨_, _, _, rfl⟩
  · exact ⟨_, _, _, rfl⟩
theorem unhV_parts (s : ByteArray) : ∃ l b o, unhV s = .tuple #[.agg (nums .u8 l), .string b, .bool o] ∧ l.length = 32 ∧ ∀ x ∈ l, 0 ≤ x ∧ x < 256 := by
  by_cases h : s.size < 32
  · exact ⟨_, _, _, unhV_no s h, by simp, fun x hx => by have := List.eq_of_mem_replicate hx; omega⟩
  · exact ⟨_, _, _, unhV_yes s h, by rw [List.length_take, textL_length]; omega, fun x hx => textL_bytes s x (List.mem_of_mem_take hx)⟩
def unhsL (s : ByteArray) : List (List Int) := match unhsR s with
  | none => []
  | some (n, p) => chunk (textL (s.extract p s.size)) n
def unhsT (s : ByteArray) : ByteArray := match unhsR s with
  | none => ⟨#[]⟩
  | some (n, p) => (s.extract p s.size).extract (32 * n) (s.extract p s.size).size
def unhsO (s : ByteArray) : Bool := (unhsR s).isSome
theorem unhsR_some (s : ByteArray) (n p : Nat) (h : unhsR s = some (n, p)) : readR s = some (n, p) ∧ n ≤ 64 ∧ 32 * n ≤ (s.extract p s.size).size := by
  unfold unhsR at h
  split at h
  · rename_i n' p' hr
    split at h
    · rename_i hc
      simp only [Option.some.injEq, Prod.mk.injEq] at h
      obtain ⟨rfl, rfl⟩ := h
      exact ⟨hr, hc⟩
    · cases h
  · cases h
theorem unhsL_hashes (s : ByteArray) : hashes (unhsL s) := by
  unfold unhsL
  split
  · exact fun l h => by cases h
  · rename_i n p h
    obtain ⟨_, _, h3⟩ := unhsR_some s _ _ h
    exact chunk_hashes _ _ (by rw [textL_length]; exact h3) (textL_bytes _)
theorem unhsL_length (s : ByteArray) : (unhsL s).length ≤ 64 := by
  unfold unhsL
  split
  · simp
  · rename_i n p h
    rw [chunk_length]
    exact (unhsR_some s _ _ h).2.1
theorem UnhsPost.parts {s : ByteArray} {w w' : World} {e : Ending} (h : UnhsPost s w e w') :
    ∃ A c, e = .returned (.tuple #[.slice A (unhsL s).length c, .string (unhsT s), .bool (unhsO s)]) ∧ HL w' w'.heap.size A (unhsL s) ∧ Below w.heap.size w w' := by
  obtain ⟨hb, h⟩ := h
  unfold unhsL unhsT unhsO
  rcases hr : unhsR s with _ | ⟨n, p⟩
  · rw [hr] at h
    exact ⟨none, 0, h, HL.nil _ _ _, hb⟩
  · rw [hr] at h
    obtain ⟨A, c, he, hA⟩ := h
    exact ⟨A, c, by rw [he]; simp only [chunk_length]; rfl, hA, hb⟩
end Go.Proofs.Ytcafjmaimohljaa
