/-
  There and back: what is told of a hash is parsed as it, what is parsed is told so; another letter at one place.
-/
import Derived.Test.YthagpnakcffjeaaDoorShaPar
namespace Go.Proofs.YthagpnakcffjeaaDoor
open Go.RowKit
set_option linter.unusedVariables false

theorem text_get (xs : List Int) (i : Nat) (h : i < xs.length) (hb : 0 ≤ xs.getD i 0 ∧ xs.getD i 0 < 256) : (((strOfNums xs).get! i).toNat : Int) = xs.getD i 0 := by
  have hs : i < (strOfNums xs).size := by rw [strOfNums_size]; exact h
  have e : xs.getD i 0 = xs[i] := by simp [List.getD, List.getElem?_eq_getElem h]
  rw [e] at hb ⊢
  rw [get_elem _ i hs]
  have e2 : ((strOfNums xs)[i]'hs).toNat = xs[i].toNat := by
    show ((xs.map fun n => UInt8.ofNat n.toNat).toArray[i]'(by simpa using h)).toNat = _
    simp
    omega
  rw [e2]; omega
theorem hexL_even (l : List Int) : ∀ i, i < l.length → (hexL l).getD (2 * i) 0 = hexd (l.getD i 0 / 16) := by
  induction l with
  | nil => intro i h; simp at h
  | cons b l ih =>
    intro i h
    cases i with
    | zero => rfl
    | succ i =>
      have := ih i (by simpa using h)
      rw [show 2 * (i + 1) = 2 * i + 1 + 1 by omega]
      simpa [hexL] using this
theorem hexL_odd (l : List Int) : ∀ i, i < l.length → (hexL l).getD (2 * i + 1) 0 = hexd (l.getD i 0 % 16) := by
  induction l with
  | nil => intro i h; simp at h
  | cons b l ih =>
    intro i h
    cases i with
    | zero => rfl
    | succ i =>
      have := ih i (by simpa using h)
      rw [show 2 * (i + 1) + 1 = 2 * i + 1 + 1 + 1 by omega]
      simpa [hexL] using this
theorem digB_even (l : List Int) (hl : l.length = 32) (hb : bytes l) (i : Nat) (hi : i < 32) : digB (hexS l) (2 * i) = l.getD i 0 / 16 := by
  have b := getD_bytes l hb i (by omega)
  have e := hexL_even l i (by omega)
  have t := text_get (hexL l) (2 * i) (by rw [hexL_length]; omega) (by rw [e]; exact hexd_bd _ (by omega))
  unfold digB hexS
  rw [t, e, dig_hexd _ (by omega)]
theorem digB_odd (l : List Int) (hl : l.length = 32) (hb : bytes l) (i : Nat) (hi : i < 32) : digB (hexS l) (2 * i + 1) = l.getD i 0 % 16 := by
  have b := getD_bytes l hb i (by omega)
  have e := hexL_odd l i (by omega)
  have t := text_get (hexL l) (2 * i + 1) (by rw [hexL_length]; omega) (by rw [e]; exact hexd_bd _ (by omega))
  unfold digB hexS
  rw [t, e, dig_hexd _ (by omega)]
theorem okUpto_all (s : ByteArray) (n : Nat) (h : ∀ i, i < n → 0 ≤ digB s i) : okUpto s n = true := by
  induction n with
  | zero => rfl
  | succ n ih =>
    simp only [okUpto, Bool.and_eq_true, decide_eq_true_eq]
    exact ⟨ih fun i hi => h i (by omega), h n (by omega)⟩
theorem okS_hex (l : List Int) (hl : l.length = 32) (hb : bytes l) : okS (hexS l) = true := by
  refine okS_good _ (hexS_size l hl) (okUpto_all _ _ fun i hi => ?_)
  have b := getD_bytes l hb (i / 2) (by omega)
  by_cases e : i % 2 = 0
  · have := digB_even l hl hb (i / 2) (by omega)
    rw [show 2 * (i / 2) = i by omega] at this
    rw [this]; omega
  · have := digB_odd l hl hb (i / 2) (by omega)
    rw [show 2 * (i / 2) + 1 = i by omega] at this
    rw [this]; omega
theorem parse_hex (l : List Int) (hl : l.length = 32) (hb : bytes l) : parseL (hexS l) = l := by
  rw [parse_some _ (okS_hex l hl hb), parL_range]
  apply List.ext_getElem
  · simp [hl]
  · intro i h1 h2
    have hi : i < 32 := by omega
    simp only [List.getElem_map, List.getElem_range]
    unfold pairB
    rw [digB_even l hl hb i hi, digB_odd l hl hb i hi]
    have e : l.getD i 0 = l[i] := by simp [List.getD, List.getElem?_eq_getElem h2]
    rw [e]; omega
theorem digB_bd (s : ByteArray) (i : Nat) : -1 ≤ digB s i ∧ digB s i ≤ 15 := dig_bd _
theorem parL_at (s : ByteArray) (i : Nat) (hi : i < 32) : (parL s 32).getD i 0 = pairB s i := by
  rw [parL_range]
  simp [List.getD, hi]
/-- A text that is a hash's is told of that hash. -/
theorem hex_parse (s : ByteArray) (h : okS s = true) : hexS (parseL s) = s := by
  have h2 := h
  simp only [okS, Bool.and_eq_true, decide_eq_true_eq] at h2
  have hd : ∀ i, i < 64 → 0 ≤ digB s i := fun i hi => okUpto_at s 64 h2.2 i hi
  rw [parse_some s h]
  have hsz : (hexS (parL s 32)).size = s.size := by rw [hexS_size _ (parL_length s 32), h2.1]
  apply ByteArray.ext
  apply Array.ext
  · exact hsz
  · intro i h1 h3
    have hi : i < 64 := by have : i < s.size := h3; omega
    have k1 : (((hexS (parL s 32)).get! i).toNat : Int) = ((s.get! i).toNat : Int) := by
      have hg : (hexL (parL s 32)).getD i 0 = ((s.get! i).toNat : Int) := by
        have d1 := hd (2 * (i / 2)) (by omega)
        have d2 := hd (2 * (i / 2) + 1) (by omega)
        have b1 := digB_bd s (2 * (i / 2))
        have b2 := digB_bd s (2 * (i / 2) + 1)
        have hp := parL_at s (i / 2) (by omega)
        by_cases e : i % 2 = 0
        · have := hexL_even (parL s 32) (i / 2) (by rw [parL_length]; omega)
          rw [show 2 * (i / 2) = i by omega] at this d1 b1
          rw [this, hp]
          unfold pairB
          rw [show 2 * (i / 2) = i by omega, show (16 * digB s i + digB s (i + 1)) / 16 = digB s i by rw [show 2 * (i / 2) + 1 = i + 1 by omega] at d2 b2; omega]
          exact hexd_dig _ d1
        · have := hexL_odd (parL s 32) (i / 2) (by rw [parL_length]; omega)
          rw [show 2 * (i / 2) + 1 = i by omega] at this d2 b2
          rw [this, hp]
          unfold pairB
          rw [show 2 * (i / 2) + 1 = i by omega, show (16 * digB s (2 * (i / 2)) + digB s i) % 16 = digB s i by omega]
          exact hexd_dig _ d2
      have t := text_get (hexL (parL s 32)) i (by rw [hexL_length, parL_length]; omega) (by rw [hg]; have := byte_lt (s.get! i); omega)
      show (((strOfNums (hexL (parL s 32))).get! i).toNat : Int) = _
      rw [t, hg]
    have g1 := get_elem (hexS (parL s 32)) i (by rw [hsz]; exact h3)
    have g2 := get_elem s i h3
    rw [g1, g2] at k1
    have k2 : ((hexS (parL s 32))[i]'(by rw [hsz]; exact h3)).toNat = (s[i]'h3).toNat := by omega
    exact UInt8.toNat_inj.1 k2
end Go.Proofs.YthagpnakcffjeaaDoor
