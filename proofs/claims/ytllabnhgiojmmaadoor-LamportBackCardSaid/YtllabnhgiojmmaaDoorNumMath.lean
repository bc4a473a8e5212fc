/-
  Plain facts on numbers as bytes (layer 3): a number's bytes; what number stands ahead of bytes, and how many bytes it takes; each gives the other.
-/
namespace Go.Proofs.YtllabnhgiojmmaaDoor.Codec

/-- The bytes of a number behind which there are more. -/
def upF : Nat → Nat → List Int
  | 0, _ => []
  | f + 1, n => if n = 0 then [] else upF f (n / 128) ++ [((n % 128 + 128 : Nat) : Int)]
def upN (n : Nat) : List Int := upF 10 n
/-- A number's bytes. -/
def numL (n : Nat) : List Int := upN (n / 128) ++ [((n % 128 : Nat) : Int)]

theorem upF_more (f n : Nat) (h : n < 128 ^ f) : upF (f + 1) n = upF f n := by
  induction f generalizing n with
  | zero =>
    have : n = 0 := by simpa using h
    simp [upF, this]
  | succ f ih =>
    rw [upF]
    conv => rhs; rw [upF]
    split
    · rfl
    · rw [ih (n / 128) (by rw [Nat.pow_succ] at h; omega)]
theorem upN_zero : upN 0 = [] := by simp [upN, upF]
theorem upN_pos (n : Nat) (h : 0 < n) (h2 : n < 2 ^ 70) : upN n = upN (n / 128) ++ [((n % 128 + 128 : Nat) : Int)] := by
  have e : upF 10 n = upF 9 (n / 128) ++ [((n % 128 + 128 : Nat) : Int)] := by
    rw [upF, if_neg (by omega)]
  unfold upN
  rw [e, upF_more 9 (n / 128) (by omega)]
theorem upN_step (n c : Nat) (hc : 128 ≤ c) (hc2 : c < 256) (hn : n < 2 ^ 63) (h0 : 0 < n * 128 + (c - 128)) : upN (n * 128 + (c - 128)) = upN n ++ [(c : Int)] := by
  rw [upN_pos _ h0 (by omega)]
  rw [show (n * 128 + (c - 128)) / 128 = n by omega, show (n * 128 + (c - 128)) % 128 + 128 = c by omega]
theorem upF_length (f k n : Nat) (h : n < 128 ^ k) : (upF f n).length ≤ k := by
  induction f generalizing n k with
  | zero => simp [upF]
  | succ f ih =>
    rw [upF]
    split
    · simp
    · match k, h with
      | 0, h => simp at h; omega
      | k + 1, h =>
        have := ih k (n / 128) (by rw [Nat.pow_succ] at h; omega)
        simp; omega
theorem upN_length (k n : Nat) (h : n < 128 ^ k) : (upN n).length ≤ k := upF_length 10 k n h
theorem numL_length (n : Nat) (h : n < 18446744073709551616) : (numL n).length ≤ 10 := by
  have := upN_length 9 (n / 128) (by omega)
  simp [numL]; omega
theorem numL_pos (n : Nat) : 1 ≤ (numL n).length := by simp [numL]
theorem numL_small (n : Nat) (h : n < 128) : numL n = [(n : Int)] := by
  have : n / 128 = 0 := by omega
  simp [numL, this, upN_zero, Nat.mod_eq_of_lt h]
theorem upF_bytes (f n : Nat) : ∀ x ∈ upF f n, 128 ≤ x ∧ x < 256 := by
  induction f generalizing n with
  | zero => simp [upF]
  | succ f ih =>
    rw [upF]
    split
    · simp
    · intro x hx
      rcases List.mem_append.1 hx with h | h
      · exact ih _ x h
      · have : x = ((n % 128 + 128 : Nat) : Int) := by simpa using h
        omega
theorem upN_bytes (n : Nat) : ∀ x ∈ upN n, 128 ≤ x ∧ x < 256 := upF_bytes 10 n
theorem numL_bytes (n : Nat) : ∀ x ∈ numL n, 0 ≤ x ∧ x < 256 := by
  intro x hx
  rcases List.mem_append.1 hx with h | h
  · have := upN_bytes _ x h; omega
  · have : x = ((n % 128 : Nat) : Int) := by simpa using h
    omega

/-- What number stands ahead, behind i bytes that came to v, and up to which byte. -/
def rdP (v i : Nat) : List Int → Option (Nat × Nat)
  | [] => none
  | c :: t => if v = 0 ∧ c = 128 ∨ 144115188075855872 ≤ v then none else if c < 128 then some (v * 128 + c.toNat, i + 1) else rdP (v * 128 + (c.toNat - 128)) (i + 1) t
theorem rdP_nil (v i : Nat) : rdP v i [] = none := rfl
theorem rdP_bad (v i : Nat) (c : Int) (t : List Int) (h : v = 0 ∧ c = 128 ∨ 144115188075855872 ≤ v) : rdP v i (c :: t) = none := by rw [rdP, if_pos h]
theorem rdP_last (v i : Nat) (c : Int) (t : List Int) (h : ¬ (v = 0 ∧ c = 128 ∨ 144115188075855872 ≤ v)) (hc : c < 128) : rdP v i (c :: t) = some (v * 128 + c.toNat, i + 1) := by rw [rdP, if_neg h, if_pos hc]
theorem rdP_next (v i : Nat) (c : Int) (t : List Int) (h : ¬ (v = 0 ∧ c = 128 ∨ 144115188075855872 ≤ v)) (hc : 128 ≤ c) : rdP v i (c :: t) = rdP (v * 128 + (c.toNat - 128)) (i + 1) t := by rw [rdP, if_neg h, if_neg (by omega)]

/-- What is read has the bytes that stood there. -/
theorem rdP_form (v i : Nat) (l : List Int) (hb : ∀ x ∈ l, 0 ≤ x ∧ x < 256) (n p : Nat) (h : rdP v i l = some (n, p)) :
    n < 18446744073709551616 ∧ i < p ∧ p ≤ i + l.length ∧ numL n = upN v ++ l.take (p - i) := by
  induction l generalizing v i with
  | nil => simp [rdP] at h
  | cons c t ih =>
    have hc := hb c (by simp)
    by_cases h1 : v = 0 ∧ c = 128 ∨ 144115188075855872 ≤ v
    · rw [rdP_bad _ _ _ _ h1] at h; cases h
    · by_cases h2 : c < 128
      · rw [rdP_last _ _ _ _ h1 h2] at h
        simp only [Option.some.injEq, Prod.mk.injEq] at h
        obtain ⟨rfl, rfl⟩ := h
        refine ⟨by omega, by omega, by simp only [List.length_cons]; omega, ?_⟩
        unfold numL
        rw [show (v * 128 + c.toNat) / 128 = v by omega, show (v * 128 + c.toNat) % 128 = c.toNat by omega, show i + 1 - i = 0 + 1 by omega]
        simp; exact Int.max_eq_left hc.1
      · rw [rdP_next _ _ _ _ h1 (by omega)] at h
        obtain ⟨a, b, d, e⟩ := ih (v * 128 + (c.toNat - 128)) (i + 1) (fun x hx => hb x (by simp [hx])) h
        refine ⟨a, by omega, by simp only [List.length_cons]; omega, ?_⟩
        rw [e, upN_step v c.toNat (by omega) (by omega) (by omega) (by omega), show p - i = (p - (i + 1)) + 1 by omega]
        simp; omega
/-- What is put is read. -/
theorem rdP_up (f v : Nat) (hv : v < 128 ^ f) (h57 : v < 18446744073709551616) (t : List Int) : rdP 0 0 (upN v ++ t) = rdP v (upN v).length t := by
  induction f generalizing v t with
  | zero =>
    have : v = 0 := by simpa using hv
    subst this; simp [upN_zero]
  | succ f ih =>
    rcases Nat.eq_zero_or_pos v with h0 | h0
    · subst h0; simp [upN_zero]
    · rw [upN_pos v h0 (by omega), List.append_assoc, ih (v / 128) (by rw [Nat.pow_succ] at hv; omega) (by omega)]
      rw [List.singleton_append, rdP_next _ _ _ _ (by omega) (by omega)]
      rw [Int.toNat_natCast, show v / 128 * 128 + (v % 128 + 128 - 128) = v by omega, List.length_append]; rfl
theorem rdP_num (n : Nat) (hn : n < 18446744073709551616) (t : List Int) : rdP 0 0 (numL n ++ t) = some (n, (numL n).length) := by
  unfold numL
  rw [List.append_assoc, rdP_up 10 (n / 128) (by omega) (by omega), List.singleton_append, rdP_last _ _ _ _ (by omega) (by omega)]
  simp; omega
theorem rdP_some (l : List Int) (hb : ∀ x ∈ l, 0 ≤ x ∧ x < 256) (n p : Nat) (h : rdP 0 0 l = some (n, p)) :
    n < 18446744073709551616 ∧ p = (numL n).length ∧ p ≤ l.length ∧ l = numL n ++ l.drop p := by
  obtain ⟨a, b, d, e⟩ := rdP_form 0 0 l hb n p h
  rw [upN_zero, List.nil_append, Nat.sub_zero] at e
  have hl : (numL n).length = p := by rw [e, List.length_take]; omega
  exact ⟨a, hl.symm, by omega, by rw [e, List.take_append_drop]⟩
/-- No number's bytes are a beginning of another's. -/
theorem numL_prefix (n m : Nat) (hn : n < 18446744073709551616) (hm : m < 18446744073709551616) (s t : List Int) (h : numL n ++ s = numL m ++ t) : n = m ∧ s = t := by
  have h1 := rdP_num n hn s
  rw [h, rdP_num m hm t] at h1
  simp only [Option.some.injEq, Prod.mk.injEq] at h1
  obtain ⟨rfl, -⟩ := h1
  exact ⟨rfl, List.append_cancel_left h⟩

/-- How many bytes ahead have more behind them, up to ten. -/
def lead : Nat → List Int → Nat
  | 0, _ => 0
  | _ + 1, [] => 0
  | f + 1, c :: t => if 128 ≤ c then lead f t + 1 else 0
theorem lead_le (f : Nat) (l : List Int) : lead f l ≤ f := by
  induction f generalizing l with
  | zero => simp [lead]
  | succ f ih =>
    cases l with
    | nil => simp [lead]
    | cons c t => rw [lead]; split <;> (try have := ih t) <;> omega
theorem lead_len (f : Nat) (l : List Int) : lead f l ≤ l.length := by
  induction f generalizing l with
  | zero => simp [lead]
  | succ f ih =>
    cases l with
    | nil => simp [lead]
    | cons c t => rw [lead]; split <;> (try have := ih t) <;> simp <;> omega
theorem lead_up (f : Nat) (u : List Int) (c : Int) (t : List Int) (hu : ∀ x ∈ u, 128 ≤ x) (hc : c < 128) (hl : u.length ≤ f) : lead f (u ++ c :: t) = u.length := by
  induction f generalizing u with
  | zero =>
    have : u = [] := List.eq_nil_of_length_eq_zero (by omega)
    simp [lead, this]
  | succ f ih =>
    cases u with
    | nil => simp [lead]; omega
    | cons x u =>
      simp only [List.length_cons] at hl ⊢
      rw [List.cons_append, lead, if_pos (hu x (by simp)), ih u (fun y hy => hu y (by simp [hy])) (by omega)]
theorem lead_num (n : Nat) (hn : n < 18446744073709551616) (t : List Int) : lead 10 (numL n ++ t) + 1 = (numL n).length := by
  have h := upN_length 9 (n / 128) (by omega)
  unfold numL
  rw [List.append_assoc, List.singleton_append, lead_up 10 _ _ _ (fun x hx => (upN_bytes _ x hx).1) (by omega) (by omega)]
  simp
/-- What bytes say, as a number of 64 bits. -/
def valL (l : List Int) : Nat := l.foldl (fun v c => (v * 128 + c.toNat % 128) % 18446744073709551616) 0
theorem valL_nil : valL [] = 0 := rfl
theorem valL_snoc (l : List Int) (c : Int) : valL (l ++ [c]) = (valL l * 128 + c.toNat % 128) % 18446744073709551616 := by
  unfold valL; rw [List.foldl_append]; rfl
theorem valL_lt (l : List Int) : valL l < 18446744073709551616 := by
  have key : ∀ (l : List Int) (v : Nat), v < 18446744073709551616 → l.foldl (fun v c => (v * 128 + c.toNat % 128) % 18446744073709551616) v < 18446744073709551616 := by
    intro l
    induction l with
    | nil => exact fun v h => h
    | cons c t ih => exact fun v _ => ih _ (Nat.mod_lt _ (by decide))
  exact key l 0 (by decide)
theorem valL_up (f n : Nat) (h : n < 128 ^ f) (hn : n < 18446744073709551616) : valL (upN n) = n := by
  induction f generalizing n with
  | zero =>
    have : n = 0 := by simpa using h
    subst this; rw [upN_zero, valL_nil]
  | succ f ih =>
    rcases Nat.eq_zero_or_pos n with h0 | h0
    · subst h0; rw [upN_zero, valL_nil]
    · rw [upN_pos n h0 (by omega), valL_snoc, ih (n / 128) (by rw [Nat.pow_succ] at h; omega) (by omega)]
      omega
theorem valL_num (n : Nat) (hn : n < 18446744073709551616) : valL (numL n) = n := by
  unfold numL
  rw [valL_snoc, valL_up 10 (n / 128) (by omega) (by omega)]
  omega
/-- The document's way to read: how many bytes there are, what they say, and whether these are its bytes. -/
def refR (l : List Int) : Option (Nat × Nat) :=
  if l.length ≤ lead 10 l ∨ 9 < lead 10 l then none
  else if numL (valL (l.take (lead 10 l + 1))) = l.take (lead 10 l + 1) then some (valL (l.take (lead 10 l + 1)), lead 10 l + 1) else none
theorem refR_is (l : List Int) (hb : ∀ x ∈ l, 0 ≤ x ∧ x < 256) : refR l = rdP 0 0 l := by
  have key : ∀ n p, rdP 0 0 l = some (n, p) → lead 10 l + 1 = p ∧ p ≤ l.length ∧ p ≤ 10 ∧ l.take p = numL n ∧ valL (l.take p) = n := fun n p h => by
    obtain ⟨a, b, d, e⟩ := rdP_some l hb n p h
    have h1 := lead_num n a (l.drop p)
    rw [← e] at h1
    have h2 : l.take p = numL n := by
      rw [e, List.take_append_of_le_length (by omega), b, List.take_length]
    exact ⟨by omega, d, by have := numL_length n a; omega, h2, by rw [h2, valL_num n a]⟩
  unfold refR
  rcases hr : rdP 0 0 l with _ | ⟨n, p⟩
  · split
    · rfl
    · split
      · rename_i h1 h2
        exfalso
        have e : l = numL (valL (l.take (lead 10 l + 1))) ++ l.drop (lead 10 l + 1) := by rw [h2, List.take_append_drop]
        rw [e, rdP_num _ (valL_lt _)] at hr
        cases hr
      · rfl
  · obtain ⟨a, b, c, d, e⟩ := key n p hr
    rw [if_neg (by omega), a, e, if_pos d.symm]
end Go.Proofs.YtllabnhgiojmmaaDoor.Codec
