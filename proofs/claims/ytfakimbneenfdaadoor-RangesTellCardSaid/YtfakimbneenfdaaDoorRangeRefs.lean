/-
  Several texts in one, for a claim has room for 60 files: RangeTreeMath, RangeRefParts, RangeTree, ForkB, RangeRefJoin, RangeRefClose, RangeRefOpen.
-/
import Derived.Test.YtfakimbneenfdaaDoorRangeMath
import Derived.Test.YtfakimbneenfdaaDoorRangeParts
import Derived.Test.YtfakimbneenfdaaDoorRangeJoin
import Derived.Test.YtfakimbneenfdaaDoorRefAll
import Derived.Test.YtfakimbneenfdaaDoorFork
import Derived.Test.YtfakimbneenfdaaDoorListMem
import Derived.Test.YtfakimbneenfdaaDoorRangeMerged
import Derived.Test.YtfakimbneenfdaaDoorRangeExt
namespace Go.Proofs.YtfakimbneenfdaaDoor
set_option linter.unusedVariables false

/-- The powers of two in a number, the greatest first, from the i-th on; the unit is a power. -/
def bitsD (b j m : Nat) : List Nat := (List.range b).reverse.filterMap fun i => if m / 2 ^ i % 2 = 1 then some (2 ^ (j + i)) else none
theorem bitsD_high (b j m : Nat) : bitsD (b + 1) j m = (if m / 2 ^ b % 2 = 1 then [2 ^ (j + b)] else []) ++ bitsD b j m := by
  unfold bitsD
  rw [List.range_succ, List.reverse_append]
  show List.filterMap _ (b :: (List.range b).reverse) = _
  rw [List.filterMap_cons]
  split <;> rename_i h
  · split at h
    · cases h
    · rw [if_neg (by assumption)]; rfl
  · split at h
    · cases h; rw [if_pos (by assumption)]; rfl
    · cases h
theorem bitsD_low (b j m : Nat) : bitsD (b + 1) j m = bitsD b (j + 1) (m / 2) ++ (if m % 2 = 1 then [2 ^ j] else []) := by
  unfold bitsD
  rw [List.range_succ_eq_map, List.reverse_cons, List.filterMap_append, ← List.map_reverse, List.filterMap_map]
  congr 1
  · congr 1
    funext i
    have e1 : m / 2 ^ (i + 1) = m / 2 / 2 ^ i := by rw [Nat.pow_succ, Nat.mul_comm, Nat.div_div_eq_div_mul]
    have e2 : j + (i + 1) = j + 1 + i := by omega
    show (if m / 2 ^ (i + 1) % 2 = 1 then some (2 ^ (j + (i + 1))) else none) = _
    rw [e1, e2]
  · simp only [List.filterMap_cons, List.filterMap_nil, Nat.pow_zero, Nat.div_one, Nat.add_zero]
    split <;> rename_i h
    · split at h
      · cases h
      · rw [if_neg (by assumption)]
    · split at h
      · cases h; rw [if_pos (by assumption)]
      · cases h
theorem bitsD_none (b : Nat) : ∀ j, bitsD b j 0 = [] := by
  induction b with
  | zero => intro _; rfl
  | succ b ih => intro j; rw [bitsD_low, Nat.zero_div, ih]; rfl
/-- The sizes of a number's trees. -/
def sz (j m : Nat) : List Nat := if h : m = 0 then [] else sz (j + 1) (m / 2) ++ (if m % 2 = 1 then [2 ^ j] else [])
termination_by m
theorem sz_zero (j : Nat) : sz j 0 = [] := by rw [sz, dif_pos rfl]
theorem sz_half (j m : Nat) : sz j m = sz (j + 1) (m / 2) ++ (if m % 2 = 1 then [2 ^ j] else []) := by
  by_cases h : m = 0
  · subst h; rw [sz_zero, Nat.zero_div, sz_zero]; rfl
  · rw [sz, dif_neg h]
theorem sz_odd (j q : Nat) : sz j (2 * q + 1) = sz (j + 1) q ++ [2 ^ j] := by
  rw [sz_half, show (2 * q + 1) / 2 = q by omega, if_pos (by omega)]
theorem sz_even (j q : Nat) : sz j (2 * q) = sz (j + 1) q := by
  rw [sz_half, show (2 * q) / 2 = q by omega, if_neg (by omega), List.append_nil]
theorem bitsD_sz (b : Nat) : ∀ j m, m < 2 ^ b → bitsD b j m = sz j m := by
  induction b with
  | zero => intro j m h; rw [show m = 0 by simpa using h, sz_zero]; rfl
  | succ b ih => intro j m h; rw [bitsD_low, ih _ _ (by rw [Nat.pow_succ] at h; omega), ← sz_half]
theorem sz_length (m : Nat) : ∀ j, (sz j m).length = ones m := by
  induction m using Nat.strongRecOn with
  | ind m ih =>
    intro j
    by_cases h : m = 0
    · subst h; rw [sz_zero, ones_zero]; rfl
    · rw [sz_half, List.length_append, ih (m / 2) (by omega), ones_half m]
      split <;> simp <;> omega
theorem sz_sum (m : Nat) : ∀ j, (sz j m).sum = m * 2 ^ j := by
  induction m using Nat.strongRecOn with
  | ind m ih =>
    intro j
    by_cases h : m = 0
    · subst h; rw [sz_zero, Nat.zero_mul]; rfl
    · rw [sz_half, List.sum_append, ih (m / 2) (by omega), Nat.pow_succ]
      have e : m / 2 * (2 ^ j * 2) + (m % 2) * 2 ^ j = m * 2 ^ j := by
        rw [Nat.mul_comm (2 ^ j) 2, ← Nat.mul_assoc, ← Nat.add_mul]
        congr 1
        omega
      rw [← e]
      split
      · rw [show m % 2 = 1 by assumption]; simp
      · rw [show m % 2 = 0 by omega]; simp
theorem sz_ge (m : Nat) : ∀ j, ∀ n ∈ sz j m, 2 ^ j ≤ n := by
  induction m using Nat.strongRecOn with
  | ind m ih =>
    intro j n hn
    by_cases h : m = 0
    · subst h; rw [sz_zero] at hn; cases hn
    · rw [sz_half] at hn
      rcases List.mem_append.1 hn with hn | hn
      · have := ih (m / 2) (by omega) (j + 1) n hn
        rw [Nat.pow_succ] at this
        have := Nat.two_pow_pos j
        omega
      · split at hn
        · simp at hn; omega
        · cases hn
theorem sz_shift (j q : Nat) : ∀ i, sz i (q * 2 ^ j) = sz (i + j) q := by
  induction j with
  | zero => intro i; rw [Nat.pow_zero, Nat.mul_one]; rfl
  | succ j ih =>
    intro i
    rw [show q * 2 ^ (j + 1) = 2 * (q * 2 ^ j) by rw [Nat.pow_succ]; simp [Nat.mul_comm, Nat.mul_left_comm], sz_even, ih, show i + 1 + j = i + (j + 1) by omega]
/-- A tree: how many leaves, and their root. -/
abbrev Tr := Nat × List Int
/-- A tree is put behind others (the last one first): two of one size are one. -/
def joinR (t : Tr) : List Tr → List Tr
  | [] => [t]
  | u :: l => if t.1 = u.1 then joinR (2 * t.1, nodeL u.2 t.2) l else t :: u :: l
/-- A number's trees. -/
def trs (j m : Nat) (hs : List (List Int)) : List Tr := (sz j m).zip hs
theorem trs_length (j m : Nat) (hs : List (List Int)) (h : hs.length = ones m) : (trs j m hs).length = ones m := by
  unfold trs; rw [List.length_zip, sz_length, h, Nat.min_self]
theorem trs_hashes (j m : Nat) (hs : List (List Int)) (h : hs.length = ones m) : (trs j m hs).map Prod.snd = hs := by
  unfold trs; rw [List.map_snd_zip (by rw [sz_length, h]; exact Nat.le_refl _)]
theorem trs_sizes (j m : Nat) (hs : List (List Int)) (h : hs.length = ones m) : (trs j m hs).map Prod.fst = sz j m := by
  unfold trs; rw [List.map_fst_zip (by rw [sz_length, h]; exact Nat.le_refl _)]
theorem trs_odd (j q : Nat) (hs : List (List Int)) (x : List Int) (h : hs.length = ones q) : trs j (2 * q + 1) (hs ++ [x]) = trs (j + 1) q hs ++ [(2 ^ j, x)] := by
  unfold trs; rw [sz_odd, List.zip_append (by rw [sz_length, h])]; rfl
theorem join_trs (m : Nat) : ∀ (j : Nat) (hs : List (List Int)) (x : List Int), hs.length = ones m → joinR (2 ^ j, x) (trs j m hs).reverse = (trs j (m + 1) (carry m hs x)).reverse := by
  induction m using Nat.strongRecOn with
  | ind m ih =>
    intro j hs x h
    rcases Nat.mod_two_eq_zero_or_one m with h2 | h2
    · obtain ⟨q, rfl⟩ : ∃ q, m = 2 * q := ⟨m / 2, by omega⟩
      rw [carry_even _ _ _ h2, trs_odd j q hs x (by rw [h, ones_even]), List.reverse_append]
      have e : trs j (2 * q) hs = trs (j + 1) q hs := by unfold trs; rw [sz_even]
      rw [e]
      show _ = (2 ^ j, x) :: (trs (j + 1) q hs).reverse
      cases hr : (trs (j + 1) q hs).reverse with
      | nil => rfl
      | cons u l =>
        have hu : u.1 ∈ sz (j + 1) q := by
          have : u ∈ trs (j + 1) q hs := by rw [← List.mem_reverse, hr]; exact List.mem_cons_self
          exact (List.of_mem_zip this).1
        have := sz_ge q (j + 1) u.1 hu
        rw [Nat.pow_succ] at this
        have h0 := Nat.two_pow_pos j
        show (if 2 ^ j = u.1 then _ else _) = _
        rw [if_neg (by omega)]
    · obtain ⟨q, rfl⟩ : ∃ q, m = 2 * q + 1 := ⟨m / 2, by omega⟩
      rw [carry_odd _ _ _ h2, show (2 * q + 1) / 2 = q by omega]
      have hne : hs ≠ [] := fun e => by rw [e, ones_odd] at h; simp at h
      have hsn : hs = hs.dropLast ++ [hs.getLastD []] := by
        have h1 := (List.dropLast_concat_getLast hne).symm
        have h2 : hs.getLast hne = hs.getLastD [] := by rw [List.getLastD_eq_getLast?, List.getLast?_eq_some_getLast hne]; rfl
        rw [h2] at h1; exact h1
      have hl : hs.dropLast.length = ones q := by rw [List.length_dropLast, h, ones_odd]; rfl
      obtain ⟨d, hd⟩ : ∃ d, d = hs.dropLast := ⟨_, rfl⟩
      obtain ⟨y, hy⟩ : ∃ y, y = hs.getLastD [] := ⟨_, rfl⟩
      rw [← hd] at hl hsn ⊢
      rw [← hy] at hsn ⊢
      rw [hsn, trs_odd j q d y hl, List.reverse_append]
      show (if 2 ^ j = 2 ^ j then joinR (2 * 2 ^ j, nodeL y x) (trs (j + 1) q d).reverse else _) = _
      rw [if_pos rfl, show 2 * 2 ^ j = 2 ^ (j + 1) by rw [Nat.pow_succ, Nat.mul_comm], ih q (by omega) (j + 1) d _ hl]
      unfold trs
      rw [show 2 * q + 1 + 1 = 2 * (q + 1) by omega, sz_even]
/-- The last two of one size are one, and so on. -/
def joinP (ts : List Tr) : List Tr := match ts.reverse with | [] => [] | t :: r => (joinR t r).reverse
theorem joinP_snoc (ts : List Tr) (t : Tr) : joinP (ts ++ [t]) = (joinR t ts.reverse).reverse := by unfold joinP; rw [List.reverse_append]; rfl
theorem joinP_trs (j q : Nat) (hs : List (List Int)) (x : List Int) (h : hs.length = ones q) : joinP (trs 0 (q * 2 ^ j) hs ++ [(2 ^ j, x)]) = trs 0 (q * 2 ^ j + 2 ^ j) (carry q hs x) := by
  have e (q : Nat) (hs : List (List Int)) : trs 0 (q * 2 ^ j) hs = trs j q hs := by unfold trs; rw [sz_shift, Nat.zero_add]
  rw [joinP_snoc, e, join_trs q j hs x h, List.reverse_reverse, ← Nat.succ_mul, e]
/-- Two of one size at the end; or none, or unlike ones. -/
theorem joinP_two (ts : List Tr) (u t : Tr) (h : t.1 = u.1) : joinP (ts ++ [u, t]) = joinP (ts ++ [(2 * t.1, nodeL u.2 t.2)]) := by
  rw [show ts ++ [u, t] = (ts ++ [u]) ++ [t] by simp, joinP_snoc, joinP_snoc, List.reverse_append]
  show (if t.1 = u.1 then _ else _ : List Tr).reverse = _
  rw [if_pos h]
  rfl
theorem joinP_unlike (ts : List Tr) (u t : Tr) (h : ¬ t.1 = u.1) : joinP (ts ++ [u, t]) = ts ++ [u, t] := by
  rw [show ts ++ [u, t] = (ts ++ [u]) ++ [t] by simp, joinP_snoc, List.reverse_append]
  show (if t.1 = u.1 then _ else _ : List Tr).reverse = _
  rw [if_neg h]; simp
theorem joinP_one (t : Tr) : joinP [t] = [t] := rfl
theorem joinP_none : joinP [] = [] := rfl
end Go.Proofs.YtfakimbneenfdaaDoor
namespace Go.Proofs.YtfakimbneenfdaaDoor
open Go.RowKit
set_option linter.unusedVariables false
set_option maxRecDepth 100000

/-- The best power so far: of those below the i-th that part the number. -/
def IsB (f r i b : Nat) : Prop := f % 2 ^ b = 0 ∧ 2 ^ b ≤ r ∧ b ≤ i ∧ ∀ j, j < i → f % 2 ^ j = 0 → j ≤ b
theorem IsB.start (f r : Nat) (h : 0 < r) : IsB f r 0 0 := ⟨by simp [Nat.mod_one], h, Nat.le_refl _, fun j hj => by omega⟩
theorem IsB.yes {f r i b : Nat} (h : IsB f r i b) (h1 : f % 2 ^ i = 0) (h2 : 2 ^ i ≤ r) : IsB f r (i + 1) i := ⟨h1, h2, by omega, fun j hj _ => by omega⟩
theorem IsB.no {f r i b : Nat} (h : IsB f r i b) (h1 : ¬ f % 2 ^ i = 0) : IsB f r (i + 1) b := ⟨h.1, h.2.1, by have := h.2.2.1; omega, fun j hj hz => by
  by_cases e : j = i
  · subst e; exact absurd hz h1
  · exact h.2.2.2 j (by omega) hz⟩
theorem IsB.stop {f r i b : Nat} (h : IsB f r i b) (h1 : r < 2 ^ i) : partN f r = 2 ^ b := by
  refine partN_is f r b ⟨h.1, h.2.1, fun hx => ?_⟩
  have e : b + 1 < i := by
    by_cases e : b + 1 < i
    · exact e
    · have := Nat.pow_le_pow_right (show 0 < 2 by omega) (show i ≤ b + 1 by omega)
      omega
  have := h.2.2.2 (b + 1) e hx.1
  omega
/-- What the inner loop holds. -/
def BestH (f r m b : Nat) : Prop := ∃ i j, m = 2 ^ i ∧ b = 2 ^ j ∧ IsB f r i j
theorem BestH.yes {f r m b : Nat} (h : BestH f r m b) (h1 : f % m = 0) (h2 : m ≤ r) : BestH f r (m * 2) m := by
  obtain ⟨i, j, rfl, rfl, h⟩ := h
  exact ⟨i + 1, i, by rw [Nat.pow_succ], rfl, h.yes h1 h2⟩
theorem BestH.no {f r m b : Nat} (h : BestH f r m b) (h1 : ¬ f % m = 0) : BestH f r (m * 2) b := by
  obtain ⟨i, j, rfl, rfl, h⟩ := h
  exact ⟨i + 1, j, by rw [Nat.pow_succ], rfl, h.no h1⟩
theorem BestH.stop {f r m b : Nat} (h : BestH f r m b) (h1 : r < m) : b = partN f r := by
  obtain ⟨i, j, rfl, rfl, h⟩ := h
  exact (h.stop h1).symm
set_option maxHeartbeats 4000000 in
theorem refParts_own (f t : Nat) (hf : f ≤ t) (ht : t ≤ 4096) (w : World) :
    Calls Tryd.prog 48 #[.int .i64 (f : Int), .int .i64 (t : Int)] w fun e w' => ∃ A c, e = .returned (.slice A (partsL f t).length c) ∧ OwnI w w' (.slice A (partsL f t).length c) (partsL f t) := by
  obtain ⟨i0, hi, hz0, hz1, hz2⟩ := info_parts infoInt
  have H0 := Lib.hid (OwnI.start w)
  have hlen : Hid ((partsL f t).length ≤ 4096) := Lib.hid (by have := partsL_length f t; omega)
  go_enter Tryd.func48, Tryd.ntmps48
  go_wp2
  go_loopw [0, 5] (fun s0 s5 wr => ∃ (g : Nat) (v : Value) (ns : List Nat), s0 = .int .i64 (g : Int) ∧ v = s5 ∧ g ≤ t ∧ Hid (OwnI w wr v ns) ∧ Hid (ns ++ partsL g t = partsL f t)) (fun s0 _ _ => (t - intOf s0).toNat)
  case atStart => exact ⟨f, _, [], rfl, rfl, hf, H0, Lib.hid rfl⟩
  case round =>
    clear H0 hf
    obtain ⟨g, v, ns, rfl, rfl, hg, HO, HP⟩ := hrel
    obtain ⟨wo, rfl⟩ : ∃ wo : World, wo = wr := ⟨_, rfl⟩
    by_cases hlt : g < t
    · go_wp2
      go_loop [6, 7] (fun s6 s7 => ∃ b m : Nat, s6 = .int .i64 (b : Int) ∧ s7 = .int .i64 (m : Int) ∧ 1 ≤ m ∧ m ≤ 2 * (t - g) ∧ 1 ≤ b ∧ b ≤ t - g ∧ Hid (BestH g (t - g) m b)) (fun _ s7 => (2 * (t - g) + 1) - (intOf s7).toNat)
      case atStart => exact ⟨1, 1, rfl, rfl, by omega, by omega, by omega, by omega, Lib.hid ⟨0, 0, rfl, rfl, IsB.start _ _ (by omega)⟩⟩
      case round =>
        obtain ⟨b, m, rfl, rfl, hm1, hm2, hb1, hb2, HM⟩ := hrel
        by_cases hle : m ≤ t - g
        · have d2 : decide ((m : Int) ≤ (t : Int) - (g : Int)) = true := by simp; omega
          have m0 : ¬ (m : Int) = 0 := by omega
          by_cases ha : g % m = 0
          · have HN := Lib.hid (HM.out.yes ha hle)
            have d1 : ((g : Int) % (m : Int) == 0) = true := by rw [show (g : Int) % (m : Int) = ((g % m : Nat) : Int) by simp, ha]; rfl
            clear ha HM
            go_wp2
            go_round
            case rel => exact ⟨m, m * 2, rfl, by go_num, by omega, by omega, hm1, hle, HN⟩
            case measure => simp [intOf]; omega
          · have HN := Lib.hid (HM.out.no ha)
            have d1 : ((g : Int) % (m : Int) == 0) = false := by rw [show (g : Int) % (m : Int) = ((g % m : Nat) : Int) by simp, beq_eq_false_iff_ne]; exact fun h => ha (Int.ofNat.inj h)
            clear ha HM
            go_wp2
            go_round
            case rel => exact ⟨b, m * 2, rfl, by go_num, by omega, by omega, hb1, hb2, HN⟩
            case measure => simp [intOf]; omega
        · have d2 : decide ((m : Int) ≤ (t : Int) - (g : Int)) = false := by simp; omega
          have HN := Lib.hid (HM.out.stop (by omega))
          have HQ : Hid (ns.length + 1 ≤ 8192) := Lib.hid (by have := congrArg List.length HP.out; rw [List.length_append] at this; have := hlen.out; omega)
          have HR : Hid ((ns ++ [partN g (t - g)]) ++ partsL (g + partN g (t - g)) t = partsL f t) := Lib.hid (by rw [← HP.out, partsL_more g t hlt, List.append_assoc]; rfl)
          rw [← HN.out] at HR
          clear HN HP HM
          go_wp2_with (at_builtin; refine wpList_append_own _ rfl (.tmp 23) (.tmp 25) 69 rfl w.heap.size 3 i0 _ 1 8 Tryd.underlying69 hi hz0 hz1 hz2 rfl (by decide) _ _ _ rfl (HO.out.1.alloc _) ⟨wo.heap.size, 0, none⟩ 1 1 [.int .i64 (b : Int)] rfl rfl ?c2a ?c2b (by have := HQ.out; unfold maxLen; omega) (by have := HQ.out; omega) ?c2c ?_)
          case c2b => first | rfl | simp
          case c2c => have := HO.out.2.size; simp; omega
          intro v' w4 hown hgrow _
          have HO2 : Hid (OwnI w w4 v' (ns ++ [b])) := Lib.hid (HO.out.put hown hgrow)
          clear hown hgrow HO
          go_wp2
          go_roundw
          case rel => exact ⟨g + b, _, _, by go_num, rfl, by omega, HO2, HR⟩
          case measure => simp [intOf]; omega
    · have hge : Hid (partsL g t = []) := Lib.hid (partsL_done g t (by omega))
      obtain ⟨A, c, hv, hI⟩ : ∃ A c, Hid (v = .slice A (partsL f t).length c) ∧ Hid (OwnI w wo (.slice A (partsL f t).length c) (partsL f t)) := by
        have e : ns = partsL f t := by have := HP.out; rw [hge.out, List.append_nil] at this; exact this
        subst e
        obtain ⟨A, c, e1, _⟩ := HO.out.lead
        exact ⟨A, c, Lib.hid e1, Lib.hid (by rw [← e1]; exact HO.out)⟩
      go_wp2
      go_ret
      exact ⟨A, c, congrArg Ending.returned hv.out, hI.out⟩
theorem refParts_any (f t : Nat) (hf : f ≤ t) (ht : t ≤ 4096) (w : World) :
    Calls Tryd.prog 48 #[.int .i64 (f : Int), .int .i64 (t : Int)] w fun e w' => (∃ A c, e = .returned (.slice A (partsL f t).length c) ∧ (partsL f t).length ≤ c ∧ c ≤ maxLen ∧ IL w' w'.heap.size A (partsL f t)) ∧ Below w.heap.size w w' := by
  refine (refParts_own f t hf ht w).mono ?_
  rintro e w' ⟨A, c, rfl, h⟩
  obtain ⟨A', c', e1, e2, e3, e4⟩ := h.lead
  cases e1
  exact ⟨⟨A, c, rfl, e2, e3, e4⟩, h.2⟩
end Go.Proofs.YtfakimbneenfdaaDoor
namespace Go.Proofs.YtfakimbneenfdaaDoor
open Go.RowKit Go.Great
set_option linter.unusedVariables false
set_option maxRecDepth 100000

theorem infoTree : (Tryd.prog.info? 62).map (fun i => (i.zero, i.size, i.bytes)) = some (some (.agg (#[Value.int .i64 0] ++ nums .u8 (List.replicate 32 0))), 33, 40) := by kernel_rfl
/-- A tree's cells; trees' cells. -/
def cellsT1 (t : Tr) : List Value := Value.int .i64 (t.1 : Int) :: t.2.map (Value.int .u8)
def cellsT (ts : List Tr) : List Value := (ts.map cellsT1).flatten
/-- Trees whose hashes are hashes. -/
def okT (ts : List Tr) : Prop := ∀ t ∈ ts, t.2.length = 32 ∧ bytes t.2
theorem okT.tail {t : Tr} {ts : List Tr} (h : okT (t :: ts)) : okT ts := fun u hu => h u (List.mem_cons_of_mem _ hu)
theorem okT.left {a b : List Tr} (h : okT (a ++ b)) : okT a := fun u hu => h u (List.mem_append_left _ hu)
theorem okT.right {a b : List Tr} (h : okT (a ++ b)) : okT b := fun u hu => h u (List.mem_append_right _ hu)
theorem okT.app {a b : List Tr} (h : okT a) (k : okT b) : okT (a ++ b) := fun u hu => by
  rcases List.mem_append.1 hu with hu | hu
  · exact h u hu
  · exact k u hu
theorem okT.one {t : Tr} (h : t.2.length = 32 ∧ bytes t.2) : okT [t] := fun u hu => by rw [List.mem_singleton.1 hu]; exact h
theorem okT.at {ts : List Tr} (h : okT ts) (i : Nat) (hi : i < ts.length) : (ts.getD i (0, [])).2.length = 32 ∧ bytes (ts.getD i (0, [])).2 := by
  rw [List.getD_eq_getElem?_getD, List.getElem?_eq_getElem hi]; exact h _ (List.getElem_mem hi)
theorem cellsT_app (a b : List Tr) : cellsT (a ++ b) = cellsT a ++ cellsT b := by simp [cellsT]
theorem cellsT_one' (t : Tr) : cellsT [t] = cellsT1 t := by simp [cellsT]
theorem cellsT_length {ts : List Tr} (h : okT ts) : (cellsT ts).length = ts.length * 33 := by
  induction ts with
  | nil => rfl
  | cons t ts ih =>
    have e : cellsT (t :: ts) = cellsT1 t ++ cellsT ts := by simp [cellsT]
    have e1 : (cellsT1 t).length = 33 := by simp [cellsT1, (h t (List.mem_cons_self ..)).1]
    rw [e, List.length_append, e1, ih h.tail, List.length_cons]; omega
theorem cellsT_cell (ts : List Tr) : ∀ u ∈ cellsT ts, u.oneCell' = true := by
  intro u hu
  obtain ⟨l, hl, hu⟩ := List.mem_flatten.1 hu
  obtain ⟨t, _, rfl⟩ := List.mem_map.1 hl
  rcases List.mem_cons.1 hu with rfl | hu
  · rfl
  · obtain ⟨x, _, rfl⟩ := List.mem_map.1 hu; rfl
theorem cellsT_get {ts : List Tr} (h : okT ts) (i j : Nat) (hi : i < ts.length) (hj : j < 33) : (cellsT ts)[i * 33 + j]? = (cellsT1 (ts.getD i (0, [])))[j]? := by
  induction ts generalizing i with
  | nil => simp at hi
  | cons t ts ih =>
    have e : cellsT (t :: ts) = cellsT1 t ++ cellsT ts := by simp [cellsT]
    have e1 : (cellsT1 t).length = 33 := by simp [cellsT1, (h t (List.mem_cons_self ..)).1]
    rw [e]
    cases i with
    | zero => rw [List.getElem?_append_left (by omega)]; simp
    | succ i =>
      rw [List.getElem?_append_right (by omega), e1, show (i + 1) * 33 + j - 33 = i * 33 + j by omega, ih h.tail i (by simpa using hi)]
      rfl
/-- The address A leads to these cells, below block B. -/
def CL (w : World) (B : Nat) (A : Option Addr) (xs : List Value) : Prop := ∀ k v, xs[k]? = some v → ∃ ad, A = some ad ∧ ad.block < B ∧ w.cell? (ad.add k) = some v
theorem CL.next {w w' : World} {B B' : Nat} {A : Option Addr} {xs : List Value} (h : CL w B A xs) (hb : Below B' w w') (hB : B ≤ B') : CL w' B A xs := fun k v hk => by
  obtain ⟨ad, e, hlt, hc⟩ := h k v hk
  exact ⟨ad, e, hlt, (hb.cell (p := ad.add k) (by rw [block_of_add]; omega)).trans hc⟩
theorem CL.more {w : World} {B B' : Nat} {A : Option Addr} {xs : List Value} (h : CL w B A xs) (hB : B ≤ B') : CL w B' A xs := fun k v hk => by
  obtain ⟨ad, e, hlt, hc⟩ := h k v hk
  exact ⟨ad, e, by omega, hc⟩
theorem CL.nil (w : World) (B : Nat) (A : Option Addr) : CL w B A [] := fun k v hk => by simp at hk
theorem CL.left {w : World} {B : Nat} {A : Option Addr} {xs ys : List Value} (h : CL w B A (xs ++ ys)) : CL w B A xs := fun k v hk => h k v (by
  rw [List.getElem?_append_left (by
    by_cases hlt : k < xs.length
    · exact hlt
    · rw [List.getElem?_eq_none (by omega)] at hk; cases hk)]; exact hk)
/-- Trees in memory. -/
def TL (w : World) (A : Option Addr) (ts : List Tr) : Prop := CL w w.heap.size A (cellsT ts)
theorem TL.from {w w' : World} {A : Option Addr} {ts : List Tr} (h : TL w A ts) (hb : Below w.heap.size w w') : TL w' A ts := (CL.next h hb (Nat.le_refl _)).more hb.size
theorem TL.nil (w : World) (A : Option Addr) : TL w A [] := CL.nil _ _ _
theorem TL.left {w : World} {A : Option Addr} {a b : List Tr} (h : TL w A (a ++ b)) : TL w A a := by
  unfold TL at h; rw [cellsT_app] at h; exact CL.left h
theorem TL.some {w : World} {A : Option Addr} {ts : List Tr} (h : TL w A ts) (hk : okT ts) (hi : 0 < ts.length) : ∃ ad, A = some ad := by
  obtain ⟨ad, e, _⟩ := h 0 _ (List.getElem?_eq_getElem (by rw [cellsT_length hk]; omega))
  exact ⟨ad, e⟩
theorem TL.size {w : World} {ad : Addr} {ts : List Tr} (h : TL w (.some ad) ts) (hk : okT ts) (i : Nat) (hi : i < ts.length) : w.cell? (ad.add (i * 33)) = .some (.int .i64 ((ts.getD i (0, [])).1 : Int)) := by
  obtain ⟨ad', e, _, hc⟩ := h (i * 33 + 0) (.int .i64 ((ts.getD i (0, [])).1 : Int)) (by rw [cellsT_get hk i 0 hi (by omega)]; rfl)
  cases e
  exact hc
theorem TL.hash {w : World} {ad : Addr} {ts : List Tr} (h : TL w (.some ad) ts) (hk : okT ts) (i : Nat) (hi : i < ts.length) : (readAt (.pointer (.some (ad.add (i * 33 + 1))))).run Tryd.prog w = .ok (.agg (nums .u8 (ts.getD i (0, [])).2)) w := by
  refine read_flat w _ _ (hk.at i hi).1 (fun j hj => ?_)
  have e := (hk.at i hi).1
  obtain ⟨ad', e', _, hc⟩ := h (i * 33 + (j + 1)) (.int .u8 ((ts.getD i (0, [])).2.getD j 0)) (by
    rw [cellsT_get hk i (j + 1) hi (by omega)]
    unfold cellsT1
    rw [List.getElem?_cons_succ, List.getElem?_map, List.getD_eq_getElem?_getD (l := (ts.getD i (0, [])).2), List.getElem?_eq_getElem (by omega)]
    rfl)
  cases e'
  rw [add_of_add, show i * 33 + 1 + j = i * 33 + (j + 1) by omega]
  exact hc
/-- A slice of trees of the call's own. -/
def ownT (w : World) (B : Nat) (v : Value) (ts : List Tr) : Prop := w.ownsRow B 62 33 v ts.length (cellsT ts)
theorem ownT.start (w : World) (B : Nat) : ownT w B (.slice none 0 0) [] := ⟨rfl, .inl ⟨rfl, rfl⟩⟩
theorem ownT.lead {w : World} {B : Nat} {v : Value} {ts : List Tr} (h : ownT w B v ts) : ∃ A c, v = .slice A ts.length c ∧ ts.length ≤ c ∧ c ≤ maxLen ∧ TL w A ts := by
  rcases h.2 with ⟨rfl, h0⟩ | ⟨g, cap, cur, rfl, _, hg, h3⟩
  · have : ts = [] := List.eq_nil_of_length_eq_zero h0
    subst this
    exact ⟨none, 0, rfl, Nat.le_refl _, by decide, TL.nil _ _⟩
  · exact ⟨_, _, rfl, h3.1, h3.2.1, fun k v hk => ⟨_, rfl, (Array.getElem?_eq_some_iff.1 hg).1, h.cells (g := g) rfl _ _ hk⟩⟩
/-- A tree is built. -/
def treeV (s : Nat) (N : Array Value) : Array Value := #[Value.int .i64 (s : Int)] ++ N
theorem treeV_cells (t : Tr) : treeV t.1 (nums .u8 t.2) = (cellsT1 t).toArray := by
  apply Array.ext_getElem?
  intro k
  unfold treeV cellsT1
  cases k with
  | zero => rw [Array.getElem?_append_left (by simp)]; rfl
  | succ k => simp [nums]
theorem fill_tree (s : Nat) (N z : Array Value) (hN : N.size = 32) (hz : z.size = 33) : Instr.fill (#[(0, 1), (1, 32)][·]?) z [(0, .int .i64 (s : Int)), (1, .agg N)] = some (treeV s N) := by
  have h1 : ((Value.int .i64 (s : Int)).cells).size = 1 := rfl
  have h2 : (Value.agg N).cells = N := rfl
  obtain ⟨z1, hz1⟩ : ∃ z1, z1 = z.setIfInBounds 0 (.int .i64 (s : Int)) := ⟨_, rfl⟩
  have sz1 : z1.size = 33 := by rw [hz1]; simp [hz]
  have e1 : Instr.fill (#[(0, 1), (1, 32)][·]?) z [(0, .int .i64 (s : Int)), (1, .agg N)] = Instr.fill (#[(0, 1), (1, 32)][·]?) z1 [(1, .agg N)] := by
    rw [Instr.fill]
    simp only [List.getElem?_toArray, List.getElem?_cons_zero, h1, hz]
    rw [if_neg (by decide), hz1]
    rfl
  have e2 : Instr.fill (#[(0, 1), (1, 32)][·]?) z1 [(1, .agg N)] = some (N.zipIdx.foldl (fun (cs : Array Value) (x : Value × Nat) => cs.setIfInBounds (1 + x.2) x.1) z1) := by
    rw [Instr.fill]
    simp only [List.getElem?_toArray, List.getElem?_cons_zero, List.getElem?_cons_succ, h2, hN, sz1]
    rw [if_neg (by decide)]
    rfl
  rw [e1, e2]
  congr 1
  obtain ⟨f1, f2⟩ := foldl_set 1 N.toList 0 z1
  have e3 : N.zipIdx.foldl (fun (cs : Array Value) (x : Value × Nat) => cs.setIfInBounds (1 + x.2) x.1) z1 = ((N.toList.zipIdx 0).foldl (fun cs (x : Value × Nat) => cs.setIfInBounds (1 + x.2) x.1) z1) := by
    rw [← Array.foldl_toList, Array.toList_zipIdx]
  rw [e3]
  apply Array.ext_getElem?
  intro k
  rw [f2 k]
  unfold treeV
  cases k with
  | zero =>
    rw [if_neg (by omega), Array.getElem?_append_left (by simp), hz1]
    simp [hz]
  | succ k =>
    rw [Array.getElem?_append_right (by simp)]
    by_cases hk : k < 32
    · rw [if_pos ⟨by omega, by rw [Array.length_toList, hN]; omega, by omega⟩]
      simp
    · rw [if_neg (by rw [Array.length_toList, hN]; omega), Array.getElem?_eq_none (by omega), Array.getElem?_eq_none (by simp; omega)]
/-- The operation. -/
theorem get_build {o : Oper} {a : Act} {w : World} {T : TypeId} {parts : Array (Nat × Operand)} {cells : Array Value} (ho : o.op = .build T parts) (h : Tryd.prog.built T (parts.map fun (i, x) => (i, a.eval x)).toList = some cells) :
    (execOp a.eval o).run Tryd.prog w = .ok (.value (.agg cells)) w := by
  unfold execOp
  simp only [ho, Sem.run_bind, Sem.run_pure, run_build w T _ cells h, Result.andThen_ok]
theorem built_tree (s : Nat) (N : Array Value) (hN : N.size = 32) : Tryd.prog.built 62 [(0, .int .i64 (s : Int)), (1, .agg N)] = some (treeV s N) := by
  have h : ∀ x, Tryd.prog.built 62 x = Instr.fill (#[(0, 1), (1, 32)][·]?) (#[Value.int .i64 0] ++ nums .u8 (List.replicate 32 0)) x := fun x => by
    with_unfolding_all rfl
  rw [h]
  exact fill_tree s N _ hN (by simp [nums_size])
/-- A tree is built, as a step that only yields a value. -/
theorem get_buildT {o : Oper} {a : Act} {w : World} {x y : Operand} {s : Nat} {N : Array Value} (ho : o.op = .build 62 #[(0, x), (1, y)]) (hx : a.eval x = .int .i64 (s : Int)) (hy : a.eval y = .agg N) (hN : N.size = 32) :
    (execOp a.eval o).run Tryd.prog w = .ok (.value (.agg (treeV s N))) w := by
  refine get_build ho ?_
  have e : ((#[(0, x), (1, y)] : Array (Nat × Operand)).map fun (i, x) => (i, a.eval x)).toList = [(0, .int .i64 (s : Int)), (1, .agg N)] := by simp [hx, hy]
  rw [e]
  exact built_tree s N hN
theorem fill_tree1 (C cells : Array Value) (hC : C.size = 33) (h : cells.size = 33) : Instr.fill (fun i => some (i * 33, 33)) cells [(0, .agg C)] = some C := by
  obtain ⟨r, hr, hsz, hk⟩ := Great.fill_dense (s := 33) (by omega) [.agg C] 0 cells (fun v hv => by simp at hv; subst hv; exact hC) (by simp; omega)
  have e : ([Value.agg C].zipIdx 0).map (fun x => (x.2, x.1)) = [(0, .agg C)] := rfl
  rw [e] at hr
  rw [hr]
  congr 1
  apply Array.ext_getElem?
  intro k
  rw [hk k]
  by_cases hlt : k < 33
  · rw [if_pos (by simp; omega), show k / 33 - 0 = 0 by omega, Nat.mod_eq_of_lt hlt]
    rfl
  · rw [if_neg (by simp; omega), Array.getElem?_eq_none (by omega), Array.getElem?_eq_none (by omega)]
/-- A slice of one tree, made. -/
theorem wp_buildTree {o : Oper} {a : Act} {w : World} {K : Act → World → Prop} {Q : Exit → Act → World → Prop} (y : Operand) (ho : o.op = .buildSlice 58 1 #[(0, y)])
    (C : Array Value) (hy : a.eval y = .agg C) (hC : C.size = 33) (h : ∀ W, Row W w.heap.size 62 C → Below w.heap.size w W → K (a.put o.dst (.slice (some ⟨w.heap.size, 0, none⟩) 1 1)) W) : o.wp Tryd.prog a w K Q := by
  obtain ⟨i0, hi, hz0, hz1, hz2⟩ := info_parts infoTree
  refine wp_buildSlice 58 62 1 _ ho C i0 _ Tryd.underlying58 hi hz0 (by rw [hz1]; decide) (by rw [hz1]; decide) ?_ (h _ (Row.made _ _ _) ((Below.refl _ _).alloc (Nat.le_refl _) _))
  have e : ((#[(0, y)] : Array (Nat × Operand)).map fun (i, x) => (i, a.eval x)).toList = [(0, .agg C)] := by simp [hy]
  rw [e, hz1]
  exact fill_tree1 C _ hC (by simp)
theorem TL.row {W : World} {g : Nat} {t : Tr} (h : Row W g 62 (treeV t.1 (nums .u8 t.2))) : TL W (.some ⟨g, 0, none⟩) [t] := by
  intro k v hk
  refine ⟨_, rfl, h.lt, ?_⟩
  rw [add_flat, h.cell, treeV_cells]
  rw [cellsT_one'] at hk
  simpa using hk
theorem treeV_size (s : Nat) (N : Array Value) (h : N.size = 32) : (treeV s N).size = 33 := by unfold treeV; rw [Array.size_append, h]; rfl
/-- Trees are appended to one's own. -/
theorem wp_appendT {o : Oper} {a : Act} {w : World} {K : Act → World → Prop} {Q : Exit → Act → World → Prop} (s x : Operand) (ho : o.op = .call { callee := .builtin .append, args := #[s, x], argTypes := #[58, 58] })
    (B : Nat) (v : Value) (ts us : List Tr) (hs : a.eval s = v) (hown : ownT w B v ts) (ad : Addr) (m c : Nat) (hx : a.eval x = .slice (some ad) m c) (hm : m = us.length) (hu : okT us) (hU : TL w (some ad) us) (hsm : ts.length + m ≤ 8192) (hB : B ≤ w.heap.size)
    (h : ∀ v' w', ownT w' B v' (ts ++ us) → w.grownBy w' v.ownBlock → K (a.put o.dst v') w') : o.wp Tryd.prog a w K Q := by
  obtain ⟨i0, hi, hz0, hz1, hz2⟩ := info_parts infoTree
  subst hm
  refine wp_append_own _ s x 58 ho B 62 i0 _ 33 40 Tryd.underlying58 hi hz0 hz1 hz2 (by simp [Value.cells, nums]) (by decide) v ts.length (cellsT ts) hs hown ad us.length c (cellsT us) hx (cellsT_length hu) ?_ (cellsT_cell us) (by unfold maxLen; omega) (by omega) hB (fun v' w' h1 h2 _ => h v' w' ?_ h2)
  · intro j u hj
    obtain ⟨ad', e, _, hc⟩ := hU j u hj
    cases e
    exact hc
  · unfold ownT
    rw [List.length_append, cellsT_app]; exact h1
end Go.Proofs.YtfakimbneenfdaaDoor
namespace Go.Proofs.YtfakimbneenfdaaDoor
open Go
set_option linter.unusedVariables false

section
variable {P : Program} {ops : Array Oper} {Q : Exit → Act → World → Prop} {S T : World → Prop} {md : Region.Mode} {b : Nat}
/-- Both conditions, as far as they are asked. -/
def Cond (S T : World → Prop) (b : Nat) (l : Array Bool) (w : World) : Prop := S w ∧ (l.getD b false = false → T w)
def wpAnyG (P : Program) (md : Region.Mode) (ops : Array Oper) (Q : Exit → Act → World → Prop) (S T : World → Prop) (b : Nat) : Nat → Array Bool → Act → World → Prop
  | 0, l, a, w => Region.ready md ops l = [] ∧ Q .normal a w
  | n + 1, l, a, w => (Region.ready md ops l = [] → Q .normal a w) ∧ ∀ i ∈ Region.ready md ops l, wpOp P ops Q i (fun a' w' => Cond S T b (l.setIfInBounds i true) w' ∧ wpAnyG P md ops Q S T b n (l.setIfInBounds i true) a' w') a w
theorem wpAny_of_G : ∀ (n : Nat) (l : Array Bool) (a : Act) (w : World), wpAnyG P md ops Q S T b n l a w → wpAny P md ops Q n l a w
  | 0, _, _, _, h => h
  | n + 1, _, _, _, h => ⟨h.1, fun i hi => wpOp_mono (fun a' w' h' => wpAny_of_G n _ a' w' h'.2) (h.2 i hi)⟩
theorem getD_false_ne (l : Array Bool) (i b : Nat) (h : i ≠ b) : (l.setIfInBounds i true).getD b false = l.getD b false := by
  simp [Array.getD_eq_getD_getElem?, Array.getElem?_setIfInBounds_ne h]
theorem wpAnyG_first {U : World → Prop} {G : Array Bool → Prop} {i : Nat} {oi : Oper} {v : Value} (hib : i ≠ b) (hi : ops[i]? = some oi) (hsel : ∀ (j : Nat) (o : Oper) cs d, ops[j]? = some o → o.op ≠ .select cs d)
    (hQ : ∀ c a w, Q (.panic c) (a.put oi.dst v) w → Q (.panic c) a w) (hU : ∀ l w, G l → Cond S T b l w → U w)
    (hG : ∀ l j, G l → i ∈ Region.ready md ops l → j ∈ Region.ready md ops l → j ≠ i → G (l.setIfInBounds j true)) :
    ∀ (n : Nat) (l : Array Bool) (a : Act) (w : World),
      (∀ j oj, ops[j]? = some oj → j ≠ i → l.getD j true = false → (∀ e ∈ oj.after, Region.binds md e = true → e.on ≠ i) → oi.apart ops oj = true) →
      i ∈ Region.ready md ops l → G l → YieldsIf P ops U oi v a → Cond S T b l w →
      wpAnyG P md ops Q S T b n (l.setIfInBounds i true) (a.put oi.dst v) w → wpAnyG P md ops Q S T b (n + 1) l a w := by
  intro n
  induction n with
  | zero =>
    intro l a w _ hr hg hy hS H
    refine ⟨fun h => (by rw [h] at hr; cases hr), fun j hj => ?_⟩
    by_cases hji : j = i
    · subst hji; exact hy.wpOp hi (hU l w hg hS) ⟨⟨hS.1, fun h => hS.2 (by rw [← getD_false_ne l j b hib]; exact h)⟩, H⟩
    · have := ready_mono hj hji
      rw [H.1] at this
      cases this
  | succ n ih =>
    intro l a w hfree hr hg hy hS H
    refine ⟨fun h => (by rw [h] at hr; cases hr), fun j hj => ?_⟩
    by_cases hji : j = i
    · subst hji; exact hy.wpOp hi (hU l w hg hS) ⟨⟨hS.1, fun h => hS.2 (by rw [← getD_false_ne l j b hib]; exact h)⟩, H⟩
    · have h1 := H.2 j (ready_mono hj hji)
      obtain ⟨hjun, oj, hoj, hall⟩ := mem_ready.1 hj
      have hnot : ∀ e ∈ oj.after, Region.binds md e = true → e.on ≠ i := fun e he hb heq => by
        have h2 := hall e he hb
        have h0 := (mem_ready.1 hr).1
        rw [heq] at h2
        rcases Nat.lt_or_ge i l.size with h' | h'
        · simp [h'] at h0 h2; rw [h0] at h2; cases h2
        · simp [Array.getElem?_eq_none h'] at h2
      have h2 := wpOp_putIf hoj (hfree j oj hoj hji hjun hnot) (fun cs d => hsel i oi cs d hi) (fun cs d => hsel j oj cs d hoj) hQ hy h1
      have hfree' : ∀ k ok, ops[k]? = some ok → k ≠ i → (l.setIfInBounds j true).getD k true = false → (∀ e ∈ ok.after, Region.binds md e = true → e.on ≠ i) → oi.apart ops ok = true := fun k ok hk hki hun hno => by
        refine hfree k ok hk hki ?_ hno
        by_cases hjk : j = k
        · subst hjk; exact hjun
        · rw [getD_set_ne true hjk] at hun; exact hun
      refine wpOp_mono (fun a' w' h3 => ?_) h2
      have hc : Cond S T b (l.setIfInBounds j true) w' := ⟨h3.2.1.1, fun h => h3.2.1.2 (by rw [Array.setIfInBounds_comm _ _ (Ne.symm hji), getD_false_ne _ i b hib]; exact h)⟩
      exact ⟨hc, ih (l.setIfInBounds j true) a' w' hfree' (ready_mono hr (Ne.symm hji)) (hG l j hg hr hj hji) h3.1 hc (by rw [Array.setIfInBounds_comm _ _ hji]; exact h3.2.2)⟩
/-- Does b wait for i? -/
def waitsB (md : Region.Mode) (ops : Array Oper) (b i : Nat) : Bool := match ops[b]? with
  | some o => o.after.any fun e => Region.binds md e && e.on == i
  | none => false
theorem early_keeps {i : Nat} (hw : waitsB md ops b i = true) (l : Array Bool) (j : Nat) (hg : l.getD b false = false) (hi : i ∈ Region.ready md ops l) (hj : j ∈ Region.ready md ops l) : (l.setIfInBounds j true).getD b false = false := by
  have hjb : j ≠ b := by
    rintro rfl
    obtain ⟨_, oj, hoj, hall⟩ := mem_ready.1 hj
    unfold waitsB at hw
    rw [hoj] at hw
    simp only [Array.any_eq_true'] at hw
    obtain ⟨e, he, hb⟩ := hw
    simp only [Bool.and_eq_true, beq_iff_eq] at hb
    have h1 := hall e he hb.1
    rw [hb.2] at h1
    have h0 := (mem_ready.1 hi).1
    rcases Nat.lt_or_ge i l.size with h' | h'
    · simp [h'] at h0 h1; rw [h0] at h1; cases h1
    · simp [Array.getElem?_eq_none h'] at h1
  rw [getD_false_ne l j b hjb]; exact hg
/-- An order: 0 what reads under the first condition, 1 under both, 2 what turns the world ahead of b, 3 from b on. -/
def okSq (md : Region.Mode) (ops : Array Oper) (b : Nat) : List (Nat × Nat) → Array Bool → Bool
  | [], l => (Region.ready md ops l).isEmpty
  | (0, i) :: s, l => (Region.free md ops l i && (Region.ready md ops l).contains i && decide (i ≠ b)) && okSq md ops b s (l.setIfInBounds i true)
  | (1, i) :: s, l => (Region.free md ops l i && (Region.ready md ops l).contains i && decide (i ≠ b) && waitsB md ops b i && (l.getD b false == false)) && okSq md ops b s (l.setIfInBounds i true)
  | (2, i) :: s, l => (Region.ready md ops l == [i]) && okSq md ops b s (l.setIfInBounds i true)
  | (_, i) :: s, l => (Region.ready md ops l == [i] && (l.setIfInBounds i true).getD b false) && okSq md ops b s (l.setIfInBounds i true)
def wpSq (P : Program) (ops : Array Oper) (Q : Exit → Act → World → Prop) (S T : World → Prop) : List (Nat × Nat) → Act → World → Prop
  | [], a, w => Q .normal a w
  | (0, i) :: s, a, w => ∃ o v, ops[i]? = some o ∧ YieldsIf P ops S o v a ∧ wpSq P ops Q S T s (a.put o.dst v) w
  | (1, i) :: s, a, w => ∃ o v, ops[i]? = some o ∧ YieldsIf P ops (fun w => S w ∧ T w) o v a ∧ wpSq P ops Q S T s (a.put o.dst v) w
  | (2, i) :: s, a, w => ∃ o, ops[i]? = some o ∧ Region.wanted o (yielded ops a.tmps) = true ∧ Oper.wp P o a w (fun a' w' => (S w' ∧ T w') ∧ wpSq P ops Q S T s a' w') Q
  | (_, i) :: s, a, w => ∃ o, ops[i]? = some o ∧ Region.wanted o (yielded ops a.tmps) = true ∧ Oper.wp P o a w (fun a' w' => S w' ∧ wpSq P ops Q S T s a' w') Q
theorem wpAnyG_sq (hsel : Region.noSelect ops = true) (hQ : ∀ c a d v w, Q (.panic c) (a.put d v) w → Q (.panic c) a w) : ∀ (s : List (Nat × Nat)) (l : Array Bool) (a : Act) (w : World),
    okSq md ops b s l = true → Cond S T b l w → wpSq P ops Q S T s a w → wpAnyG P md ops Q S T b s.length l a w
  | [], l, a, w, hok, hc, h => ⟨by simpa [okSq] using hok, h⟩
  | (0, i) :: s, l, a, w, hok, hc, h => by
    simp only [okSq, Bool.and_eq_true, decide_eq_true_eq] at hok
    obtain ⟨⟨⟨hf, hr⟩, hne⟩, hok⟩ := hok
    obtain ⟨o, v, ho, hy, h⟩ := h
    have hr' : i ∈ Region.ready md ops l := by simpa using hr
    exact wpAnyG_first (G := fun _ => True) hne ho (Region.noSelect_spec hsel) (fun c a w => hQ c a o.dst v w) (fun _ _ _ h => h.1) (fun _ _ _ _ _ _ => trivial) s.length l a w (Region.free_spec ho hf) hr' trivial hy hc
      (wpAnyG_sq hsel hQ s _ _ w hok ⟨hc.1, fun h => hc.2 (by rw [← getD_false_ne l i b hne]; exact h)⟩ h)
  | (1, i) :: s, l, a, w, hok, hc, h => by
    simp only [okSq, Bool.and_eq_true, decide_eq_true_eq, beq_iff_eq] at hok
    obtain ⟨⟨⟨⟨⟨hf, hr⟩, hne⟩, hw⟩, hb⟩, hok⟩ := hok
    obtain ⟨o, v, ho, hy, h⟩ := h
    have hr' : i ∈ Region.ready md ops l := by simpa using hr
    exact wpAnyG_first (G := fun l => l.getD b false = false) hne ho (Region.noSelect_spec hsel) (fun c a w => hQ c a o.dst v w) (fun l w hg h => ⟨h.1, h.2 hg⟩) (fun l j hg hi hj _ => early_keeps hw l j hg hi hj) s.length l a w (Region.free_spec ho hf) hr' hb hy hc
      (wpAnyG_sq hsel hQ s _ _ w hok ⟨hc.1, fun h => hc.2 (by rw [← getD_false_ne l i b hne]; exact h)⟩ h)
  | (2, i) :: s, l, a, w, hok, hc, h => by
    simp only [okSq, Bool.and_eq_true, beq_iff_eq] at hok
    obtain ⟨hr, hok⟩ := hok
    obtain ⟨o, ho, hw, h⟩ := h
    refine ⟨fun h0 => (by rw [hr] at h0; cases h0), fun j hj => ?_⟩
    obtain rfl : j = i := by rw [hr] at hj; simpa using hj
    refine wpOp_mono (K := fun a' w' => (S w' ∧ T w') ∧ wpSq P ops Q S T s a' w') (fun a' w' h' => ⟨⟨h'.1.1, fun _ => h'.1.2⟩, wpAnyG_sq hsel hQ s _ a' w' hok ⟨h'.1.1, fun _ => h'.1.2⟩ h'.2⟩) ?_
    unfold wpOp
    simp only [ho, hw, if_true]
    exact .inl h
  | (k + 3, i) :: s, l, a, w, hok, hc, h => by
    simp only [okSq, Bool.and_eq_true, beq_iff_eq] at hok
    obtain ⟨⟨hr, hb⟩, hok⟩ := hok
    obtain ⟨o, ho, hw, h⟩ := h
    refine ⟨fun h0 => (by rw [hr] at h0; cases h0), fun j hj => ?_⟩
    obtain rfl : j = i := by rw [hr] at hj; simpa using hj
    refine wpOp_mono (K := fun a' w' => S w' ∧ wpSq P ops Q S T s a' w') (fun a' w' h' => ⟨⟨h'.1, fun h => by rw [hb] at h; cases h⟩, wpAnyG_sq hsel hQ s _ a' w' hok ⟨h'.1, fun h => by rw [hb] at h; cases h⟩ h'.2⟩) ?_
    unfold wpOp
    simp only [ho, hw, if_true]
    exact .inl h
theorem wp_region_sq {id : Nat} {a : Act} {w : World} (S T : World → Prop) (b : Nat) (s : List (Nat × Nat)) (hm : P.follows .mixedOrders = true) (hlen : ops.size = s.length) (hsel : Region.noSelect ops = true)
    (hok : okSq .any ops b s (Array.replicate ops.size false) = true) (hQ : ∀ c a d v w, Q (.panic c) (a.put d v) w → Q (.panic c) a w) (hS : S w.drew ∧ T w.drew)
    (h : ∀ Q' : Act → World → Prop, (∀ a' w', Q .normal a' w' → Q' a' w') → wpSq P ops (fun e a' w' => match e with | .normal => Q' a' w' | e => Q e a' w') S T s a w.drew) : (Code.region id ops true).wp P Q a w := by
  refine wp_region_any hm (wpAny_of_G (S := S) (T := T) (b := b) _ _ _ _ ?_)
  rw [hlen]
  rw [hlen] at hok
  refine wpAnyG_sq hsel hQ s _ a _ hok ⟨hS.1, fun _ => hS.2⟩ ?_
  have h1 := h (fun a' w' => Q .normal a' w') (fun _ _ h => h)
  have e : (fun e a' w' => match e with | Exit.normal => Q .normal a' w' | e => Q e a' w') = Q := by
    funext e a' w'
    cases e <;> rfl
  rw [e] at h1
  exact h1
theorem wpSq_get {i : Nat} {s : List (Nat × Nat)} {a : Act} {w : World} {o : Oper} (ho : ops[i]? = some o) (hw : Region.wanted o (yielded ops a.tmps) = true)
    (h : ∀ K : Act → Prop, (∀ a', wpSq P ops Q S T s a' w → K a') → ∃ v, (∀ w', S w' → (execOp a.eval o).run P w' = .ok (.value v) w') ∧ K (a.put o.dst v)) : wpSq P ops Q S T ((0, i) :: s) a w := by
  obtain ⟨v, h1, h2⟩ := h (fun a' => wpSq P ops Q S T s a' w) (fun _ h => h)
  exact ⟨o, v, ho, .inl ⟨hw, h1⟩, h2⟩
theorem wpSq_early {i : Nat} {s : List (Nat × Nat)} {a : Act} {w : World} {o : Oper} (ho : ops[i]? = some o) (hw : Region.wanted o (yielded ops a.tmps) = true)
    (h : ∀ K : Act → Prop, (∀ a', wpSq P ops Q S T s a' w → K a') → ∃ v, (∀ w', S w' ∧ T w' → (execOp a.eval o).run P w' = .ok (.value v) w') ∧ K (a.put o.dst v)) : wpSq P ops Q S T ((1, i) :: s) a w := by
  obtain ⟨v, h1, h2⟩ := h (fun a' => wpSq P ops Q S T s a' w) (fun _ h => h)
  exact ⟨o, v, ho, .inl ⟨hw, h1⟩, h2⟩
theorem wpSq_call {i : Nat} {s : List (Nat × Nat)} {a : Act} {w : World} {o : Oper} (ho : ops[i]? = some o) (hw : Region.wanted o (yielded ops a.tmps) = true)
    (h : ∀ K : Act → World → Prop, (∀ a' w', S w' ∧ T w' → wpSq P ops Q S T s a' w' → K a' w') → Oper.wp P o a w K Q) : wpSq P ops Q S T ((2, i) :: s) a w :=
  ⟨o, ho, hw, h (fun a' w' => (S w' ∧ T w') ∧ wpSq P ops Q S T s a' w') (fun _ _ hS h => ⟨hS, h⟩)⟩
theorem wpSq_late {i : Nat} {s : List (Nat × Nat)} {a : Act} {w : World} {o : Oper} (ho : ops[i]? = some o) (hw : Region.wanted o (yielded ops a.tmps) = true)
    (h : ∀ K : Act → World → Prop, (∀ a' w', S w' → wpSq P ops Q S T s a' w' → K a' w') → Oper.wp P o a w K Q) : wpSq P ops Q S T ((3, i) :: s) a w :=
  ⟨o, ho, hw, h (fun a' w' => S w' ∧ wpSq P ops Q S T s a' w') (fun _ _ hS h => ⟨hS, h⟩)⟩
theorem wpSq_done {a : Act} {w : World} (h : Q .normal a w) : wpSq P ops Q S T [] a w := h
end
end Go.Proofs.YtfakimbneenfdaaDoor
namespace Go.Proofs.YtfakimbneenfdaaDoor
open Go.RowKit Go.Great
set_option linter.unusedVariables false
set_option maxRecDepth 100000

/-- What join holds. -/
structure TJoinH (w wr : World) (A : Option Addr) (ts R : List Tr) : Prop where
  tl : TL wr A ts
  ok : okT ts
  res : joinP ts = R
  sum : (ts.map Prod.fst).sum ≤ 8192
  len : ts.length ≤ 4096
  below : Below w.heap.size w wr
theorem TJoinH.next {w wr w1 : World} {A : Option Addr} {ts R : List Tr} (h : TJoinH w wr A ts R) (hb : Below wr.heap.size wr w1) : TJoinH w w1 A ts R := ⟨h.tl.from hb, h.ok, h.res, h.sum, h.len, below_new h.below hb⟩
theorem two_at_end {ts : List Tr} {m : Nat} (h : m + 2 = ts.length) : ∃ us u t, ts = us ++ [u, t] ∧ us.length = m ∧ ts.getD m (0, []) = u ∧ ts.getD (m + 1) (0, []) = t := by
  refine ⟨ts.take m, ts.getD m (0, []), ts.getD (m + 1) (0, []), ?_, by rw [List.length_take]; omega, rfl, rfl⟩
  have h1 : ts = ts.take m ++ ts.drop m := (List.take_append_drop m ts).symm
  have h2 : ts.drop m = [ts.getD m (0, []), ts.getD (m + 1) (0, [])] := by
    rw [List.drop_eq_getElem_cons (by omega), List.drop_eq_getElem_cons (by omega), List.drop_of_length_le (by omega)]
    rw [List.getD_eq_getElem?_getD, List.getD_eq_getElem?_getD, List.getElem?_eq_getElem (by omega), List.getElem?_eq_getElem (by omega)]
    rfl
  rw [← h2]; exact h1
theorem short_join {ts : List Tr} (h : ts.length < 2) : joinP ts = ts := by
  match ts, h with
  | [], _ => rfl
  | [t], _ => rfl
attribute [local go_sem ↓ high] read_at write_at
set_option maxHeartbeats 4000000 in
theorem refJoin_any (ts0 : List Tr) (A0 : Option Addr) (c0 : Nat) (w : World) (hk0 : okT ts0) (hT0 : TL w A0 ts0) (hs0 : (ts0.map Prod.fst).sum ≤ 8192) (hl0 : ts0.length ≤ 4096) (hc0 : ts0.length ≤ c0) (hm0 : c0 ≤ maxLen) :
    Calls Tryd.prog 40 #[.slice A0 ts0.length c0] w fun e w' => (∃ A c, e = .returned (.slice A (joinP ts0).length c) ∧ (joinP ts0).length ≤ c ∧ c ≤ maxLen ∧ TL w' A (joinP ts0)) ∧ Below w.heap.size w w' := by
  obtain ⟨n0, hn0⟩ : ∃ n, Hid (n = ts0.length) := ⟨_, Lib.hid rfl⟩
  obtain ⟨R, hR⟩ : ∃ R, Hid (R = joinP ts0) := ⟨_, Lib.hid rfl⟩
  rw [← hn0.out] at hc0 ⊢
  rw [← hR.out]
  have H0 : Hid (TJoinH w w A0 ts0 R) := Lib.hid ⟨hT0, hk0, hR.out.symm, hs0, hl0, Below.refl _ _⟩
  have hm1 : c0 ≤ 9223372036854775807 := by unfold maxLen at hm0; omega
  have hML : ∀ c : Nat, c ≤ 9223372036854775807 → c ≤ maxLen := fun c h => by unfold maxLen; omega
  clear hk0 hT0 hs0 hl0 hm0
  go_enter Tryd.func40, Tryd.ntmps40
  go_wp2
  go_loopw [0, 3] (fun s0 s3 wr => ∃ (n c : Nat) (A : Option Addr) (ts : List Tr), s0 = .slice A n c ∧ s3 = .int .i64 (n : Int) ∧ n ≤ c ∧ c ≤ 9223372036854775807 ∧ Hid (n = ts.length) ∧ Hid (TJoinH w wr A ts R)) (fun _ s3 _ => (intOf s3).toNat)
  case atStart => exact ⟨n0, c0, A0, ts0, rfl, rfl, hc0, hm1, hn0, H0⟩
  case round =>
    clear H0 hn0 hR hc0 hm1
    obtain ⟨n, c, A, ts, rfl, rfl, hnc, hcm, hn, HJ⟩ := hrel
    by_cases h2 : n < 2
    · have d1 : decide (1 < (n : Int)) = false := by simp; omega
      have HR : Hid (ts = R) := Lib.hid (by rw [← HJ.out.res, short_join (by rw [← hn.out]; exact h2)])
      go_upto_region 2 with fail
      refine wp_region_fk (Below wr.heap.size wr) (.get 0 (.get 1 (.get 2 (.get 3 (.get 4 (.get 5 (.get 6 (.get 7 (.get 8 (.get 9 (.get 10 (.get 11 (.get 12 (.get 13 (.get 14 (.get 15 (.get 16 .done))))))))))))))))) (by kernel_rfl) rfl (by kernel_rfl) (by kernel_rfl) (by intro c a d v w h; cases d <;> exact h) ((Below.refl wr.heap.size wr).drew) (fun Q' hQ => ?_)
      have HS := Lib.hid ((Below.refl wr.heap.size wr).drew)
      have HQ := Lib.hid hQ
      clear hQ
      refine wpFk_get rfl (by rfl) (fun K hK => ?_)
      refine ⟨?_, fun w' hS' => ?_, ?_⟩
      rotate_left
      · go_simp
        try (with_reducible rfl)
      try go_simp
      refine hK _ ?_
      clear hK K
      refine wpFk_get rfl (by rfl) (fun K hK => ?_)
      refine ⟨?_, fun w' hS' => ?_, ?_⟩
      rotate_left
      · go_simp
        try (with_reducible rfl)
      try go_simp
      refine hK _ ?_
      clear hK K
      refine wpFk_get rfl (by rfl) (fun K hK => ?_)
      refine ⟨?_, fun w' hS' => ?_, ?_⟩
      rotate_left
      · go_simp
        try (with_reducible rfl)
      try go_simp
      refine hK _ ?_
      clear hK K
      refine wpFk_skip rfl (by rfl) (fun K hK => ?_)
      try go_simp
      refine hK _ ?_
      clear hK K
      refine wpFk_skip rfl (by rfl) (fun K hK => ?_)
      try go_simp
      refine hK _ ?_
      clear hK K
      refine wpFk_skip rfl (by rfl) (fun K hK => ?_)
      try go_simp
      refine hK _ ?_
      clear hK K
      refine wpFk_skip rfl (by rfl) (fun K hK => ?_)
      try go_simp
      refine hK _ ?_
      clear hK K
      refine wpFk_skip rfl (by rfl) (fun K hK => ?_)
      try go_simp
      refine hK _ ?_
      clear hK K
      refine wpFk_skip rfl (by rfl) (fun K hK => ?_)
      try go_simp
      refine hK _ ?_
      clear hK K
      refine wpFk_skip rfl (by rfl) (fun K hK => ?_)
      try go_simp
      refine hK _ ?_
      clear hK K
      refine wpFk_skip rfl (by rfl) (fun K hK => ?_)
      try go_simp
      refine hK _ ?_
      clear hK K
      refine wpFk_skip rfl (by rfl) (fun K hK => ?_)
      try go_simp
      refine hK _ ?_
      clear hK K
      refine wpFk_skip rfl (by rfl) (fun K hK => ?_)
      try go_simp
      refine hK _ ?_
      clear hK K
      refine wpFk_skip rfl (by rfl) (fun K hK => ?_)
      try go_simp
      refine hK _ ?_
      clear hK K
      refine wpFk_skip rfl (by rfl) (fun K hK => ?_)
      try go_simp
      refine hK _ ?_
      clear hK K
      refine wpFk_skip rfl (by rfl) (fun K hK => ?_)
      try go_simp
      refine hK _ ?_
      clear hK K
      refine wpFk_get rfl (by rfl) (fun K hK => ?_)
      refine ⟨?_, fun w' hS' => ?_, ?_⟩
      rotate_left
      · go_simp
        try (with_reducible rfl)
      try go_simp
      refine hK _ ?_
      clear hK K
      refine wpFk_done ?_
      refine HQ.out _ _ ?_
      go_wp2
      go_ret
      exact ⟨⟨A, c, by rw [← HR.out, ← hn.out]; rfl, by rw [← HR.out, ← hn.out]; exact hnc, hML c hcm, by rw [← HR.out]; exact HJ.out.tl.from HS.out⟩, HJ.out.below.trans (HS.out.mono HJ.out.below.size)⟩
    · obtain ⟨m, hm⟩ : ∃ m, m + 2 = n := ⟨n - 2, by omega⟩
      obtain ⟨m1, hm1⟩ : ∃ m1, m1 = m + 1 := ⟨_, rfl⟩
      obtain ⟨us, u, t, hts, hul, hu, ht⟩ := two_at_end (hm.trans hn.out)
      obtain ⟨ad, rfl⟩ := HJ.out.tl.some HJ.out.ok (by rw [← hn.out]; omega)
      have d1 : decide (1 < (n : Int)) = true := by simp; omega
      have e1 : (n : Int) - 1 = (m1 : Int) := by omega
      have e2 : (n : Int) - 2 = (m : Int) := by omega
      have b1 : (m1 : Int) < (n : Int) := by omega
      have b2 : (m : Int) < (n : Int) := by omega
      have b3 : (m : Int) ≤ (n : Int) := by omega
      have b4 : (m : Int) ≤ (c : Int) := by omega
      have b5 : (n : Int) ≤ (c : Int) := by omega
      have CC : Hid (∀ W, Below wr.heap.size wr W → W.cell? (ad.add (m1 * 33)) = some (.int .i64 (t.1 : Int)) ∧ W.cell? (ad.add (m * 33)) = some (.int .i64 (u.1 : Int))) := Lib.hid fun W hW => ⟨by
        rw [← ht, hm1]; exact (HJ.out.tl.from hW).size HJ.out.ok (m + 1) (by rw [← hn.out]; omega), by
        rw [← hu]; exact (HJ.out.tl.from hW).size HJ.out.ok m (by rw [← hn.out]; omega)⟩
      have hw1 : IntKind.i64.wrap (m1 : Int) = (m1 : Int) := by rw [IntKind.wrap_i64]; omega
      have hw2 : IntKind.i64.wrap (m : Int) = (m : Int) := by rw [IntKind.wrap_i64]; omega
      have HM := Lib.hid (And.intro hm hm1)
      have HT : Hid (ts = us ++ [u, t] ∧ us.length = m ∧ ts.getD m (0, []) = u ∧ ts.getD (m + 1) (0, []) = t) := Lib.hid ⟨hts, hul, hu, ht⟩
      clear hm hm1 hts hul hu ht
      by_cases hd : t.1 = u.1
      · have d2 : ((t.1 : Int) == (u.1 : Int)) = true := by simp [hd]
        go_upto_region 2 with fail
        refine wp_region_fk (Below wr.heap.size wr) (.get 0 (.get 1 (.get 2 (.get 3 (.get 4 (.get 5 (.get 6 (.get 7 (.get 8 (.get 9 (.get 10 (.get 11 (.get 12 (.get 13 (.get 14 (.get 15 (.get 16 .done))))))))))))))))) (by kernel_rfl) rfl (by kernel_rfl) (by kernel_rfl) (by intro c a d v w h; cases d <;> exact h) ((Below.refl wr.heap.size wr).drew) (fun Q' hQ => ?_)
        have HS := Lib.hid ((Below.refl wr.heap.size wr).drew)
        have HQ := Lib.hid hQ
        clear hQ
        refine wpFk_get rfl (by rfl) (fun K hK => ?_)
        refine ⟨?_, fun w' hS' => ?_, ?_⟩
        rotate_left
        · go_simp
          try (with_reducible rfl)
        try go_simp
        refine hK _ ?_
        clear hK K
        refine wpFk_get rfl (by rfl) (fun K hK => ?_)
        refine ⟨?_, fun w' hS' => ?_, ?_⟩
        rotate_left
        · go_simp
          try (with_reducible rfl)
        try go_simp
        refine hK _ ?_
        clear hK K
        refine wpFk_get rfl (by rfl) (fun K hK => ?_)
        refine ⟨?_, fun w' hS' => ?_, ?_⟩
        rotate_left
        · go_simp
          try (with_reducible rfl)
        try go_simp
        refine hK _ ?_
        clear hK K
        refine wpFk_get rfl (by rfl) (fun K hK => ?_)
        refine ⟨?_, fun w' hS' => ?_, ?_⟩
        rotate_left
        · go_simp
          try (with_reducible rfl)
        try go_simp
        refine hK _ ?_
        clear hK K
        refine wpFk_get rfl (by rfl) (fun K hK => ?_)
        refine ⟨?_, fun w' hS' => ?_, ?_⟩
        rotate_left
        · go_simp
          try (with_reducible rfl)
        try go_simp
        refine hK _ ?_
        clear hK K
        refine wpFk_get rfl (by rfl) (fun K hK => ?_)
        refine ⟨?_, fun w' hS' => ?_, ?_⟩
        rotate_left
        · go_simp
          try (with_reducible rfl)
        try go_simp
        refine hK _ ?_
        clear hK K
        refine wpFk_get rfl (by rfl) (fun K hK => ?_)
        refine ⟨?_, fun w' hS' => ?_, ?_⟩
        rotate_left
        · go_simp
          try (with_reducible rfl)
        try go_simp
        refine hK _ ?_
        clear hK K
        refine wpFk_get rfl (by rfl) (fun K hK => ?_)
        refine ⟨?_, fun w' hS' => ?_, ?_⟩
        rotate_left
        · go_simp
          try (with_reducible rfl)
        try go_simp
        refine hK _ ?_
        clear hK K
        refine wpFk_get rfl (by rfl) (fun K hK => ?_)
        refine ⟨?_, fun w' hS' => ?_, ?_⟩
        rotate_left
        · have c1 : w'.cell? (ad.add (m1 * 33)) = some (.int .i64 (t.1 : Int)) := (CC.out _ hS').1
          have c2 : w'.cell? (ad.add (m * 33)) = some (.int .i64 (u.1 : Int)) := (CC.out _ hS').2
          go_simp
          try (with_reducible rfl)
        try go_simp
        refine hK _ ?_
        clear hK K
        refine wpFk_get rfl (by rfl) (fun K hK => ?_)
        refine ⟨?_, fun w' hS' => ?_, ?_⟩
        rotate_left
        · go_simp
          try (with_reducible rfl)
        try go_simp
        refine hK _ ?_
        clear hK K
        refine wpFk_get rfl (by rfl) (fun K hK => ?_)
        refine ⟨?_, fun w' hS' => ?_, ?_⟩
        rotate_left
        · go_simp
          try (with_reducible rfl)
        try go_simp
        refine hK _ ?_
        clear hK K
        refine wpFk_get rfl (by rfl) (fun K hK => ?_)
        refine ⟨?_, fun w' hS' => ?_, ?_⟩
        rotate_left
        · go_simp
          try (with_reducible rfl)
        try go_simp
        refine hK _ ?_
        clear hK K
        refine wpFk_get rfl (by rfl) (fun K hK => ?_)
        refine ⟨?_, fun w' hS' => ?_, ?_⟩
        rotate_left
        · go_simp
          try (with_reducible rfl)
        try go_simp
        refine hK _ ?_
        clear hK K
        refine wpFk_get rfl (by rfl) (fun K hK => ?_)
        refine ⟨?_, fun w' hS' => ?_, ?_⟩
        rotate_left
        · go_simp
          try (with_reducible rfl)
        try go_simp
        refine hK _ ?_
        clear hK K
        refine wpFk_get rfl (by rfl) (fun K hK => ?_)
        refine ⟨?_, fun w' hS' => ?_, ?_⟩
        rotate_left
        · have c1 : w'.cell? (ad.add (m1 * 33)) = some (.int .i64 (t.1 : Int)) := (CC.out _ hS').1
          have c2 : w'.cell? (ad.add (m * 33)) = some (.int .i64 (u.1 : Int)) := (CC.out _ hS').2
          go_simp
          try (with_reducible rfl)
        try go_simp
        refine hK _ ?_
        clear hK K
        refine wpFk_get rfl (by rfl) (fun K hK => ?_)
        refine ⟨?_, fun w' hS' => ?_, ?_⟩
        rotate_left
        · go_simp
          try (with_reducible rfl)
        try go_simp
        refine hK _ ?_
        clear hK K
        refine wpFk_get rfl (by rfl) (fun K hK => ?_)
        refine ⟨?_, fun w' hS' => ?_, ?_⟩
        rotate_left
        · go_simp
          try (with_reducible rfl)
        try go_simp
        refine hK _ ?_
        clear hK K
        refine wpFk_done ?_
        refine HQ.out _ _ ?_
        go_upto_region 3 with fail
        obtain ⟨d, hdd⟩ : ∃ d, Hid (d = 2 * u.1) := ⟨_, Lib.hid rfl⟩
        obtain ⟨U, hU⟩ : ∃ U, Hid (U = nums .u8 u.2) := ⟨_, Lib.hid rfl⟩
        obtain ⟨V, hV⟩ : ∃ V, Hid (V = nums .u8 t.2) := ⟨_, Lib.hid rfl⟩
        obtain ⟨Z, hZ⟩ : ∃ Z, Hid (Z = nums .u8 (nodeL u.2 t.2)) := ⟨_, Lib.hid rfl⟩
        have hok : okT (us ++ [u, t]) := by rw [← HT.out.1]; exact HJ.out.ok
        have HU : Hid (okT us) := Lib.hid hok.left
        have iu := hok.right u (by simp)
        have it := hok.right t (by simp)
        have X1 : Hid (∀ W, Calls Tryd.prog 44 #[.agg U, .agg V] W fun ev w' => ev = .returned (.agg Z) ∧ Below W.heap.size W w') := Lib.hid fun W => by
          rw [hU.out, hV.out, hZ.out]; exact refNode_any _ _ iu.1 it.1 W
        have zZ : Hid (Z.size = 32) := Lib.hid (by rw [hZ.out, nums_size]; exact (nodeL_is _ _).1)
        have TU : Hid (∀ W, Below wr.drew.heap.size wr.drew W → TL W (some ad) us) := Lib.hid fun W hW => by
          have h1 : TL W (some ad) ts := TL.from (w := wr.drew) HJ.out.tl hW
          rw [HT.out.1] at h1
          exact h1.left
        have RU : Hid (∀ W, Below wr.drew.heap.size wr.drew W → (readAt (.pointer (some ⟨(ad.add (m * 33)).block, (ad.add (m * 33)).off + 1, none⟩))).run Tryd.prog W = .ok (.agg U) W ∧ (readAt (.pointer (some ⟨(ad.add (m1 * 33)).block, (ad.add (m1 * 33)).off + 1, none⟩))).run Tryd.prog W = .ok (.agg V) W) := Lib.hid fun W hW => by
          have h1 : TL W (some ad) ts := TL.from (w := wr.drew) HJ.out.tl hW
          have h3 := h1.hash HJ.out.ok m (by rw [← hn.out, ← HM.out.1]; omega)
          have h4 := h1.hash HJ.out.ok m1 (by rw [← hn.out, ← HM.out.1, HM.out.2]; omega)
          rw [HT.out.2.2.1] at h3
          rw [HM.out.2, HT.out.2.2.2] at h4
          rw [← add_of_add] at h3 h4
          exact ⟨by rw [hU.out]; exact h3, by rw [hV.out, HM.out.2]; exact h4⟩
        have CC2 : Hid (∀ W, Below wr.drew.heap.size wr.drew W → W.cell? (ad.add (m1 * 33)) = some (.int .i64 (t.1 : Int)) ∧ W.cell? (ad.add (m * 33)) = some (.int .i64 (u.1 : Int))) := Lib.hid fun W hW => CC.out W ((Below.refl wr.heap.size wr).drew.trans hW)
        have HX : Hid (okT [(d, nodeL u.2 t.2)]) := Lib.hid (okT.one (nodeL_is _ _))
        have HOK : Hid (okT (us ++ [(d, nodeL u.2 t.2)])) := Lib.hid (HU.out.app HX.out)
        have HL2 : Hid ((us ++ [(d, nodeL u.2 t.2)]).length = m1) := Lib.hid (by rw [List.length_append, HT.out.2.1, HM.out.2]; rfl)
        have HRES : Hid (joinP (us ++ [(d, nodeL u.2 t.2)]) = R) := Lib.hid (by rw [← HJ.out.res, HT.out.1, joinP_two us u t hd, hd, hdd.out])
        have hsum : us.map Prod.fst |>.sum |>.add (u.1 + t.1) |> (· ≤ 8192) := by
          have := HJ.out.sum
          rw [HT.out.1, List.map_append, List.sum_append] at this
          simpa using this
        have HSUM : Hid (((us ++ [(d, nodeL u.2 t.2)]).map Prod.fst).sum ≤ 8192) := Lib.hid (by
          rw [List.map_append, List.sum_append]
          have h1 : (us.map Prod.fst).sum + (u.1 + t.1) ≤ 8192 := hsum
          show (us.map Prod.fst).sum + (d + 0) ≤ 8192
          rw [hdd.out]; omega)
        have hum : u.1 ≤ 8192 := by
          have h1 : (us.map Prod.fst).sum + (u.1 + t.1) ≤ 8192 := hsum
          omega
        have HLEN : Hid ((us ++ [(d, nodeL u.2 t.2)]).length ≤ 4096) := Lib.hid (by
          have := HJ.out.len
          rw [HL2.out, HM.out.2]
          rw [← hn.out, ← HM.out.1] at this
          omega)
        have HM4 : Hid (([] : List Tr).length + m ≤ 8192) := Lib.hid (by
          have := HJ.out.len
          rw [← hn.out, ← HM.out.1] at this
          show 0 + m ≤ 8192
          omega)
        have HM27 : Hid (us.length + 1 ≤ 8192) := Lib.hid (by
          have := HM4.out
          rw [HT.out.2.1]
          have h2 := HJ.out.len
          rw [← hn.out, ← HM.out.1] at h2
          omega)
        have hMM : ∀ c : Nat, c ≤ maxLen → c ≤ 9223372036854775807 := fun c h => by unfold maxLen at h; omega
        have e3 : 2 * (u.1 : Int) = (d : Int) := by rw [hdd.out]; omega
        have hw3 : IntKind.i64.wrap (d : Int) = (d : Int) := by have := hdd.out; rw [IntKind.wrap_i64]; omega
        clear hok iu it hsum
        clear HS HQ
        refine wp_region_fk (Below wr.drew.heap.size wr.drew) (.get 0 (.get 1 (.get 2 (.get 3 (.get 5 (.get 6 (.get 7 (.get 8 (.get 9 (.get 10 (.get 11 (.get 12 (.get 13 (.get 14 (.get 15 (.get 16 (.get 17 (.get 18 (.get 19 (.get 20 (.get 21 (.get 22 (.get 23 (.call 4 (.call 24 (.get 25 (.call 26 (.call 27 (.get 28 .done))))))))))))))))))))))))))))) (by kernel_rfl) rfl (by kernel_rfl) (by kernel_rfl) (by intro c a d v w h; cases d <;> exact h) ((Below.refl wr.drew.heap.size wr.drew).drew) (fun Q' hQ => ?_)
        have HS := Lib.hid ((Below.refl wr.drew.heap.size wr.drew).drew)
        have HQ := Lib.hid hQ
        clear hQ
        refine wpFk_get rfl (by rfl) (fun K hK => ?_)
        refine ⟨?_, fun w' hS' => ?_, ?_⟩
        rotate_left
        · go_simp
          try (with_reducible rfl)
        try go_simp
        refine hK _ ?_
        clear hK K
        refine wpFk_get rfl (by rfl) (fun K hK => ?_)
        refine ⟨?_, fun w' hS' => ?_, ?_⟩
        rotate_left
        · go_simp
          try (with_reducible rfl)
        try go_simp
        refine hK _ ?_
        clear hK K
        refine wpFk_get rfl (by rfl) (fun K hK => ?_)
        refine ⟨?_, fun w' hS' => ?_, ?_⟩
        rotate_left
        · go_simp
          try (with_reducible rfl)
        try go_simp
        refine hK _ ?_
        clear hK K
        refine wpFk_get rfl (by rfl) (fun K hK => ?_)
        refine ⟨?_, fun w' hS' => ?_, ?_⟩
        rotate_left
        · go_simp
          try (with_reducible rfl)
        try go_simp
        refine hK _ ?_
        clear hK K
        refine wpFk_get rfl (by rfl) (fun K hK => ?_)
        refine ⟨?_, fun w' hS' => ?_, ?_⟩
        rotate_left
        · go_simp
          try (with_reducible rfl)
        try go_simp
        refine hK _ ?_
        clear hK K
        refine wpFk_get rfl (by rfl) (fun K hK => ?_)
        refine ⟨?_, fun w' hS' => ?_, ?_⟩
        rotate_left
        · go_simp
          try (with_reducible rfl)
        try go_simp
        refine hK _ ?_
        clear hK K
        refine wpFk_get rfl (by rfl) (fun K hK => ?_)
        refine ⟨?_, fun w' hS' => ?_, ?_⟩
        rotate_left
        · go_simp
          try (with_reducible rfl)
        try go_simp
        refine hK _ ?_
        clear hK K
        refine wpFk_get rfl (by rfl) (fun K hK => ?_)
        refine ⟨?_, fun w' hS' => ?_, ?_⟩
        rotate_left
        · go_simp
          try (with_reducible rfl)
        try go_simp
        refine hK _ ?_
        clear hK K
        refine wpFk_get rfl (by rfl) (fun K hK => ?_)
        refine ⟨?_, fun w' hS' => ?_, ?_⟩
        rotate_left
        · go_simp
          try (with_reducible rfl)
        try go_simp
        refine hK _ ?_
        clear hK K
        refine wpFk_get rfl (by rfl) (fun K hK => ?_)
        refine ⟨?_, fun w' hS' => ?_, ?_⟩
        rotate_left
        · have c1 : w'.cell? (ad.add (m1 * 33)) = some (.int .i64 (t.1 : Int)) := (CC2.out _ hS').1
          have c2 : w'.cell? (ad.add (m * 33)) = some (.int .i64 (u.1 : Int)) := (CC2.out _ hS').2
          go_simp
          try (with_reducible rfl)
        try go_simp
        refine hK _ ?_
        clear hK K
        refine wpFk_get rfl (by rfl) (fun K hK => ?_)
        refine ⟨?_, fun w' hS' => ?_, ?_⟩
        rotate_left
        · go_simp
          try (with_reducible rfl)
        try go_simp
        refine hK _ ?_
        clear hK K
        refine wpFk_get rfl (by rfl) (fun K hK => ?_)
        refine ⟨?_, fun w' hS' => ?_, ?_⟩
        rotate_left
        · go_simp
          try (with_reducible rfl)
        try go_simp
        refine hK _ ?_
        clear hK K
        refine wpFk_get rfl (by rfl) (fun K hK => ?_)
        refine ⟨?_, fun w' hS' => ?_, ?_⟩
        rotate_left
        · go_simp
          try (with_reducible rfl)
        try go_simp
        refine hK _ ?_
        clear hK K
        refine wpFk_get rfl (by rfl) (fun K hK => ?_)
        refine ⟨?_, fun w' hS' => ?_, ?_⟩
        rotate_left
        · go_simp
          try (with_reducible rfl)
        try go_simp
        refine hK _ ?_
        clear hK K
        refine wpFk_get rfl (by rfl) (fun K hK => ?_)
        refine ⟨?_, fun w' hS' => ?_, ?_⟩
        rotate_left
        · go_simp
          try (with_reducible rfl)
        try go_simp
        refine hK _ ?_
        clear hK K
        refine wpFk_get rfl (by rfl) (fun K hK => ?_)
        refine ⟨?_, fun w' hS' => ?_, ?_⟩
        rotate_left
        · go_simp
          try (with_reducible rfl)
        try go_simp
        refine hK _ ?_
        clear hK K
        refine wpFk_get rfl (by rfl) (fun K hK => ?_)
        refine ⟨_, fun w' hS' => get_load rfl rfl (RU.out _ hS').1, ?_⟩
        try go_simp
        refine hK _ ?_
        clear hK K
        refine wpFk_get rfl (by rfl) (fun K hK => ?_)
        refine ⟨?_, fun w' hS' => ?_, ?_⟩
        rotate_left
        · go_simp
          try (with_reducible rfl)
        try go_simp
        refine hK _ ?_
        clear hK K
        refine wpFk_get rfl (by rfl) (fun K hK => ?_)
        refine ⟨?_, fun w' hS' => ?_, ?_⟩
        rotate_left
        · go_simp
          try (with_reducible rfl)
        try go_simp
        refine hK _ ?_
        clear hK K
        refine wpFk_get rfl (by rfl) (fun K hK => ?_)
        refine ⟨?_, fun w' hS' => ?_, ?_⟩
        rotate_left
        · go_simp
          try (with_reducible rfl)
        try go_simp
        refine hK _ ?_
        clear hK K
        refine wpFk_get rfl (by rfl) (fun K hK => ?_)
        refine ⟨?_, fun w' hS' => ?_, ?_⟩
        rotate_left
        · go_simp
          try (with_reducible rfl)
        try go_simp
        refine hK _ ?_
        clear hK K
        refine wpFk_get rfl (by rfl) (fun K hK => ?_)
        refine ⟨?_, fun w' hS' => ?_, ?_⟩
        rotate_left
        · go_simp
          try (with_reducible rfl)
        try go_simp
        refine hK _ ?_
        clear hK K
        refine wpFk_get rfl (by rfl) (fun K hK => ?_)
        refine ⟨_, fun w' hS' => get_load rfl rfl (RU.out _ hS').2, ?_⟩
        try go_simp
        refine hK _ ?_
        clear hK K
        refine wpFk_call rfl (by rfl) (fun K hK => ?_)
        refine wp_appendT (.const (.slice none 0 0)) (.tmp 26) rfl wr.drew.heap.size (.slice none 0 0) [] us rfl (ownT.start _ _) ad m c rfl HT.out.2.1.symm HU.out (TU.out _ HS.out) HM4.out HS.out.size ?_
        intro v1 w4 ho hg
        have HO : Hid (ownT w4 wr.drew.heap.size v1 us) := Lib.hid ho
        replace HS := Lib.hid (HS.out.grown hg HS.out.size (by intro k hk; simp [Value.ownBlock] at hk))
        clear ho hg
        try go_simp
        refine hK _ _ HS.out ?_
        clear hK K
        refine wpFk_call rfl (by rfl) (fun K hK => ?_)
        go_simp
        go_at_call 44
        refine (X1.out _).mono ?_
        rintro e w5 ⟨rfl, hb⟩
        replace HO : Hid (ownT w5 wr.drew.heap.size v1 us) := Lib.hid (own_below HO.out hb)
        replace HS := Lib.hid (below_new HS.out hb)
        clear hb
        refine hK _ _ HS.out ?_
        clear hK K
        refine wpFk_get rfl (by rfl) (fun K hK => ?_)
        refine ⟨_, fun w' hS' => get_buildT rfl rfl rfl zZ.out, ?_⟩
        try go_simp
        refine hK _ ?_
        clear hK K
        refine wpFk_call rfl (by rfl) (fun K hK => ?_)
        refine wp_buildTree (.tmp 48) rfl (treeV d Z) rfl (treeV_size _ _ zZ.out) ?_
        intro w6 hr hb
        have HRt := Lib.hid hr
        replace HO : Hid (ownT w6 wr.drew.heap.size v1 us) := Lib.hid (own_below HO.out hb)
        replace HS := Lib.hid (below_new HS.out hb)
        clear hr hb
        try go_simp
        refine hK _ _ HS.out ?_
        clear hK K
        refine wpFk_call rfl (by rfl) (fun K hK => ?_)
        refine wp_appendT (.tmp 27) (.tmp 49) rfl wr.drew.heap.size v1 us [(d, nodeL u.2 t.2)] rfl HO.out _ 1 1 rfl rfl HX.out (TL.row (by rw [← hZ.out]; exact HRt.out)) HM27.out HS.out.size ?_
        intro v2 w7 ho hg
        replace HS := Lib.hid (HS.out.grown hg HS.out.size (fun k hk => (HO.out.lt k hk).1))
        obtain ⟨A2, c2, hv2, hc2, hm2, htl⟩ := ho.lead
        rw [HL2.out] at hv2 hc2
        subst hv2
        have HTL := Lib.hid (And.intro hc2 (And.intro hm2 htl))
        clear ho hg hc2 hm2 htl
        try go_simp
        refine hK _ _ HS.out ?_
        clear hK K
        refine wpFk_get rfl (by rfl) (fun K hK => ?_)
        refine ⟨?_, fun w' hS' => ?_, ?_⟩
        rotate_left
        · go_simp
          try (with_reducible rfl)
        try go_simp
        refine hK _ ?_
        clear hK K
        refine wpFk_done ?_
        refine HQ.out _ _ ?_
        go_wp2
        go_roundw
        case rel => exact ⟨m1, c2, A2, us ++ [(d, nodeL u.2 t.2)], rfl, rfl, HTL.out.1, hMM c2 HTL.out.2.1, Lib.hid HL2.out.symm, Lib.hid ⟨HTL.out.2.2, HOK.out, HRES.out, HSUM.out, HLEN.out, HJ.out.below.drew.trans (HS.out.mono HJ.out.below.size)⟩⟩
        case measure => simp [intOf]; omega
      · have d2 : ((t.1 : Int) == (u.1 : Int)) = false := by simp; omega
        go_upto_region 2 with fail
        refine wp_region_fk (Below wr.heap.size wr) (.get 0 (.get 1 (.get 2 (.get 3 (.get 4 (.get 5 (.get 6 (.get 7 (.get 8 (.get 9 (.get 10 (.get 11 (.get 12 (.get 13 (.get 14 (.get 15 (.get 16 .done))))))))))))))))) (by kernel_rfl) rfl (by kernel_rfl) (by kernel_rfl) (by intro c a d v w h; cases d <;> exact h) ((Below.refl wr.heap.size wr).drew) (fun Q' hQ => ?_)
        have HS := Lib.hid ((Below.refl wr.heap.size wr).drew)
        have HQ := Lib.hid hQ
        clear hQ
        refine wpFk_get rfl (by rfl) (fun K hK => ?_)
        refine ⟨?_, fun w' hS' => ?_, ?_⟩
        rotate_left
        · go_simp
          try (with_reducible rfl)
        try go_simp
        refine hK _ ?_
        clear hK K
        refine wpFk_get rfl (by rfl) (fun K hK => ?_)
        refine ⟨?_, fun w' hS' => ?_, ?_⟩
        rotate_left
        · go_simp
          try (with_reducible rfl)
        try go_simp
        refine hK _ ?_
        clear hK K
        refine wpFk_get rfl (by rfl) (fun K hK => ?_)
        refine ⟨?_, fun w' hS' => ?_, ?_⟩
        rotate_left
        · go_simp
          try (with_reducible rfl)
        try go_simp
        refine hK _ ?_
        clear hK K
        refine wpFk_get rfl (by rfl) (fun K hK => ?_)
        refine ⟨?_, fun w' hS' => ?_, ?_⟩
        rotate_left
        · go_simp
          try (with_reducible rfl)
        try go_simp
        refine hK _ ?_
        clear hK K
        refine wpFk_get rfl (by rfl) (fun K hK => ?_)
        refine ⟨?_, fun w' hS' => ?_, ?_⟩
        rotate_left
        · go_simp
          try (with_reducible rfl)
        try go_simp
        refine hK _ ?_
        clear hK K
        refine wpFk_get rfl (by rfl) (fun K hK => ?_)
        refine ⟨?_, fun w' hS' => ?_, ?_⟩
        rotate_left
        · go_simp
          try (with_reducible rfl)
        try go_simp
        refine hK _ ?_
        clear hK K
        refine wpFk_get rfl (by rfl) (fun K hK => ?_)
        refine ⟨?_, fun w' hS' => ?_, ?_⟩
        rotate_left
        · go_simp
          try (with_reducible rfl)
        try go_simp
        refine hK _ ?_
        clear hK K
        refine wpFk_get rfl (by rfl) (fun K hK => ?_)
        refine ⟨?_, fun w' hS' => ?_, ?_⟩
        rotate_left
        · go_simp
          try (with_reducible rfl)
        try go_simp
        refine hK _ ?_
        clear hK K
        refine wpFk_get rfl (by rfl) (fun K hK => ?_)
        refine ⟨?_, fun w' hS' => ?_, ?_⟩
        rotate_left
        · have c1 : w'.cell? (ad.add (m1 * 33)) = some (.int .i64 (t.1 : Int)) := (CC.out _ hS').1
          have c2 : w'.cell? (ad.add (m * 33)) = some (.int .i64 (u.1 : Int)) := (CC.out _ hS').2
          go_simp
          try (with_reducible rfl)
        try go_simp
        refine hK _ ?_
        clear hK K
        refine wpFk_get rfl (by rfl) (fun K hK => ?_)
        refine ⟨?_, fun w' hS' => ?_, ?_⟩
        rotate_left
        · go_simp
          try (with_reducible rfl)
        try go_simp
        refine hK _ ?_
        clear hK K
        refine wpFk_get rfl (by rfl) (fun K hK => ?_)
        refine ⟨?_, fun w' hS' => ?_, ?_⟩
        rotate_left
        · go_simp
          try (with_reducible rfl)
        try go_simp
        refine hK _ ?_
        clear hK K
        refine wpFk_get rfl (by rfl) (fun K hK => ?_)
        refine ⟨?_, fun w' hS' => ?_, ?_⟩
        rotate_left
        · go_simp
          try (with_reducible rfl)
        try go_simp
        refine hK _ ?_
        clear hK K
        refine wpFk_get rfl (by rfl) (fun K hK => ?_)
        refine ⟨?_, fun w' hS' => ?_, ?_⟩
        rotate_left
        · go_simp
          try (with_reducible rfl)
        try go_simp
        refine hK _ ?_
        clear hK K
        refine wpFk_get rfl (by rfl) (fun K hK => ?_)
        refine ⟨?_, fun w' hS' => ?_, ?_⟩
        rotate_left
        · go_simp
          try (with_reducible rfl)
        try go_simp
        refine hK _ ?_
        clear hK K
        refine wpFk_get rfl (by rfl) (fun K hK => ?_)
        refine ⟨?_, fun w' hS' => ?_, ?_⟩
        rotate_left
        · have c1 : w'.cell? (ad.add (m1 * 33)) = some (.int .i64 (t.1 : Int)) := (CC.out _ hS').1
          have c2 : w'.cell? (ad.add (m * 33)) = some (.int .i64 (u.1 : Int)) := (CC.out _ hS').2
          go_simp
          try (with_reducible rfl)
        try go_simp
        refine hK _ ?_
        clear hK K
        refine wpFk_get rfl (by rfl) (fun K hK => ?_)
        refine ⟨?_, fun w' hS' => ?_, ?_⟩
        rotate_left
        · go_simp
          try (with_reducible rfl)
        try go_simp
        refine hK _ ?_
        clear hK K
        refine wpFk_get rfl (by rfl) (fun K hK => ?_)
        refine ⟨?_, fun w' hS' => ?_, ?_⟩
        rotate_left
        · go_simp
          try (with_reducible rfl)
        try go_simp
        refine hK _ ?_
        clear hK K
        refine wpFk_done ?_
        refine HQ.out _ _ ?_
        go_wp2
        go_ret
        have HR : Hid (ts = R) := Lib.hid (by rw [← HJ.out.res, HT.out.1, joinP_unlike us u t hd])
        exact ⟨⟨some ad, c, by rw [← HR.out, ← hn.out]; rfl, by rw [← HR.out, ← hn.out]; exact hnc, hML c hcm, by rw [← HR.out]; exact HJ.out.tl.from HS.out⟩, HJ.out.below.trans (HS.out.mono HJ.out.below.size)⟩
end Go.Proofs.YtfakimbneenfdaaDoor
namespace Go.Proofs.YtfakimbneenfdaaDoor
open Go.RowKit Go.Great
set_option linter.unusedVariables false
set_option maxRecDepth 100000

/-- What close holds. -/
structure CloseH (w wr : World) (s : Nat) (A : Option Addr) (k c : Nat) (hs : List (List Int)) : Prop where
  out : Row wr w.heap.size 24 #[.int .i64 0, .slice none 0 0]
  rg : Row wr (w.heap.size + 1) 24 #[.int .i64 (s : Int), .slice A k c]
  own : wr.ownsRow (w.heap.size + 2) 31 32 (.slice A k c) k (cellsL hs)
  below : Below w.heap.size w wr
  size : w.heap.size + 2 ≤ wr.heap.size
theorem CloseH.start (w : World) : CloseH w ((w.alloc (.cells #[.int .i64 0, .slice none 0 0] 24)).alloc (.cells #[.int .i64 0, .slice none 0 0] 24)) 0 none 0 0 [] :=
  ⟨(Row.made _ _ _).alloc _, Row.made2 _ _ _ _, ⟨rfl, .inl ⟨rfl, rfl⟩⟩, ((Below.refl _ _).alloc (Nat.le_refl _) _).alloc (by simp) _, by simp⟩
/-- A tree's hash is put behind. -/
theorem CloseH.step {w wr w2 : World} {s s' : Nat} {A A' : Option Addr} {k k' c c' : Nat} {hs hs' : List (List Int)} (h : CloseH w wr s A k c hs) (ho : w2.ownsRow (w.heap.size + 2) 31 32 (.slice A' k' c') k' (cellsL hs')) (hg : wr.grownBy w2 (Value.slice A k c).ownBlock) :
    Row w2 (w.heap.size + 1) 24 #[.int .i64 (s : Int), .slice A k c] ∧ CloseH w ((w2.setCell ⟨w.heap.size + 1, 0, none⟩ (.int .i64 (s' : Int))).setCell ⟨w.heap.size + 1, 1, none⟩ (.slice A' k' c')) s' A' k' c' hs' := by
  have hne : ∀ b, b < w.heap.size + 2 → some b ≠ (Value.slice A k c).ownBlock := fun b hb e => by have := h.own.lt b e.symm; omega
  have r0 := h.out.grown hg (hne _ (by omega))
  have r1 := h.rg.grown hg (hne _ (by omega))
  have hb : Below w.heap.size w w2 := h.below.grown hg (by have := h.size; omega) (fun b e => by have := h.own.lt b e; omega)
  have hh : ∀ b, w.heap.size + 2 ≤ b → b < w2.heap.size → ((w2.setCell ⟨w.heap.size + 1, 0, none⟩ (.int .i64 (s' : Int))).setCell ⟨w.heap.size + 1, 1, none⟩ (.slice A' k' c')).heap[b]? = w2.heap[b]? := fun b hb _ =>
    (Below.heap_setCell _ _ _ b (by show b ≠ w.heap.size + 1; omega)).trans (Below.heap_setCell _ _ _ b (by show b ≠ w.heap.size + 1; omega))
  refine ⟨r1, (r0.far (by show w.heap.size ≠ w.heap.size + 1; omega) _).far (by show w.heap.size ≠ w.heap.size + 1; omega) _, (r1.put 0 _).put 1 _, own_at ho hh, (hb.setCell (by show w.heap.size ≤ w.heap.size + 1; omega) _).setCell (by show w.heap.size ≤ w.heap.size + 1; omega) _, ?_⟩
  have e := hg.size
  have := h.size
  simp; omega
theorem take_sum {ts : List Tr} {k : Nat} (h : k < ts.length) : ((ts.take (k + 1)).map Prod.fst).sum = ((ts.take k).map Prod.fst).sum + (ts.getD k (0, [])).1 ∧ (ts.take (k + 1)).map Prod.snd = (ts.take k).map Prod.snd ++ [(ts.getD k (0, [])).2] := by
  have e : ts.take (k + 1) = ts.take k ++ [ts.getD k (0, [])] := by
    rw [List.take_succ_eq_append_getElem h, List.getD_eq_getElem?_getD, List.getElem?_eq_getElem h]; rfl
  rw [e]
  simp
theorem sum_take_le (ts : List Tr) (k : Nat) : ((ts.take k).map Prod.fst).sum ≤ (ts.map Prod.fst).sum := by
  conv => rhs; rw [← List.take_append_drop k ts, List.map_append, List.sum_append]
  omega
attribute [local go_sem ↓ high] read_at write_at
set_option maxHeartbeats 4000000 in
theorem refClose_any (ts : List Tr) (A0 : Option Addr) (c0 : Nat) (w : World) (hk0 : okT ts) (hT0 : TL w A0 ts) (hs0 : (ts.map Prod.fst).sum ≤ 8192) (hl0 : ts.length ≤ 4096) (hc0 : ts.length ≤ c0) :
    Calls Tryd.prog 41 #[.slice A0 ts.length c0] w fun e w' => ∃ A c, e = .returned (.agg #[.int .i64 ((ts.map Prod.fst).sum : Nat), .slice A ts.length c]) ∧ OwnL w w' (.slice A ts.length c) ts.length (ts.map Prod.snd) := by
  obtain ⟨n, hn⟩ : ∃ n, Hid (n = ts.length) := ⟨_, Lib.hid rfl⟩
  obtain ⟨S, hS⟩ : ∃ S, Hid (S = (ts.map Prod.fst).sum) := ⟨_, Lib.hid rfl⟩
  rw [← hn.out] at hc0 hl0 ⊢
  rw [← hS.out] at hs0 ⊢
  have H0 := Lib.hid (CloseH.start w)
  have HT := Lib.hid hT0
  have HK := Lib.hid hk0
  have HSM := Lib.hid hs0
  clear hT0 hk0 hs0
  go_enter Tryd.func41, Tryd.ntmps41
  go_wp2
  go_loopw [4] (fun s4 wr => ∃ (k c s : Nat) (A : Option Addr), s4 = .int .i64 (k : Int) ∧ k ≤ n ∧ Hid (s = ((ts.take k).map Prod.fst).sum) ∧ Hid (CloseH w wr s A k c ((ts.take k).map Prod.snd))) (fun s4 _ => (n - intOf s4).toNat)
  case atStart => exact ⟨0, 0, 0, none, rfl, Nat.zero_le _, Lib.hid rfl, H0⟩
  case round =>
    clear H0
    obtain ⟨k, c, s, A, rfl, hk, hs, HC⟩ := hrel
    by_cases hlt : k < n
    · have hkl : k < ts.length := by rw [← hn.out]; exact hlt
      obtain ⟨ad, rfl⟩ := HT.out.some HK.out (by omega)
      obtain ⟨t, ht⟩ : ∃ t, Hid (t = ts.getD k (0, [])) := ⟨_, Lib.hid rfl⟩
      obtain ⟨V, hV⟩ : ∃ V, Hid (V = nums .u8 t.2) := ⟨_, Lib.hid rfl⟩
      obtain ⟨s2, hs2⟩ : ∃ s2, Hid (s2 = s + t.1) := ⟨_, Lib.hid rfl⟩
      have hti : t.2.length = 32 ∧ bytes t.2 := by rw [ht.out]; exact HK.out.at k hkl
      have zV : Hid (V.size = 32) := Lib.hid (by rw [hV.out, nums_size]; exact hti.1)
      have ts2 := take_sum hkl
      rw [← ht.out, ← hs.out] at ts2
      have hs2b : s2 ≤ 8192 := by
        rw [hs2.out, ← ts2.1]
        have := sum_take_le ts (k + 1)
        have := HSM.out
        rw [hS.out] at this
        omega
      have e1 : (s : Int) + (t.1 : Int) = (s2 : Int) := by rw [hs2.out]; omega
      have hw1 : IntKind.i64.wrap (s2 : Int) = (s2 : Int) := by rw [IntKind.wrap_i64]; omega
      have hw2 : IntKind.i64.wrap (k : Int) = (k : Int) := by rw [IntKind.wrap_i64]; omega
      have b1 : (k : Int) < (n : Int) := by omega
      have ED : Hid ((ts.take (k + 1)).map Prod.snd = (ts.take k).map Prod.snd ++ [t.2]) := Lib.hid ts2.2
      have ES : Hid (s2 = ((ts.take (k + 1)).map Prod.fst).sum) := Lib.hid (by rw [hs2.out, ts2.1])
      have HTI := Lib.hid hti
      have CC : Hid (∀ W, Below w.heap.size w W → W.cell? (ad.add (k * 33)) = some (.int .i64 (t.1 : Int)) ∧ (readAt (.pointer (some ⟨(ad.add (k * 33)).block, (ad.add (k * 33)).off + 1, none⟩))).run Tryd.prog W = .ok (.agg V) W) := Lib.hid fun W hW => by
        have h1 := HT.out.from hW
        have h3 := h1.hash HK.out k hkl
        rw [← add_of_add, ← ht.out] at h3
        exact ⟨by rw [ht.out]; exact h1.size HK.out k hkl, by rw [hV.out]; exact h3⟩
      have hk8 : k + 1 ≤ 8192 := by omega
      have HK8 := Lib.hid hk8
      clear ts2 hti hkl hk8
      go_upto_region 5 with fail
      refine wp_region_sq (fun W => Below w.heap.size w W) (fun W => Row W (w.heap.size + 1) 24 #[.int .i64 (s : Int), .slice A k c]) 18 [(0, 0), (1, 1), (0, 2), (0, 3), (0, 4), (0, 5), (0, 6), (0, 7), (0, 8), (1, 9), (0, 10), (0, 11), (0, 12), (0, 13), (0, 14), (0, 17), (2, 15), (2, 16), (3, 18), (3, 19), (3, 20)] (by kernel_rfl) rfl (by kernel_rfl) (by kernel_rfl) (by intro c a d v w h; cases d <;> exact h) ⟨HC.out.below.drew, HC.out.rg.drew⟩ (fun Q' hQ => ?_)
      have HQ := Lib.hid hQ
      clear hQ
      refine wpSq_get rfl (by rfl) (fun K hK => ?_)
      refine ⟨?_, fun w' hS' => ?_, ?_⟩
      rotate_left
      · go_simp
        try (with_reducible rfl)
      try go_simp
      refine hK _ ?_
      clear hK K
      refine wpSq_early rfl (by rfl) (fun K hK => ?_)
      refine ⟨?_, fun w' hS' => ?_, ?_⟩
      rotate_left
      · have c0 := hS'.2.cell 0
        go_simp
        try (with_reducible rfl)
      try go_simp
      refine hK _ ?_
      clear hK K
      refine wpSq_get rfl (by rfl) (fun K hK => ?_)
      refine ⟨?_, fun w' hS' => ?_, ?_⟩
      rotate_left
      · go_simp
        try (with_reducible rfl)
      try go_simp
      refine hK _ ?_
      clear hK K
      refine wpSq_get rfl (by rfl) (fun K hK => ?_)
      refine ⟨?_, fun w' hS' => ?_, ?_⟩
      rotate_left
      · go_simp
        try (with_reducible rfl)
      try go_simp
      refine hK _ ?_
      clear hK K
      refine wpSq_get rfl (by rfl) (fun K hK => ?_)
      refine ⟨?_, fun w' hS' => ?_, ?_⟩
      rotate_left
      · go_simp
        try (with_reducible rfl)
      try go_simp
      refine hK _ ?_
      clear hK K
      refine wpSq_get rfl (by rfl) (fun K hK => ?_)
      refine ⟨?_, fun w' hS' => ?_, ?_⟩
      rotate_left
      · go_simp
        try (with_reducible rfl)
      try go_simp
      refine hK _ ?_
      clear hK K
      refine wpSq_get rfl (by rfl) (fun K hK => ?_)
      refine ⟨?_, fun w' hS' => ?_, ?_⟩
      rotate_left
      · have c9 := (CC.out _ hS').1
        go_simp
        try (with_reducible rfl)
      try go_simp
      refine hK _ ?_
      clear hK K
      refine wpSq_get rfl (by rfl) (fun K hK => ?_)
      refine ⟨?_, fun w' hS' => ?_, ?_⟩
      rotate_left
      · go_simp
        try (with_reducible rfl)
      try go_simp
      refine hK _ ?_
      clear hK K
      refine wpSq_get rfl (by rfl) (fun K hK => ?_)
      refine ⟨?_, fun w' hS' => ?_, ?_⟩
      rotate_left
      · go_simp
        try (with_reducible rfl)
      try go_simp
      refine hK _ ?_
      clear hK K
      refine wpSq_early rfl (by rfl) (fun K hK => ?_)
      refine ⟨?_, fun w' hS' => ?_, ?_⟩
      rotate_left
      · have c1 := hS'.2.cell 1
        go_simp
        try (with_reducible rfl)
      try go_simp
      refine hK _ ?_
      clear hK K
      refine wpSq_get rfl (by rfl) (fun K hK => ?_)
      refine ⟨?_, fun w' hS' => ?_, ?_⟩
      rotate_left
      · go_simp
        try (with_reducible rfl)
      try go_simp
      refine hK _ ?_
      clear hK K
      refine wpSq_get rfl (by rfl) (fun K hK => ?_)
      refine ⟨?_, fun w' hS' => ?_, ?_⟩
      rotate_left
      · go_simp
        try (with_reducible rfl)
      try go_simp
      refine hK _ ?_
      clear hK K
      refine wpSq_get rfl (by rfl) (fun K hK => ?_)
      refine ⟨?_, fun w' hS' => ?_, ?_⟩
      rotate_left
      · go_simp
        try (with_reducible rfl)
      try go_simp
      refine hK _ ?_
      clear hK K
      refine wpSq_get rfl (by rfl) (fun K hK => ?_)
      refine ⟨?_, fun w' hS' => ?_, ?_⟩
      rotate_left
      · go_simp
        try (with_reducible rfl)
      try go_simp
      refine hK _ ?_
      clear hK K
      refine wpSq_get rfl (by rfl) (fun K hK => ?_)
      refine ⟨_, fun w' hS' => get_load rfl rfl (CC.out _ hS').2, ?_⟩
      try go_simp
      refine hK _ ?_
      clear hK K
      refine wpSq_get rfl (by rfl) (fun K hK => ?_)
      refine ⟨?_, fun w' hS' => ?_, ?_⟩
      rotate_left
      · go_simp
        try (with_reducible rfl)
      try go_simp
      refine hK _ ?_
      clear hK K
      refine wpSq_call rfl (by rfl) (fun K hK => ?_)
      refine wp_buildOne (.tmp 25) rfl V rfl zV.out ?_
      have HR1 := Lib.hid (Row.made wr.drew 31 V)
      have HB1 : Hid (Below wr.heap.size wr (wr.drew.alloc (.cells V 31))) := Lib.hid ((Below.refl wr.heap.size wr).drew.alloc (Nat.le_refl _) _)
      try go_simp
      refine hK _ _ ⟨HC.out.below.trans (HB1.out.mono HC.out.below.size), HC.out.rg.next HB1.out⟩ ?_
      clear hK K
      refine wpSq_call rfl (by rfl) (fun K hK => ?_)
      refine wp_appendH (.tmp 20) (.tmp 26) rfl (w.heap.size + 2) (.slice A k c) k ((ts.take k).map Prod.snd) [t.2] rfl (own_below HC.out.own HB1.out) _ 1 1 rfl rfl (fun l hl => by rw [List.mem_singleton.1 hl]; exact HTI.out) (HL.row (by rw [← hV.out]; exact HR1.out) HTI.out.1) HK8.out (Nat.le_trans HC.out.size HB1.out.size) ?_
      intro v2 w7 ho hg
      rw [← ED.out] at ho
      obtain ⟨A2, c2, rfl⟩ := own_form ho
      have HG7 := grown_trans (grown_of_below HB1.out _) hg
      have HY := Lib.hid (HC.out.step (s' := s2) ho HG7)
      have HB7 : Hid (Below w.heap.size w w7) := Lib.hid (HC.out.below.grown HG7 HC.out.below.size (fun b e => by have := HC.out.own.lt b e; omega))
      clear ho hg HG7
      have z0 := HY.out.1.cell 0
      have z1 := HY.out.1.cell 1
      have f0 := HY.out.1.free 0
      have f1 := HY.out.1.free 1
      try go_simp
      refine hK _ _ ⟨HB7.out, HY.out.1⟩ ?_
      clear hK K
      refine wpSq_late rfl (by rfl) (fun K hK => ?_)
      go_simp
      refine hK _ _ (HB7.out.setCell (by show w.heap.size ≤ w.heap.size + 1; omega) _) ?_
      clear hK K
      have y1 := (HY.out.1.put 0 (.int .i64 (s2 : Int))).cell 1
      have g1 := (HY.out.1.put 0 (.int .i64 (s2 : Int))).free 1
      refine wpSq_late rfl (by rfl) (fun K hK => ?_)
      go_simp
      refine hK _ _ (HB7.out.setCell (by show w.heap.size ≤ w.heap.size + 1; omega) _) ?_
      clear hK K
      refine wpSq_late rfl (by rfl) (fun K hK => ?_)
      go_simp
      refine hK _ _ ((HB7.out.setCell (by show w.heap.size ≤ w.heap.size + 1; omega) _).setCell (by show w.heap.size ≤ w.heap.size + 1; omega) _) ?_
      clear hK K
      refine wpSq_done ?_
      refine HQ.out _ _ ?_
      go_wp2
      go_roundw
      case rel => exact ⟨k + 1, c2, s2, A2, by go_num, by omega, ES, Lib.hid HY.out.2⟩
      case measure => simp [intOf]; omega
    · have hkn : k = n := by omega
      subst hkn
      have HF : Hid (s = S ∧ (ts.take k).map Prod.snd = ts.map Prod.snd) := Lib.hid (by
        rw [hs.out, hS.out, List.take_of_length_le (by rw [← hn.out]; exact Nat.le_refl _)]; exact ⟨rfl, rfl⟩)
      rw [HF.out.2] at HC
      have c0 := HC.out.rg.cell 0
      have c1 := HC.out.rg.cell 1
      have d0 := HC.out.out.cell 0
      have d1 := HC.out.out.cell 1
      have f0 := HC.out.out.free 0
      have f1 := HC.out.out.free 1
      go_wp2
      rw [← HF.out.1]
      have HO := (HC.out.out.put 0 (.int .i64 (s : Int))).put 1 (.slice A k c)
      have HB : Below w.heap.size wr ((wr.setCell ⟨w.heap.size, 0, none⟩ (.int .i64 (s : Int))).setCell ⟨w.heap.size, 1, none⟩ (.slice A k c)) := ((Below.refl _ _).mono HC.out.below.size |>.setCell (Nat.le_refl _) _).setCell (Nat.le_refl _) _
      have q0 := HO.cell 0
      have q1 := HO.cell 1
      refine bodyPost_ret (v := .agg #[.int .i64 (s : Int), .slice A k c]) (by simp [results, Tryd.results41, go_sem, q0, q1]) rfl ⟨A, c, rfl, ?_, HC.out.below.trans HB⟩
      exact own_base (own_at (W := (wr.setCell ⟨w.heap.size, 0, none⟩ (.int .i64 (s : Int))).setCell ⟨w.heap.size, 1, none⟩ (.slice A k c)) HC.out.own (fun b hb _ => (Below.heap_setCell _ _ _ b (by show b ≠ w.heap.size; omega)).trans (Below.heap_setCell _ _ _ b (by show b ≠ w.heap.size; omega)))) (by omega)
end Go.Proofs.YtfakimbneenfdaaDoor
namespace Go.Proofs.YtfakimbneenfdaaDoor
open Go.RowKit Go.Great
set_option linter.unusedVariables false
set_option maxRecDepth 100000

theorem wpList_buildT {ops : Array Oper} {rest : List Oper} {o : Oper} {a : Act} {w : World} {Q : Exit → Act → World → Prop} (hgd : o.guard = none) (x y : Operand) (s : Nat) (N : Array Value) (ho : o.op = .build 62 #[(0, x), (1, y)]) (hx : a.eval x = .int .i64 (s : Int)) (hy : a.eval y = .agg N) (hN : N.size = 32)
    (h : wpList Tryd.prog ops Q rest (a.put o.dst (.agg (treeV s N))) w) : wpList Tryd.prog ops Q (o :: rest) a w :=
  wpList_plain hgd fun _ hK => by
    unfold Oper.wp
    rw [get_buildT ho hx hy hN]
    exact hK _ _ h
theorem wpList_buildTree {ops : Array Oper} {rest : List Oper} {o : Oper} {a : Act} {w : World} {Q : Exit → Act → World → Prop} (hgd : o.guard = none) (y : Operand) (ho : o.op = .buildSlice 58 1 #[(0, y)])
    (C : Array Value) (hy : a.eval y = .agg C) (hC : C.size = 33) (h : ∀ W, Row W w.heap.size 62 C → Below w.heap.size w W → wpList Tryd.prog ops Q rest (a.put o.dst (.slice (some ⟨w.heap.size, 0, none⟩) 1 1)) W) : wpList Tryd.prog ops Q (o :: rest) a w :=
  wpList_plain hgd fun _ hK => wp_buildTree y ho C hy hC fun W h1 h2 => hK _ _ (h W h1 h2)
theorem wpList_appendT {ops : Array Oper} {rest : List Oper} {o : Oper} {a : Act} {w : World} {Q : Exit → Act → World → Prop} (hgd : o.guard = none) (s x : Operand) (ho : o.op = .call { callee := .builtin .append, args := #[s, x], argTypes := #[58, 58] })
    (B : Nat) (v : Value) (ts us : List Tr) (hs : a.eval s = v) (hown : ownT w B v ts) (ad : Addr) (m c : Nat) (hx : a.eval x = .slice (some ad) m c) (hm : m = us.length) (hu : okT us) (hU : TL w (some ad) us) (hsm : ts.length + m ≤ 8192) (hB : B ≤ w.heap.size)
    (h : ∀ v' w', ownT w' B v' (ts ++ us) → w.grownBy w' v.ownBlock → wpList Tryd.prog ops Q rest (a.put o.dst v') w') : wpList Tryd.prog ops Q (o :: rest) a w :=
  wpList_plain hgd fun _ hK => wp_appendT s x ho B v ts us hs hown ad m c hx hm hu hU hsm hB fun v' w' h1 h2 => hK _ _ (h v' w' h1 h2)
/-- The power that comes next. -/
def kb : Nat → Nat
  | 0 => 0
  | b + 1 => 2 ^ b
theorem kb_half (b : Nat) : kb (b + 1) / 2 = kb b := by
  cases b with
  | zero => rfl
  | succ b => show 2 ^ (b + 1) / 2 = 2 ^ b; rw [Nat.pow_succ]; omega
theorem bitsD_yes {b s : Nat} (h : s / kb (b + 1) % 2 = 1) : bitsD (b + 1) 0 s = kb (b + 1) :: bitsD b 0 s := by
  have h' : s / 2 ^ b % 2 = 1 := h
  rw [bitsD_high, if_pos h', Nat.zero_add]; rfl
theorem bitsD_no {b s : Nat} (h : ¬ s / kb (b + 1) % 2 = 1) : bitsD (b + 1) 0 s = bitsD b 0 s := by
  have h' : ¬ s / 2 ^ b % 2 = 1 := h
  rw [bitsD_high, if_neg h']; rfl
/-- What open holds. -/
structure OpenH (w wr : World) (s : Nat) (A : Option Addr) (n c : Nat) (v : Value) (us : List Tr) : Prop where
  rg : Row wr w.heap.size 24 #[.int .i64 (s : Int), .slice A n c]
  own : ownT wr (w.heap.size + 1) v us
  below : Below w.heap.size w wr
  size : w.heap.size + 1 ≤ wr.heap.size
theorem OpenH.step {w wr w6 w7 : World} {s : Nat} {A : Option Addr} {n c : Nat} {v v' : Value} {us us' : List Tr} (h : OpenH w wr s A n c v us) (hb : Below wr.heap.size wr w6) (ho : ownT w7 (w.heap.size + 1) v' us') (hg : w6.grownBy w7 v.ownBlock) : OpenH w w7 s A n c v' us' := by
  have hne : ∀ b, b < w.heap.size + 1 → some b ≠ v.ownBlock := fun b hb e => by have := h.own.lt b e.symm; omega
  refine ⟨(h.rg.next hb).grown hg (hne _ (by omega)), ho, (h.below.trans (hb.mono h.below.size)).grown hg (by have := h.size; have := hb.size; omega) (fun b e => by have := h.own.lt b e; omega), ?_⟩
  have := hg.size
  have := h.size
  have := hb.size
  omega
theorem trs_take {s : Nat} {hs : List (List Int)} (hl : hs.length = ones s) {us : List Tr} {k : Nat} {r : List Nat} (hu : us = (trs 0 s hs).take us.length) (hd : (sz 0 s).drop us.length = k :: r) :
    us.length < hs.length ∧ us ++ [(k, hs.getD us.length [])] = (trs 0 s hs).take (us.length + 1) ∧ (sz 0 s).drop (us.length + 1) = r := by
  obtain ⟨h1, h2, h3⟩ := drop_one hd
  have h4 : us.length < hs.length := by rw [hl, ← sz_length s 0]; exact h1
  have h5 : us.length < (trs 0 s hs).length := by rw [trs_length 0 s hs hl, ← hl]; exact h4
  refine ⟨h4, ?_, h3⟩
  rw [List.take_succ_eq_append_getElem h5, ← hu]
  congr 1
  have e : ∀ h : us.length < ((sz 0 s).zip hs).length, ((sz 0 s).zip hs)[us.length] = (k, hs.getD us.length []) := fun h => by
    rw [List.getElem_zip]
    rw [List.getD_eq_getElem?_getD, List.getElem?_eq_getElem h1] at h2
    rw [List.getD_eq_getElem?_getD, List.getElem?_eq_getElem h4]
    simp at h2 ⊢
    exact h2
  rw [show (trs 0 s hs)[us.length] = (k, hs.getD us.length []) from e h5]
theorem trs_ok {j m : Nat} {hs : List (List Int)} (hh : hashes hs) : okT (trs j m hs) := fun t ht => hh t.2 (List.of_mem_zip ht).2
attribute [local go_sem ↓ high] read_at write_at
set_option maxHeartbeats 4000000 in
theorem refOpen_any (s : Nat) (hs4 : s ≤ 4096) (hs : List (List Int)) (hh : hashes hs) (hl : hs.length = ones s) (A : Option Addr) (c : Nat) (w : World) (hA : HL w w.heap.size A hs) :
    Calls Tryd.prog 39 #[.agg #[.int .i64 (s : Int), .slice A hs.length c]] w fun e w' => (∃ A' c', e = .returned (.slice A' (ones s) c') ∧ ones s ≤ c' ∧ c' ≤ maxLen ∧ TL w' A' (trs 0 s hs)) ∧ Below w.heap.size w w' := by
  obtain ⟨n, hn⟩ : ∃ n, Hid (n = hs.length) := ⟨_, Lib.hid rfl⟩
  rw [← hn.out]
  have hn13 : n ≤ 13 := by rw [hn.out, hl]; exact ones_le 13 s (by omega)
  have H0 : Hid (OpenH w (w.alloc (.cells #[.int .i64 (s : Int), .slice A n c] 24)) s A n c (.slice none 0 0) []) := Lib.hid ⟨Row.made _ _ _, ownT.start _ _, (Below.refl _ _).alloc (Nat.le_refl _) _, by simp⟩
  have HA := Lib.hid hA
  have HH := Lib.hid hh
  have HL0 := Lib.hid hl
  have HB0 : Hid (sz 0 s = bitsD 13 0 s) := Lib.hid (bitsD_sz 13 0 s (by omega)).symm
  clear hA hh hl
  go_enter Tryd.func39, Tryd.ntmps39
  go_wp2
  go_loopw [3, 4] (fun s3 s4 wr => ∃ (b K : Nat) (v : Value) (us : List Tr), s3 = v ∧ s4 = .int .i64 (K : Int) ∧ b ≤ 13 ∧ K ≤ 4096 ∧ Hid (K = kb b) ∧ Hid (us = (trs 0 s hs).take us.length ∧ (sz 0 s).drop us.length = bitsD b 0 s) ∧ Hid (OpenH w wr s A n c v us)) (fun _ s4 _ => (intOf s4).toNat)
  case atStart => exact ⟨13, 4096, _, [], rfl, rfl, by omega, by omega, Lib.hid rfl, Lib.hid ⟨rfl, HB0.out⟩, H0⟩
  case round =>
    clear H0 HB0
    obtain ⟨b, K, v, us, rfl, rfl, hb, hK, hKb, HU, HO⟩ := hrel
    obtain ⟨A1, c1, hv, hc1, hm1, htl⟩ := HO.out.own.lead
    obtain ⟨L, hL⟩ : ∃ L, Hid (L = us.length) := ⟨_, Lib.hid rfl⟩
    rw [← hL.out] at hv hc1
    have HTL := Lib.hid (And.intro hc1 (And.intro hm1 htl))
    subst hv
    clear hc1 hm1 htl
    by_cases h0 : K = 0
    · subst h0
      have hb0 : b = 0 := by
        cases b with
        | zero => rfl
        | succ b => have := hKb.out; have h2 : kb (b + 1) = 2 ^ b := rfl; have := Nat.two_pow_pos b; omega
      have HE : Hid (us = trs 0 s hs ∧ L = ones s) := Lib.hid (by
        have h1 := HU.out.2
        rw [hb0] at h1
        have h2 : (sz 0 s).length ≤ us.length := by
          have := congrArg List.length h1
          rw [List.length_drop] at this
          simp [bitsD] at this
          omega
        have h3 := HU.out.1
        rw [List.take_of_length_le (by rw [trs_length 0 s hs HL0.out, ← sz_length s 0]; exact h2)] at h3
        exact ⟨h3, by rw [hL.out, h3, trs_length 0 s hs HL0.out]⟩)
      go_wp2
      go_ret
      exact ⟨⟨A1, c1, by rw [← HE.out.2]; rfl, by rw [← HE.out.2]; exact HTL.out.1, HTL.out.2.1, by rw [← HE.out.1]; exact HTL.out.2.2⟩, HO.out.below⟩
    · obtain ⟨b', rfl⟩ : ∃ b', b = b' + 1 := ⟨b - 1, by
        cases b with
        | zero => exact absurd hKb.out h0
        | succ b => rfl⟩
      obtain ⟨K2, hK2⟩ : ∃ K2, Hid (K2 = kb b') := ⟨_, Lib.hid rfl⟩
      obtain ⟨D, hD⟩ : ∃ D, Hid (D = s / K) := ⟨_, Lib.hid rfl⟩
      obtain ⟨E, hE⟩ : ∃ E, Hid (E = D % 2) := ⟨_, Lib.hid rfl⟩
      have hDb : D ≤ 4096 := by rw [hD.out]; exact Nat.le_trans (Nat.div_le_self s K) hs4
      have hKK : K / 2 = K2 := by rw [hKb.out, hK2.out]; exact kb_half b'
      have e2 : (K : Int) / 2 = (K2 : Int) := by omega
      have e5 : (s : Int) / (K : Int) = (D : Int) := by rw [hD.out]; simp
      have e5w : wrap64 (D : Int) = (D : Int) := by unfold wrap64; omega
      have e6 : (D : Int).tmod 2 = (E : Int) := by rw [Int.tmod_eq_emod_of_nonneg (by omega), hE.out]; simp
      have e7 : (D : Int) % 2 = (E : Int) := by rw [hE.out]; simp
      have hKp : (0 : Int) < (K : Int) := by omega
      have m0 : ¬ (K : Int) = 0 := by omega
      have c0 := HO.out.rg.cell 0
      have c1' := HO.out.rg.cell 1
      clear hKK hDb
      by_cases hd : E = 1
      · have d1 : ((E : Int) == 1) = true := by rw [hd]; rfl
        have hdd : s / K % 2 = 1 := by rw [← hD.out, ← hE.out]; exact hd
        clear hd
        obtain ⟨l4, hus2, hdr⟩ := trs_take HL0.out HU.out.1 (by rw [HU.out.2]; exact bitsD_yes (by rw [← hKb.out]; exact hdd))
        rw [← hKb.out, ← hL.out] at hus2
        rw [← hL.out] at l4 hdr
        have hLn : L < n := by rw [hn.out]; exact l4
        obtain ⟨ad, rfl⟩ := HA.out.some L l4
        obtain ⟨V, hV⟩ : ∃ V, Hid (V = nums .u8 (hs.getD L [])) := ⟨_, Lib.hid rfl⟩
        have hxi := Lib.hid (hashes_at HH.out L l4)
        have zV : Hid (V.size = 32) := Lib.hid (by rw [hV.out, nums_size]; exact hxi.out.1)
        have s1 : (readAt (.pointer (some (ad.add (L * 32))))).run Tryd.prog wr = .ok (.agg V) wr := by rw [hV.out]; exact (HA.out.next HO.out.below (Nat.le_refl _)).read HH.out L l4
        have bL : (L : Int) < (n : Int) := by omega
        have HN : Hid (us ++ [(K, hs.getD L [])] = (trs 0 s hs).take (us ++ [(K, hs.getD L [])]).length ∧ (sz 0 s).drop (us ++ [(K, hs.getD L [])]).length = bitsD b' 0 s) := Lib.hid (by
          have e : (us ++ [(K, hs.getD L [])]).length = L + 1 := by rw [List.length_append, ← hL.out]; rfl
          rw [e]; exact ⟨hus2, hdr⟩)
        have HX : Hid (okT [(K, hs.getD L [])]) := Lib.hid (okT.one hxi.out)
        have HL13 : Hid (us.length + 1 ≤ 8192) := Lib.hid (by rw [← hL.out]; omega)
        clear l4 hus2 hdr hdd
        go_wp2_with (first
          | (refine wpList_buildT rfl (.tmp 16) (.tmp 22) K V rfl rfl rfl zV.out ?_)
          | (refine wpList_buildTree rfl (.tmp 23) rfl (treeV K V) rfl (treeV_size _ _ zV.out) ?_; intro w6 hr hb; have HR6 := Lib.hid hr; have HB6 := Lib.hid hb; clear hr hb)
          | (at_builtin; refine wpList_appendT rfl (.tmp 15) (.tmp 24) rfl (w.heap.size + 1) (.slice A1 L c1) us [(K, hs.getD L [])] rfl (own_below HO.out.own HB6.out) _ 1 1 rfl rfl HX.out (TL.row (by rw [← hV.out]; exact HR6.out)) HL13.out (Nat.le_trans HO.out.size HB6.out.size) ?_; intro v2 w7 ho hg; have HO2 := Lib.hid (HO.out.step HB6.out ho hg); clear ho hg))
        go_roundw
        case rel => exact ⟨b', K2, _, us ++ [(K, hs.getD L [])], rfl, rfl, by omega, by omega, hK2, HN, HO2⟩
        case measure => simp [intOf]; omega
      · have d1 : ((E : Int) == 1) = false := by rw [beq_eq_false_iff_ne]; exact fun h => hd (Int.ofNat.inj h)
        have hdd : ¬ s / K % 2 = 1 := by rw [← hD.out, ← hE.out]; exact hd
        have HN : Hid ((sz 0 s).drop us.length = bitsD b' 0 s) := Lib.hid (by rw [HU.out.2]; exact bitsD_no (by rw [← hKb.out]; exact hdd))
        clear hd hdd
        go_wp2
        go_roundw
        case rel => exact ⟨b', K2, _, us, rfl, rfl, by omega, by omega, hK2, Lib.hid ⟨HU.out.1, HN.out⟩, HO⟩
        case measure => simp [intOf]; omega
end Go.Proofs.YtfakimbneenfdaaDoor
