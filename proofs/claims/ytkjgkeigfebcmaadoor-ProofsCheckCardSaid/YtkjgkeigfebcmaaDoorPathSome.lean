/-
  The walk of Some (the statements' own leaves, layer 4) for as many leaves as there may be, with how many there is room for.
-/
import Derived.Test.YtkjgkeigfebcmaaDoorListMem
namespace Go.Proofs.YtkjgkeigfebcmaaDoor
open Go.RowKit Go.Great
set_option linter.unusedVariables false
set_option maxRecDepth 100000

/-- Leaf i of a seed. -/
def someG (seed : Int) (i : Nat) : List Int := [seed, (i : Int) % 256, (i : Int) / 256, 1] ++ List.replicate 28 0
def someM (seed : Int) : Nat → List (List Int)
  | 0 => []
  | k + 1 => someM seed k ++ [someG seed k]
theorem someM_length (seed : Int) (k : Nat) : (someM seed k).length = k := by
  induction k with
  | zero => rfl
  | succ k ih => simp [someM, ih]
theorem someG_is (seed : Int) (hs : 0 ≤ seed ∧ seed < 256) (k : Nat) (hk : k < 65536) : (someG seed k).length = 32 ∧ bytes (someG seed k) := by
  refine ⟨by simp [someG], fun x hx => ?_⟩
  simp only [someG, List.mem_append, List.mem_cons, List.not_mem_nil, or_false] at hx
  rcases hx with (rfl | rfl | rfl | rfl) | hx
  · exact hs
  · omega
  · omega
  · omega
  · have := List.eq_of_mem_replicate hx; omega
theorem someM_hashes (seed : Int) (hs : 0 ≤ seed ∧ seed < 256) (k : Nat) (hk : k ≤ 65536) : hashes (someM seed k) := by
  induction k with
  | zero => intro l h; simp [someM] at h
  | succ k ih => exact hashes_snoc (ih (by omega)) (someG_is seed hs k (by omega))
theorem someM_get (seed : Int) (k i : Nat) (hi : i < k) : (someM seed k).getD i [] = someG seed i := by
  induction k with
  | zero => omega
  | succ k ih =>
    rw [show someM seed (k + 1) = someM seed k ++ [someG seed k] from rfl, List.getD_eq_getElem?_getD]
    by_cases h : i < k
    · rw [List.getElem?_append_left (by rw [someM_length]; exact h), ← List.getD_eq_getElem?_getD]; exact ih h
    · obtain rfl : i = k := by omega
      rw [List.getElem?_append_right (by rw [someM_length]; exact Nat.le_refl _), someM_length, Nat.sub_self]; rfl
/-- Unlike places, unlike leaves. -/
theorem someG_ne (seed : Int) (i j : Nat) (hi : i < 65536) (hj : j < 65536) (h : someG seed i = someG seed j) : i = j := by
  simp only [someG, List.cons_append, List.cons.injEq] at h
  omega
theorem OwnL.lead5 {w wr : World} {v : Value} {k : Nat} {ls : List (List Int)} (h : OwnL w wr v k ls) (hk : ls.length = k) (hs : hashes ls) : ∃ A c, v = .slice A k c ∧ (k ≤ c ∧ c ≤ maxLen) ∧ HL wr wr.heap.size A ls ∧ (k = 0 ∨ ∃ g, A = some ⟨g, 0, none⟩) := by
  obtain ⟨h1, h2⟩ := h
  rcases h1.2 with ⟨rfl, h0⟩ | ⟨g, cap, cur, rfl, _, hg, h3⟩
  · subst h0
    have : ls = [] := List.eq_nil_of_length_eq_zero hk
    subst this
    exact ⟨none, 0, rfl, ⟨Nat.le_refl _, by decide⟩, HL.nil _ _ _, .inl rfl⟩
  · exact ⟨_, _, rfl, ⟨h3.1, h3.2.1⟩, fun i hi => ⟨_, rfl, (Array.getElem?_eq_some_iff.1 hg).1, fun j hj => h1.cells (g := g) rfl _ _ (cellsL_get hs i j hi hj)⟩, .inr ⟨g, rfl⟩⟩
set_option maxHeartbeats 2000000 in
set_option maxRecDepth 100000 in
theorem someG_any (n : Nat) (hn : n ≤ 4096) (seed : Int) (hsd : 0 ≤ seed ∧ seed < 256) (w : World) :
    Calls Tryd.prog 13 #[.int .i64 (n : Int), .int .u8 seed] w fun ev w' => (∃ A c, ev = .returned (.slice A n c) ∧ (n ≤ c ∧ c ≤ maxLen) ∧ HL w' w'.heap.size A (someM seed n) ∧ (n = 0 ∨ ∃ g, A = some ⟨g, 0, none⟩)) ∧ Below w.heap.size w w' := by
  obtain ⟨i0, hi, hz0, hz1, hz2⟩ := info_parts infoHash
  have HS := Lib.hid hsd
  clear hsd
  have H0 : Hid (OwnL w w (.slice none 0 0) 0 (someM seed 0)) := Lib.hid ⟨⟨rfl, .inl ⟨rfl, rfl⟩⟩, Below.refl _ _⟩
  go_enter Tryd.func13, Tryd.ntmps13
  go_wp2
  go_loopw [5, 6] (fun s5 s6 wr => ∃ k v, s6 = .int .i64 ((k : Nat) : Int) ∧ v = s5 ∧ k ≤ n ∧ Hid (OwnL w wr v k (someM seed k))) (fun _ s6 _ => (n - intOf s6).toNat)
  case atStart => exact ⟨0, _, rfl, rfl, by omega, H0⟩
  case round =>
    clear H0
    obtain ⟨k, v, rfl, rfl, hk, HH⟩ := hrel
    by_cases hlt : k < n
    · have e0 : (k : Int).tdiv 256 = (k : Int) / 256 := Int.tdiv_eq_ediv_of_nonneg (by omega)
      go_wp2_with (first
        | (refine wpList_buildOne rfl _ rfl (nums .u8 (someG seed k)) rfl rfl ?_)
        | (at_builtin; refine wpList_append_own _ rfl (.tmp 12) (.tmp 20) 22 rfl w.heap.size 30 i0 _ 32 32 Tryd.underlying22 hi hz0 hz1 hz2 (by simp [Value.cells, nums]) (by decide) _ _ _ rfl (HH.out.1.alloc _) ⟨wr.heap.size, 0, none⟩ 1 1 ((someG seed k).map (Value.int .u8)) rfl (by simp [someG]) ?cc1 ?cc2 (by unfold maxLen; omega) (by omega) ?cc5 ?_))
      case cc1 =>
        intro j u hj
        rw [add_flat, cell_of_row _ wr.heap.size j _ _ _ (heap_alloc_new wr _)]
        have e : (nums .u8 (someG seed k))[j]? = some u := by simpa [nums] using hj
        exact e
      case cc2 =>
        intro u hu
        obtain ⟨z, _, rfl⟩ := List.mem_map.1 hu
        rfl
      case cc5 => have := HH.out.2.size; simp; omega
      intro v' w4 hown hgrow _
      have HN : Hid (OwnL w w4 v' (k + 1) (someM seed (k + 1))) := Lib.hid (HH.out.next (Below.refl _ _) hown hgrow)
      clear hown hgrow
      go_wp2
      go_roundw
      case rel => exact ⟨k + 1, _, by go_num, rfl, by omega, HN⟩
      case measure => simp [intOf]; omega
    · have hk9 : Hid (k = n) := Lib.hid (by omega)
      obtain ⟨A, c, hv, hc, hA, hg⟩ : ∃ A c, Hid (v = .slice A n c) ∧ Hid (n ≤ c ∧ c ≤ maxLen) ∧ Hid (HL wr wr.heap.size A (someM seed n)) ∧ Hid (n = 0 ∨ ∃ g, A = some ⟨g, 0, none⟩) := by
        obtain ⟨A, c, e1, e2, e3, e4⟩ := HH.out.lead5 (someM_length _ _) (someM_hashes seed HS.out k (by omega))
        rw [hk9.out] at e1 e2 e3 e4
        exact ⟨A, c, Lib.hid e1, Lib.hid e2, Lib.hid e3, Lib.hid e4⟩
      go_wp2
      go_ret
      exact ⟨⟨A, c, congrArg Ending.returned hv.out, hc.out, hA.out, hg.out⟩, HH.out.2⟩
end Go.Proofs.YtkjgkeigfebcmaaDoor
