/-
  Proved: called with any claim (a leaf, a root, a number, how many there are), any list of hashes and any hash, the statement PathsCheck (whether they check is the document's; so it is of numbers brought within, with the root that they come to, and with one hash of the path another one; of more than 80 hashes it asks the examples alone) returns true, and its arguments read as before. Condition: the two tables of the package sha hold what the program's text lays, which the card ties to that text.
-/
import Derived.Test.YtfakimbneenfdaaDoorListCard
import Derived.Test.YtfakimbneenfdaaDoorPathLawC
namespace Go.Proofs.YtfakimbneenfdaaDoor
open Go.ChangeShapes Go.WideShapes Go.ChangeAt Go.RowKit
set_option linter.unusedVariables false
set_option maxRecDepth 100000

theorem cClaim : Tryd.prog.cellsOf 50 = 66 := by kernel_rfl
theorem cInt64 : Tryd.prog.cellsOf 3 = 1 := by kernel_rfl
theorem open_claim {H : Type} {enc : TypeId × Value → H} {W : World} {base b0 : Nat} {sp : Nat → Bool} {v : Value} {d : DataW H} {ps : List MemPlace}
    (hval : Value.okWide Tryd.prog W .any b0 50 v) (h : DataW.Trod enc Tryd.prog W base sp true 50 v d ps) :
    ∃ (a b : List Int) (i n : Int), v = .agg (claimV a b i n) ∧ (a.length = 32 ∧ bytes a) ∧ (b.length = 32 ∧ bytes b) ∧ (-9223372036854775808 ≤ i ∧ i ≤ 9223372036854775807) ∧ (-9223372036854775808 ≤ n ∧ n ≤ 9223372036854775807) := by
  obtain ⟨cs, rfl, hsz⟩ := okWide_struct Tryd.underlying50 hval
  rw [cClaim] at hsz
  obtain ⟨fuel, hf⟩ := h
  obtain ⟨xs, m, _, _, _, hl, hx⟩ := DataW.trod_struct Tryd.underlying50 hf
  have hl4 : xs.length = 4 := hl
  have e0 : DataW.trod enc Tryd.prog W base sp true m 31 ((cs.toList.drop 0).take (Tryd.prog.cellsOf 31)) = xs[0]? := hx 0 _ rfl
  have e1 : DataW.trod enc Tryd.prog W base sp true m 31 ((cs.toList.drop 32).take (Tryd.prog.cellsOf 31)) = xs[1]? := hx 1 _ rfl
  have e2 : DataW.trod enc Tryd.prog W base sp true m 3 ((cs.toList.drop 64).take (Tryd.prog.cellsOf 3)) = xs[2]? := hx 2 _ rfl
  have e3 : DataW.trod enc Tryd.prog W base sp true m 3 ((cs.toList.drop 65).take (Tryd.prog.cellsOf 3)) = xs[3]? := hx 3 _ rfl
  rw [List.getElem?_eq_getElem (show 0 < xs.length by omega)] at e0
  rw [List.getElem?_eq_getElem (show 1 < xs.length by omega)] at e1
  rw [List.getElem?_eq_getElem (show 2 < xs.length by omega)] at e2
  rw [List.getElem?_eq_getElem (show 3 < xs.length by omega)] at e3
  rw [cHash] at e0 e1
  rw [cInt64] at e2 e3
  obtain ⟨a, a1, a2, a3⟩ := hash_cells e0 (by simp; omega)
  obtain ⟨b, b1, b2, b3⟩ := hash_cells e1 (by simp; omega)
  obtain ⟨i, hi, _, wi⟩ := DataW.trod_int Tryd.underlying3 e2
  obtain ⟨n, hn, _, wn⟩ := DataW.trod_int Tryd.underlying3 e3
  have bi := bounds_i64 wi
  have bn := bounds_i64 wn
  refine ⟨a, b, i, n, ?_, ⟨a1, a2⟩, ⟨b1, b2⟩, by omega, by omega⟩
  congr 1
  have hs : (nums .u8 (a ++ b)).size = 64 := by rw [nums_size, List.length_append, a1, b1]
  apply Array.ext_getElem?
  intro k
  unfold claimV
  by_cases h1 : k < 32
  · have h3 := a3 k h1
    rw [List.getElem?_take, if_pos h1, List.getElem?_drop, Array.getElem?_toList] at h3
    rw [Array.getElem?_append_left (by omega), nums_get .u8 _ k (by rw [List.length_append]; omega), List.getD_eq_getElem?_getD, List.getElem?_append_left (by omega), ← List.getD_eq_getElem?_getD]
    simpa using h3
  · by_cases h2 : k < 64
    · have h3 := b3 (k - 32) (by omega)
      rw [List.getElem?_take, if_pos (by omega), List.getElem?_drop, Array.getElem?_toList] at h3
      rw [Array.getElem?_append_left (by omega), nums_get .u8 _ k (by rw [List.length_append]; omega), List.getD_eq_getElem?_getD, List.getElem?_append_right (by omega), a1, ← List.getD_eq_getElem?_getD]
      rwa [show 32 + (k - 32) = k by omega] at h3
    · by_cases h3 : k = 64
      · subst h3
        have := of_one cs.toList 64 _ hi
        rw [Array.getElem?_toList] at this
        rw [this, Array.getElem?_append_right (by omega), hs]; rfl
      · by_cases h4 : k = 65
        · subst h4
          have := of_one cs.toList 65 _ hn
          rw [Array.getElem?_toList] at this
          rw [this, Array.getElem?_append_right (by omega), hs]; rfl
        · rw [Array.getElem?_eq_none (by omega), Array.getElem?_eq_none (by simp; omega)]
end Go.Proofs.YtfakimbneenfdaaDoor
namespace Go.Proofs.YtfakimbneenfdaaDoor.check
open Go.ChangeShapes Go.WideShapes Go.ChangeAt Go.RowKit
open Go.ChangeMaps (open_string)
set_option linter.unusedVariables false

set_option maxRecDepth 100000 in
theorem lifted (os : Os) (started : os.Started) (H : Type) (enc : TypeId × Value → H) :
    ReturnsInHanded {} Tryd.checked os 8 .any (fun w args => (Rows.pathsCheckSpec.pre enc Tryd.prog Tryd.f8 [] false w args ∧ laidMetH Tryd.prog laid2 w) ∧ sizedMet enc Tryd.prog Tryd.f8 (OpenSpec.ofChange Rows.pathsCheckSpec) false w args)
      (Rows.pathsCheckSpec.post enc Tryd.prog Tryd.f8 false true false false) := by
  refine returnsInHanded_of_change_and (C := Tryd.checked) (X := fun w _ => laidMetH Tryd.prog laid2 w) (fun _ _ _ hh h => h.of_heap hh) own started (by kernel_rfl) Tryd.func8
    (ChangeSpec.witness_shaped (enc := enc) (C := Tryd.checked) (os := os) (X := fun w _ => laidMetH Tryd.prog laid2 w) false (World.doorLaid Tryd.prog 400 os) #[.agg (claimV zero32 zero32 0 0), .slice none 0 0, .agg (nums .u8 zero32)] 8 rfl (World.shaped_of_RefB (by kernel_rfl) (by kernel_rfl)) (by kernel_rfl) (by kernel_rfl) (by kernel_rfl) (door_met os _)) ?_
  intro W base args ds gs before hval0 hW _ _ hL _
  have hval : ∀ (j : Nat) t v, Tryd.f8.params[j]? = some t → args[j]? = some v → Value.okWide Tryd.prog W .any base t v := hval0
  have hW' := hW
  obtain ⟨p, q, hA0, hV, rfl, hfz, hnd⟩ := hW
  have hA : DataW.TrodAll enc Tryd.prog W 0 (fun _ => true) true Tryd.f8.params.toList args.toList ds p := hA0
  rw [Tryd.params8] at hA hval
  obtain ⟨v0, vs0, d0, ds0, p0, q0, hargs, rfl, rfl, h0, r0⟩ := trodAll_cons hA
  obtain ⟨v1, vs1, d1, ds1, p1, q1, rfl, rfl, rfl, h1, r1⟩ := trodAll_cons r0
  obtain ⟨v2, vs2, d2, ds2, p2, q2, rfl, rfl, rfl, h2, r2⟩ := trodAll_cons r1
  obtain ⟨rfl, rfl, rfl⟩ := trodAll_nil r2
  obtain rfl : args = #[v0, v1, v2] := by cases args; simp_all
  obtain ⟨rfl, rfl⟩ := trodVars_none hV
  have k0 := h0
  have lt0 : ∀ x ∈ p0, x.block < W.heap.size := by obtain ⟨m, hm⟩ := k0; exact DataW.trod_lt m _ _ _ hm
  have k1 := h1
  have lt1 : ∀ x ∈ p1, x.block < W.heap.size := by obtain ⟨m, hm⟩ := k1; exact DataW.trod_lt m _ _ _ hm
  have k2 := h2
  have lt2 : ∀ x ∈ p2, x.block < W.heap.size := by obtain ⟨m, hm⟩ := k2; exact DataW.trod_lt m _ _ _ hm
  obtain ⟨la0, lb0, ci0, cn0, rfl, pa0, pb0, pi0, pn0⟩ := open_claim (hval 0 50 v0 rfl rfl) h0
  obtain ⟨A1, c1, ls1, rfl, hh1, hl1, hc1, hm1⟩ := open_list (hval 1 22 v1 rfl rfl) h1
  obtain ⟨l2, rfl, hl2, hb2⟩ := open_hash (hval 2 31 v2 rfl rfl) h2
  clear hA0 hval0
  refine (checklaw_any la0 lb0 pa0 pb0 ci0 cn0 pi0 pn0 ls1 hh1 A1 c1 l2 ⟨hl2, hb2⟩ W hl1 (of_laid hL) hc1 hm1).mono fun e W' ⟨he, bel⟩ => ?_
  subst he
  exact ⟨_, rfl, _, _, _, [], _, [], hW', trodAll_mk1 (shut_bool Tryd.underlying4 _), (trodAll_cons_mk (Below.trod laidOut (by kernel_rfl) (of_decide_eq_true (by kernel_rfl)) k0 bel lt0) (trodAll_cons_mk (Below.trod laidOut (by kernel_rfl) (of_decide_eq_true (by kernel_rfl)) k1 bel lt1) (trodAll_cons_mk (Below.trod laidOut (by kernel_rfl) (of_decide_eq_true (by kernel_rfl)) k2 bel lt2) trodAll_mk0))), rfl, bel.frame _, fun h => by cases h⟩

theorem over : Rows.PathsCheckSaid :=
  OpenClaim.holds_of_wide 8 Tryd.f8 rfl rfl rfl rfl rfl rfl rfl ⟨rfl, rfl, rfl, rfl, rfl⟩ rfl rfl rfl rfl rfl (by kernel_rfl) Tryd.func8 (by kernel_rfl)
    (of_decide_eq_true (by kernel_rfl)) (by unfold Func.isWrapper; first | (rw [if_pos (by decide +kernel)]; kernel_rfl) | (rw [if_neg (by decide +kernel)]; exact ⟨rfl, rfl⟩))
    (fun os started H enc _ => lifted os started H enc)

/-- The statement. -/
theorem proved : Rows.PathsCheckCardSaid :=
  Claim7.holds_tied_plain_at .later [] [.data, .data] true _ false
    over (fun _ h => by cases h) (by kernel_rfl) (fun _ h => by cases h) pathsCheck_row_tie rfl ⟨rfl, rfl⟩ (by kernel_rfl) rfl
    (fun f fn hf hfn => by
      obtain rfl : f = 8 := Option.some.inj ((show Tryd.prog.funcNamed "speculum/speculumlaw06.PathsCheck" = some 8 by kernel_rfl).symm.trans hf) |>.symm
      obtain rfl : fn = Tryd.f8 := (Option.some.inj (Tryd.func8.symm.trans hfn)).symm
      exact ⟨by kernel_rfl, fun j t ht => by
        rw [Tryd.params8] at ht
        have hm : t ∈ [50, 22, 31] := by simpa using Array.mem_of_getElem? ht
        have hall : ([50, 22, 31].all fun u => !Tryd.prog.wantsStandIn u) = true := by kernel_rfl
        exact (show Tryd.prog.wantsStandIn t = false by simpa using List.all_eq_true.1 hall t hm)⟩)
    (by kernel_rfl)
#print axioms proved
end Go.Proofs.YtfakimbneenfdaaDoor.check
