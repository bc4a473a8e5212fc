/-
  Several texts in one (a claim has room for 60 files): ShaCard, ListCard, LampArg.
-/
import Derived.Test.YtgnkdkehooagpaaDoorPk03
import Derived.Test.YtgnkdkehooagpaaDoorPk04
import Derived.Test.YtgnkdkehooagpaaDoorTie
import Derived.Test.YtgnkdkehooagpaaDoorCards
import Derived.ProofKit
import Derived.LaidMore
import Derived.OpenShut
import Derived.ShutString
import Derived.ChangeOld
import Derived.Stop.Joined
import Derived.SevenTiedAt
import Derived.Lib.LaidTab
import Derived.Lib.LaidU8
namespace Go.Proofs.YtgnkdkehooagpaaDoor
open Go.ChangeShapes Go.WideShapes Go.ChangeAt Go.RowKit
set_option linter.unusedVariables false
set_option maxRecDepth 100000

theorem laidOut : laidOutB Tryd.prog = true := by kernel_rfl
theorem own : ownKnob Tryd.prog.godebug = none := by kernel_rfl
theorem gStart : Tryd.prog.globalNamed "speculum/sha.start" = some 0 := by kernel_rfl
theorem gRounds : Tryd.prog.globalNamed "speculum/sha.rounds" = some 1 := by kernel_rfl
theorem tStart : (Tryd.prog.globals[0]?).map (·.type) = some 78 := by kernel_rfl
theorem tRounds : (Tryd.prog.globals[1]?).map (·.type) = some 84 := by kernel_rfl
theorem cW : Tryd.prog.cellsOf 76 = 1 := by kernel_rfl
theorem c8 : Tryd.prog.cellsOf 78 = 8 := by kernel_rfl
theorem c64 : Tryd.prog.cellsOf 84 = 64 := by kernel_rfl
theorem cHash : Tryd.prog.cellsOf 23 = 32 := by kernel_rfl
theorem cByte : Tryd.prog.cellsOf 5 = 1 := by kernel_rfl
def laid2 : List (String × DataW Unit) := [("speculum/sha.start", Rows.laid_speculum_sha_start), ("speculum/sha.rounds", Rows.laid_speculum_sha_rounds)]
theorem door_met (os : Os) (args : Array Value) : laidMetH Tryd.prog laid2 ((World.doorLaid Tryd.prog 400 os).forCall (fun _ _ => 0) ⟨#[], args, []⟩).memory :=
  laidMetH_of_parts3 (fuel := 8) (laidMet_of_run' 8 (by kernel_rfl) (by kernel_rfl)) (by kernel_rfl) (by kernel_rfl)
theorem tab_of_reads {W : World} {name : String} {zs : List Int} {d : DataW Unit} {g : Nat} {t : TypeId} {n : Nat} (hv : Lib.VarReads Tryd.prog W name d) (hd : d = Lib.tabData .u32 zs)
    (hg : Tryd.prog.globalNamed name = some g) (hty : (Tryd.prog.globals[g]?).map (·.type) = some t) (ht : Tryd.prog.underlying t = some (.array n 76)) (hct : Tryd.prog.cellsOf t = n) : Lib.TabIs Tryd.prog W name .u32 zs := by
  obtain ⟨g', t', cs, fuel, p, hg', ht', hvar, hr⟩ := hv
  obtain rfl := Option.some.inj (hg.symm.trans hg')
  obtain rfl := Option.some.inj (hty.symm.trans ht')
  subst hd
  unfold Lib.TabIs
  rw [hvar, ← Lib.cells_of_tab ht Tryd.underlying76 cW hct hr]
theorem of_laid {W : World} (h : laidMetH Tryd.prog laid2 W) : Tab W := by
  rw [MakeChecks.laidMetH_plain _ _ _ (by kernel_rfl)] at h
  have v1 := Lib.laidMet.reads h (show ("speculum/sha.start", Rows.laid_speculum_sha_start) ∈ laid2 by simp [laid2])
  have v2 := Lib.laidMet.reads h (show ("speculum/sha.rounds", Rows.laid_speculum_sha_rounds) ∈ laid2 by simp [laid2])
  have t1 := tab_of_reads (zs := Hs.list) v1 rfl gStart tStart Tryd.underlying78 c8
  have t2 := tab_of_reads (zs := Ks) v2 rfl gRounds tRounds Tryd.underlying84 c64
  exact ⟨fun i hi => t2.cell gRounds i hi, fun i hi => t1.cell gStart i hi⟩
theorem of_one (l : List Value) (i : Nat) (v : Value) (h : (l.drop i).take 1 = [v]) : l[i]? = some v := by
  have := congrArg (fun x => x[0]?) h
  simpa [List.getElem?_take, List.getElem?_drop] using this
def numOf : Option Value → Int
  | some (.int _ k) => k
  | _ => 0
/-- A hash, opened. -/
theorem open_hash {H : Type} {enc : TypeId × Value → H} {W : World} {base b0 : Nat} {sp : Nat → Bool} {v : Value} {d : DataW H} {ps : List MemPlace}
    (hval : Value.okWide Tryd.prog W .any b0 23 v) (h : DataW.Trod enc Tryd.prog W base sp true 23 v d ps) :
    ∃ l : List Int, v = .agg (nums .u8 l) ∧ l.length = 32 ∧ bytes l := by
  obtain ⟨cs, rfl, hsz⟩ : ∃ cs, v = .agg cs ∧ cs.size = Tryd.prog.cellsOf 23 := by
    have := hval
    simp [Value.okWide, Tryd.underlying23] at this
    obtain ⟨cs, h1, h2, _⟩ := this
    exact ⟨cs, h1, h2⟩
  rw [cHash] at hsz
  obtain ⟨fuel, hf⟩ := h
  obtain ⟨xs, m, _, _, _, hl, hx⟩ := DataW.trod_array Tryd.underlying23 hf
  have key : ∀ i, i < 32 → ∃ k : Int, cs[i]? = some (.int .u8 k) ∧ 0 ≤ k ∧ k < 256 := fun i hi => by
    have e0 := hx i hi
    rw [List.getElem?_eq_getElem (show i < xs.length by omega)] at e0
    obtain ⟨k, hk, _, wk⟩ := DataW.trod_int Tryd.underlying5 e0
    have b := bounds_u8 wk
    simp only [cByte, Value.cells, Nat.mul_one] at hk
    have h1 := of_one cs.toList i _ hk
    exact ⟨k, by simpa using h1, b.1, by omega⟩
  refine ⟨(List.range 32).map fun i => numOf cs[i]?, ?_, by simp, ?_⟩
  · congr 1
    apply Array.ext_getElem?
    intro i
    by_cases hi : i < 32
    · obtain ⟨k, hk, _⟩ := key i hi
      rw [nums_get .u8 _ i (by simpa using hi), hk]
      have e : ((List.range 32).map fun i => numOf cs[i]?).getD i 0 = k := by simp [List.getD, hi, hk, numOf]
      rw [e]
    · rw [Array.getElem?_eq_none (by omega), Array.getElem?_eq_none (by rw [nums_size]; simp; omega)]
  · intro x hxm
    obtain ⟨i, hi, rfl⟩ := List.mem_map.1 hxm
    obtain ⟨k, hk, b1, b2⟩ := key i (by simpa using hi)
    rw [hk]
    exact ⟨b1, b2⟩
end Go.Proofs.YtgnkdkehooagpaaDoor
namespace Go.Proofs.YtgnkdkehooagpaaDoor
open Go.ChangeShapes Go.WideShapes Go.ChangeAt Go.RowKit
set_option linter.unusedVariables false
set_option maxRecDepth 100000

/-- A hash's cells, opened. -/
theorem hash_cells {H : Type} {enc : TypeId × Value → H} {W : World} {base : Nat} {sp : Nat → Bool} {fuel : Nat} {cs : List Value} {x : DataW H × List MemPlace}
    (h : DataW.trod enc Tryd.prog W base sp true fuel 23 cs = some x) (hl : cs.length = 32) :
    ∃ l : List Int, l.length = 32 ∧ (∀ y ∈ l, 0 ≤ y ∧ y < 256) ∧ ∀ j, j < 32 → cs[j]? = some (.int .u8 (l.getD j 0)) := by
  obtain ⟨xs, m, _, _, _, hxl, hx⟩ := DataW.trod_array Tryd.underlying23 h
  have key : ∀ i, i < 32 → ∃ k : Int, cs[i]? = some (.int .u8 k) ∧ 0 ≤ k ∧ k < 256 := fun i hi => by
    have e0 := hx i hi
    rw [List.getElem?_eq_getElem (show i < xs.length by omega)] at e0
    obtain ⟨k, hk, _, wk⟩ := DataW.trod_int Tryd.underlying5 e0
    have b := bounds_u8 wk
    simp only [cByte, Nat.mul_one] at hk
    exact ⟨k, of_one cs i _ hk, b.1, by omega⟩
  refine ⟨(List.range 32).map fun i => numOf cs[i]?, by simp, ?_, fun j hj => ?_⟩
  · intro y hy
    obtain ⟨i, hi, rfl⟩ := List.mem_map.1 hy
    obtain ⟨k, hk, b1, b2⟩ := key i (by simpa using hi)
    rw [hk]
    exact ⟨b1, b2⟩
  · obtain ⟨k, hk, _⟩ := key j hj
    have e : ((List.range 32).map fun i => numOf cs[i]?).getD j 0 = k := by simp [List.getD, hj, hk, numOf]
    rw [e, hk]
/-- A list of hashes, opened. -/
theorem open_list {H : Type} {enc : TypeId × Value → H} {W : World} {base b0 : Nat} {sp : Nat → Bool} {v : Value} {d : DataW H} {ps : List MemPlace}
    (hval : Value.okWide Tryd.prog W .any b0 27 v) (h : DataW.Trod enc Tryd.prog W base sp true 27 v d ps) :
    ∃ A c ls, v = .slice A ls.length c ∧ hashes ls ∧ HL W W.heap.size A ls ∧ ls.length ≤ c ∧ c ≤ maxLen := by
  obtain ⟨A, len, cap, rfl⟩ := okWide_slice Tryd.underlying27 hval
  obtain ⟨fuel, hf⟩ := h
  rcases DataW.trod_slice Tryd.underlying27 hf with ⟨hcs, hx⟩ | ⟨a, len', cap', elems, rest, n, _, hcs, hx, hb, hl, hm, hlen, hel, _⟩
  · simp [Value.cells] at hcs
    obtain ⟨rfl, rfl, rfl⟩ := hcs
    exact ⟨none, 0, [], rfl, fun l h => by (cases h), HL.nil _ _ _, Nat.le_refl _, by simp⟩
  · simp [Value.cells] at hcs
    obtain ⟨rfl, rfl, rfl⟩ := hcs
    have each : ∀ i, i < len → ∃ l : List Int, l.length = 32 ∧ (∀ y ∈ l, 0 ≤ y ∧ y < 256) ∧ ∀ j, j < 32 → W.cell? (a.add (i * 32 + j)) = some (.int .u8 (l.getD j 0)) := fun i hi => by
      have e0 := hel i hi
      rw [List.getElem?_eq_getElem (show i < elems.length by omega), Option.bind_eq_some_iff, cHash] at e0
      obtain ⟨cs, hc, ht⟩ := e0
      obtain ⟨_, hcl, hcc⟩ := World.cells?_some hc
      obtain ⟨l, h1, h2, h3⟩ := hash_cells ht hcl
      refine ⟨l, h1, h2, fun j hj => ?_⟩
      rw [← add_of_add, hcc j hj]
      exact h3 j hj
    have hex : ∃ f : Nat → List Int, ∀ i, i < len → (f i).length = 32 ∧ (∀ y ∈ f i, 0 ≤ y ∧ y < 256) ∧ ∀ j, j < 32 → W.cell? (a.add (i * 32 + j)) = some (.int .u8 ((f i).getD j 0)) :=
      ⟨fun i => if h : i < len then (each i h).choose else [], fun i hi => by simp only [dif_pos hi]; exact (each i hi).choose_spec⟩
    obtain ⟨f, hf⟩ := hex
    have hll : ((List.range len).map f).length = len := by simp
    refine ⟨some a, cap, (List.range len).map f, by rw [hll], fun l hl' => ?_, fun i hi => ?_, by rw [hll]; omega, by omega⟩
    · obtain ⟨i, hi, rfl⟩ := List.mem_map.1 hl'
      have := hf i (by simpa using hi)
      exact ⟨this.1, this.2.1⟩
    · rw [hll] at hi
      have hfi := hf i hi
      have e : ((List.range len).map f).getD i [] = f i := by simp [List.getD, hi]
      refine ⟨a, rfl, ?_, fun j hj => ?_⟩
      · have := block_lt_of_cell (hfi.2.2 0 (by omega))
        rwa [block_of_add] at this
      · rw [e]; exact hfi.2.2 j hj
end Go.Proofs.YtgnkdkehooagpaaDoor
namespace Go.Proofs.YtgnkdkehooagpaaDoor
open Go.ChangeShapes Go.WideShapes Go.ChangeAt Go.RowKit
set_option linter.unusedVariables false
set_option maxRecDepth 100000

theorem cPair : Tryd.prog.cellsOf 50 = 64 := by kernel_rfl
/-- Two hashes, opened. -/
theorem open_pair {H : Type} {enc : TypeId × Value → H} {W : World} {base b0 : Nat} {sp : Nat → Bool} {v : Value} {d : DataW H} {ps : List MemPlace}
    (hval : Value.okWide Tryd.prog W .any b0 50 v) (h : DataW.Trod enc Tryd.prog W base sp true 50 v d ps) :
    ∃ a b : List Int, v = .agg (nums .u8 (a ++ b)) ∧ (a.length = 32 ∧ bytes a) ∧ (b.length = 32 ∧ bytes b) := by
  obtain ⟨cs, rfl, hsz⟩ : ∃ cs, v = .agg cs ∧ cs.size = Tryd.prog.cellsOf 50 := by
    have := hval
    simp [Value.okWide, Tryd.underlying50] at this
    obtain ⟨cs, h1, h2, _⟩ := this
    exact ⟨cs, h1, h2⟩
  rw [cPair] at hsz
  obtain ⟨fuel, hf⟩ := h
  obtain ⟨xs, m, _, _, _, hl, hx⟩ := DataW.trod_array Tryd.underlying50 hf
  have e0 := hx 0 (by omega)
  have e1 := hx 1 (by omega)
  rw [List.getElem?_eq_getElem (show 0 < xs.length by omega)] at e0
  rw [List.getElem?_eq_getElem (show 1 < xs.length by omega)] at e1
  simp only [cHash, Value.cells] at e0 e1
  obtain ⟨a, a1, a2, a3⟩ := hash_cells e0 (by simp; omega)
  obtain ⟨b, b1, b2, b3⟩ := hash_cells e1 (by simp; omega)
  refine ⟨a, b, ?_, ⟨a1, a2⟩, ⟨b1, b2⟩⟩
  congr 1
  apply Array.ext_getElem?
  intro i
  by_cases hi : i < 32
  · have h3 := a3 i hi
    rw [List.getElem?_take, if_pos hi, List.getElem?_drop, Array.getElem?_toList] at h3
    rw [nums_get .u8 _ i (by rw [List.length_append]; omega), List.getD_eq_getElem?_getD, List.getElem?_append_left (by omega), ← List.getD_eq_getElem?_getD]
    simpa using h3
  · by_cases hj : i < 64
    · have h3 := b3 (i - 32) (by omega)
      rw [List.getElem?_take, if_pos (by omega), List.getElem?_drop, Array.getElem?_toList] at h3
      rw [nums_get .u8 _ i (by rw [List.length_append]; omega), List.getD_eq_getElem?_getD, List.getElem?_append_right (by omega), a1, ← List.getD_eq_getElem?_getD]
      rwa [show 1 * 32 + (i - 32) = i by omega] at h3
    · rw [Array.getElem?_eq_none (by omega), Array.getElem?_eq_none (by rw [nums_size, List.length_append]; omega)]
/-- An array of numbers, opened. -/
theorem open_nums {ty elem : TypeId} {k : IntKind} {n : Nat} (hu : Tryd.prog.underlying ty = some (.array n elem)) (he : Tryd.prog.underlying elem = some (.int k)) (hc : Tryd.prog.cellsOf ty = n) (hce : Tryd.prog.cellsOf elem = 1)
    {H : Type} {enc : TypeId × Value → H} {W : World} {base b0 : Nat} {sp : Nat → Bool} {v : Value} {d : DataW H} {ps : List MemPlace}
    (hval : Value.okWide Tryd.prog W .any b0 ty v) (h : DataW.Trod enc Tryd.prog W base sp true ty v d ps) :
    ∃ l : List Int, v = .agg (nums k l) ∧ l.length = n ∧ ∀ x ∈ l, (Lit.int k x).wf = true := by
  obtain ⟨cs, rfl, hsz⟩ : ∃ cs, v = .agg cs ∧ cs.size = Tryd.prog.cellsOf ty := by
    have := hval
    simp [Value.okWide, hu] at this
    obtain ⟨cs, h1, h2, _⟩ := this
    exact ⟨cs, h1, h2⟩
  rw [hc] at hsz
  obtain ⟨fuel, hf⟩ := h
  obtain ⟨xs, m, _, _, _, hl, hx⟩ := DataW.trod_array hu hf
  have key : ∀ i, i < n → ∃ y : Int, cs[i]? = some (.int k y) ∧ (Lit.int k y).wf = true := fun i hi => by
    have e0 := hx i hi
    rw [List.getElem?_eq_getElem (show i < xs.length by omega)] at e0
    obtain ⟨y, hk, _, wk⟩ := DataW.trod_int he e0
    simp only [hce, Value.cells, Nat.mul_one] at hk
    have h1 := of_one cs.toList i _ hk
    exact ⟨y, by simpa using h1, wk⟩
  refine ⟨(List.range n).map fun i => numOf cs[i]?, ?_, by simp, ?_⟩
  · congr 1
    apply Array.ext_getElem?
    intro i
    by_cases hi : i < n
    · obtain ⟨y, hk, _⟩ := key i hi
      rw [nums_get k _ i (by simpa using hi), hk]
      have e : ((List.range n).map fun i => numOf cs[i]?).getD i 0 = y := by simp [List.getD, hi, hk, numOf]
      rw [e]
    · rw [Array.getElem?_eq_none (by omega), Array.getElem?_eq_none (by rw [nums_size]; simp; omega)]
  · intro x hxm
    obtain ⟨i, hi, rfl⟩ := List.mem_map.1 hxm
    obtain ⟨y, hk, b1⟩ := key i (by simpa using hi)
    rw [hk]
    exact b1
theorem of_three {l : List Int} (h : l.length = 3) : ∃ a b c, l = [a, b, c] := by
  match l, h with
  | [a, b, c], _ => exact ⟨a, b, c, rfl⟩
theorem of_six {l : List Int} (h : l.length = 6) : ∃ a b c d e f, l = [a, b, c, d, e, f] := by
  match l, h with
  | [a, b, c, d, e, f], _ => exact ⟨a, b, c, d, e, f, rfl⟩
end Go.Proofs.YtgnkdkehooagpaaDoor
