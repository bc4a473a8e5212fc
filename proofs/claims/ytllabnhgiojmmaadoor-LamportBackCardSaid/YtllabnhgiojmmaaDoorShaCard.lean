/-
  From the row's condition to what the walks ask of the two tables; the start that meets it; hashes as arguments.
-/
import Derived.Test.YtllabnhgiojmmaaDoorShaSum
import Derived.Test.YtllabnhgiojmmaaDoorHexMath
import Derived.Test.YtllabnhgiojmmaaDoorTie
import Derived.Test.YtllabnhgiojmmaaDoorCards
import Derived.ProofKit
import Derived.LaidMore
import Derived.OpenShut
import Derived.ShutString
import Derived.ChangeOld
import Derived.Stop.Joined
import Derived.SevenTiedAt
import Derived.Lib.LaidTab
import Derived.Lib.LaidU8
namespace Go.Proofs.YtllabnhgiojmmaaDoor
open Go.ChangeShapes Go.WideShapes Go.ChangeAt Go.RowKit
set_option linter.unusedVariables false
set_option maxRecDepth 100000

theorem laidOut : laidOutB Tryd.prog = true := by kernel_rfl
theorem own : ownKnob Tryd.prog.godebug = none := by kernel_rfl
theorem gStart : Tryd.prog.globalNamed "speculum/sha.start" = some 0 := by kernel_rfl
theorem gRounds : Tryd.prog.globalNamed "speculum/sha.rounds" = some 1 := by kernel_rfl
theorem tStart : (Tryd.prog.globals[0]?).map (·.type) = some 66 := by kernel_rfl
theorem tRounds : (Tryd.prog.globals[1]?).map (·.type) = some 60 := by kernel_rfl
theorem cW : Tryd.prog.cellsOf 59 = 1 := by kernel_rfl
theorem c8 : Tryd.prog.cellsOf 66 = 8 := by kernel_rfl
theorem c64 : Tryd.prog.cellsOf 60 = 64 := by kernel_rfl
theorem cHash : Tryd.prog.cellsOf 24 = 32 := by kernel_rfl
theorem cByte : Tryd.prog.cellsOf 5 = 1 := by kernel_rfl
def laid2 : List (String × DataW Unit) := [("speculum/sha.start", Rows.laid_speculum_sha_start), ("speculum/sha.rounds", Rows.laid_speculum_sha_rounds)]
theorem door_met (os : Os) (args : Array Value) : laidMetH Tryd.prog laid2 ((World.doorLaid Tryd.prog 400 os).forCall (fun _ _ => 0) ⟨#[], args, []⟩).memory :=
  laidMetH_of_parts3 (fuel := 8) (laidMet_of_run' 8 (by kernel_rfl) (by kernel_rfl)) (by kernel_rfl) (by kernel_rfl)
theorem tab_of_reads {W : World} {name : String} {zs : List Int} {d : DataW Unit} {g : Nat} {t : TypeId} {n : Nat} (hv : Lib.VarReads Tryd.prog W name d) (hd : d = Lib.tabData .u32 zs)
    (hg : Tryd.prog.globalNamed name = some g) (hty : (Tryd.prog.globals[g]?).map (·.type) = some t) (ht : Tryd.prog.underlying t = some (.array n 59)) (hct : Tryd.prog.cellsOf t = n) : Lib.TabIs Tryd.prog W name .u32 zs := by
  obtain ⟨g', t', cs, fuel, p, hg', ht', hvar, hr⟩ := hv
  obtain rfl := Option.some.inj (hg.symm.trans hg')
  obtain rfl := Option.some.inj (hty.symm.trans ht')
  subst hd
  unfold Lib.TabIs
  rw [hvar, ← Lib.cells_of_tab ht Tryd.underlying59 cW hct hr]
theorem of_laid {W : World} (h : laidMetH Tryd.prog laid2 W) : Tab W := by
  rw [MakeChecks.laidMetH_plain _ _ _ (by kernel_rfl)] at h
  have v1 := Lib.laidMet.reads h (show ("speculum/sha.start", Rows.laid_speculum_sha_start) ∈ laid2 by simp [laid2])
  have v2 := Lib.laidMet.reads h (show ("speculum/sha.rounds", Rows.laid_speculum_sha_rounds) ∈ laid2 by simp [laid2])
  have t1 := tab_of_reads (zs := Hs.list) v1 rfl gStart tStart Tryd.underlying66 c8
  have t2 := tab_of_reads (zs := Ks) v2 rfl gRounds tRounds Tryd.underlying60 c64
  exact ⟨fun i hi => t2.cell gRounds i hi, fun i hi => t1.cell gStart i hi⟩
theorem of_one (l : List Value) (i : Nat) (v : Value) (h : (l.drop i).take 1 = [v]) : l[i]? = some v := by
  have := congrArg (fun x => x[0]?) h
  simpa [List.getElem?_take, List.getElem?_drop] using this
def numOf : Option Value → Int
  | some (.int _ k) => k
  | _ => 0
/-- A hash, opened. -/
theorem open_hash {H : Type} {enc : TypeId × Value → H} {W : World} {base b0 : Nat} {sp : Nat → Bool} {v : Value} {d : DataW H} {ps : List MemPlace}
    (hval : Value.okWide Tryd.prog W .any b0 24 v) (h : DataW.Trod enc Tryd.prog W base sp true 24 v d ps) :
    ∃ l : List Int, v = .agg (nums .u8 l) ∧ l.length = 32 ∧ bytes l := by
  obtain ⟨cs, rfl, hsz⟩ : ∃ cs, v = .agg cs ∧ cs.size = Tryd.prog.cellsOf 24 := by
    have := hval
    simp [Value.okWide, Tryd.underlying24] at this
    obtain ⟨cs, h1, h2, _⟩ := this
    exact ⟨cs, h1, h2⟩
  rw [cHash] at hsz
  obtain ⟨fuel, hf⟩ := h
  obtain ⟨xs, m, _, _, _, hl, hx⟩ := DataW.trod_array Tryd.underlying24 hf
  have key : ∀ i, i < 32 → ∃ k : Int, cs[i]? = some (.int .u8 k) ∧ 0 ≤ k ∧ k < 256 := fun i hi => by
    have e0 := hx i hi
    rw [List.getElem?_eq_getElem (show i < xs.length by omega)] at e0
    obtain ⟨k, hk, _, wk⟩ := DataW.trod_int Tryd.underlying5 e0
    have b := bounds_u8 wk
    simp only [cByte, Value.cells, Nat.mul_one] at hk
    have h1 := of_one cs.toList i _ hk
    exact ⟨k, by simpa using h1, b.1, by omega⟩
  refine ⟨(List.range 32).map fun i => numOf cs[i]?, ?_, by simp, ?_⟩
  · congr 1
    apply Array.ext_getElem?
    intro i
    by_cases hi : i < 32
    · obtain ⟨k, hk, _⟩ := key i hi
      rw [nums_get .u8 _ i (by simpa using hi), hk]
      have e : ((List.range 32).map fun i => numOf cs[i]?).getD i 0 = k := by simp [List.getD, hi, hk, numOf]
      rw [e]
    · rw [Array.getElem?_eq_none (by omega), Array.getElem?_eq_none (by rw [nums_size]; simp; omega)]
  · intro x hxm
    obtain ⟨i, hi, rfl⟩ := List.mem_map.1 hxm
    obtain ⟨k, hk, b1, b2⟩ := key i (by simpa using hi)
    rw [hk]
    exact ⟨b1, b2⟩
end Go.Proofs.YtllabnhgiojmmaaDoor
