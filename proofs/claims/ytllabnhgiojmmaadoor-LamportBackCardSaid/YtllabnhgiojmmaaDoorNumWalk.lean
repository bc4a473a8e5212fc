/-
  The walk of codec.Num (layer 3): a number's bytes; what the call makes is new memory, nothing that was there changes. Condition: the number has 64 bits.
-/
import Derived.Test.YtllabnhgiojmmaaDoorNumMath
import Derived.Test.YtllabnhgiojmmaaDoorRow
import Derived.Laws.BytesArg
namespace Go.Proofs.YtllabnhgiojmmaaDoor
open Go.RowKit
set_option linter.unusedVariables false

/-- A number's bytes, as a text. -/
def numS (n : Nat) : ByteArray := strOfNums (Codec.numL n)
theorem numS_size (n : Nat) (h : n < 18446744073709551616) : (numS n).size ≤ 10 := by
  unfold numS; rw [strOfNums_size]; exact Codec.numL_length n h
set_option maxRecDepth 100000 in
theorem or128 (v : Nat) : bits .or .u8 ((v : Int) % 256) 128 = ((v % 128 + 128 : Nat) : Int) := by
  rw [show (v : Int) % 256 = ((v % 256 : Nat) : Int) by omega]
  have key : ∀ x : Fin 256, bits .or .u8 ((x.val : Nat) : Int) 128 = ((x.val % 128 + 128 : Nat) : Int) := by decide +kernel
  have h := key ⟨v % 256, Nat.mod_lt _ (by decide)⟩
  rw [h]
  show (((v % 256) % 128 + 128 : Nat) : Int) = _
  rw [Nat.mod_mod_of_dvd v (show 128 ∣ 256 by decide)]
/-- The ten bytes, of which the last ones are filled. -/
def numRow (L : List Int) : List Int := List.replicate (10 - L.length) 0 ++ L
theorem numRow_set (L : List Int) (x : Int) (h : L.length ≤ 9) : (numRow L).set (10 - L.length - 1) x = numRow (x :: L) := by
  unfold numRow
  rw [show 10 - L.length = (10 - (x :: L).length) + 1 by simp; omega, List.replicate_succ', List.append_assoc, List.set_append_right _ _ (by simp)]
  simp
def NumHead (n : Nat) (w wr : World) (v : Nat) (L : List Int) : Prop :=
  Codec.numL n = Codec.upN v ++ L ∧ v < 18446744073709551616 ∧ (1 ≤ L.length ∧ L.length ≤ 10) ∧ (0 < v → L.length ≤ 9) ∧ Row wr w.heap.size 71 (nums .u8 (numRow L)) ∧ Below w.heap.size w wr
set_option maxRecDepth 100000 in
theorem NumHead.start (n : Nat) (hn : n < 18446744073709551616) (w : World) :
    NumHead n w (w.alloc (.cells #[.int .u8 0, .int .u8 0, .int .u8 0, .int .u8 0, .int .u8 0, .int .u8 0, .int .u8 0, .int .u8 0, .int .u8 0, .int .u8 ((n : Int) % 128)] 71)) (n / 128) [((n % 128 : Nat) : Int)] :=
  ⟨rfl, by omega, by simp, by simp, Row.made w 71 (nums .u8 (numRow [((n % 128 : Nat) : Int)])), (Below.refl _ _).alloc (Nat.le_refl _) _⟩
theorem NumHead.next {n : Nat} {w wr : World} {v : Nat} {L : List Int} (hn : n < 18446744073709551616) (H : NumHead n w wr v L) (hv : 0 < v) :
    NumHead n w (wr.setCell ⟨w.heap.size, 10 - L.length - 1, none⟩ (.int .u8 ((v % 128 + 128 : Nat) : Int))) (v / 128) (((v % 128 + 128 : Nat) : Int) :: L) := by
  obtain ⟨h1, h2, h3, h4, h5, h6⟩ := H
  have h9 := h4 hv
  have e : Codec.numL n = Codec.upN (v / 128) ++ ((v % 128 + 128 : Nat) : Int) :: L := by rw [h1, Codec.upN_pos v hv (by omega)]; simp
  refine ⟨e, by omega, by simp; omega, fun h => ?_, ?_, h6.setCell (Nat.le_refl _) _⟩
  · have hl := congrArg List.length e
    rw [Codec.upN_pos (v / 128) h (by omega)] at hl
    have := Codec.numL_length n hn
    simp at hl; simp; omega
  · have := h5.numPut (10 - L.length - 1) ((v % 128 + 128 : Nat) : Int)
    rwa [numRow_set L _ h9] at this
theorem ret_val {k : IntKind} {a b : Int} (h : a = b) : Value.int k a = Value.int k b := by rw [h]
theorem one8b (w : World) : (sizeOf (Tryd.prog.elem 71)).run Tryd.prog w = .ok 1 w := by kernel_rfl
theorem slice10 (g a : Nat) (h : a < 10) (w : World) : (Instr.sliceAt 71 (.pointer (some ⟨g, 0, none⟩)) (some (.int .i64 (a : Int))) none none).run Tryd.prog w = .ok (.slice (some ⟨g, a, none⟩) (10 - a) (10 - a)) w := by
  have e : Tryd.prog.arrayLen 71 = 10 := by kernel_rfl
  rw [run_sliceAt_array_l w 71 ⟨g, 0, none⟩ (by kernel_rfl) .i64 (a : Int) (by omega) (by rw [e]; omega), one8b, e]
  simp only [Result.andThen, slicedAt, Int.toNat_natCast, if_neg (show ¬ 10 = a by omega), Nat.mul_one]
  congr 4
  unfold Addr.add
  split <;> simp_all
theorem NumHead.text {n : Nat} {w wr : World} {v : Nat} {L : List Int} (H : NumHead n w wr v L) (hv : v = 0) :
    (convert 41 9 (.slice (some ⟨w.heap.size, 10 - L.length, none⟩) (10 - (10 - L.length)) (10 - (10 - L.length)))).run Tryd.prog wr = .ok (.string (numS n)) wr := by
  obtain ⟨h1, h2, h3, h4, h5, h6⟩ := H
  subst hv
  rw [Codec.upN_zero, List.nil_append] at h1
  unfold numS
  rw [h1]
  exact run_convert_bytes_arg wr 41 5 Tryd.underlying41 Tryd.underlying5 w.heap.size (10 - L.length) _ _ L (by omega) (fun i hi => by
    have := h5.num (i := 10 - L.length + i) (by simp [numRow]; omega)
    rw [this]
    unfold numRow
    rw [List.getD_eq_getElem?_getD, List.getElem?_append_right (by simp)]
    simp [List.getD_eq_getElem?_getD]) 9 Tryd.underlying9
set_option maxHeartbeats 1000000 in
set_option maxRecDepth 100000 in
theorem num_any (n : Nat) (hn : n < 18446744073709551616) (w : World) :
    Calls Tryd.prog 42 #[.int .u64 (n : Int)] w fun e w' => e = .returned (.string (numS n)) ∧ Below w.heap.size w w' := by
  have H0 := Lib.hid (NumHead.start n hn w)
  go_enter Tryd.func42, Tryd.ntmps42
  go_wp2
  go_loopw [0, 4] (fun s0 s4 wr => ∃ v L, s0 = .int .u64 ((v : Nat) : Int) ∧ s4 = .int .i64 ((10 - L.length : Nat) : Int) ∧ Hid (NumHead n w wr v L)) (fun s0 _ _ => (intOf s0).toNat)
  case atStart => exact ⟨n / 128, [((n % 128 : Nat) : Int)], by go_num, rfl, H0⟩
  case round =>
    clear H0
    obtain ⟨v, L, rfl, rfl, HH⟩ := hrel
    have hvb := HH.out.2.1
    by_cases hv : 0 < v
    · have hL := HH.out.2.2.2.1 hv
      have hc := HH.out.2.2.2.2.1.num (i := 10 - L.length - 1) (by simp [numRow]; omega)
      have hf := HH.out.2.2.2.2.1.free (10 - L.length - 1)
      have ho := or128 v
      obtain ⟨a, ha⟩ : ∃ a : Nat, Hid (a = 10 - L.length) := ⟨_, Lib.hid rfl⟩
      have ha1 : 1 ≤ a := by have := ha.out; omega
      have ha2 : a ≤ 10 := by have := ha.out; omega
      rw [← ha.out] at hc hf ⊢
      go_wp2
      go_roundw
      case rel =>
        have h1 := HH.out.next hn hv
        rw [← ha.out, show (((v % 128 + 128 : Nat) : Int)) = (v : Int) % 128 + 128 by omega] at h1
        exact ⟨v / 128, _ :: L, by go_num, ret_val (by have := ha.out; simp; omega), Lib.hid h1⟩
      case measure => simp [intOf]; omega
    · have ht := HH.out.text (by omega)
      obtain ⟨a, ha⟩ : ∃ a : Nat, Hid (a = 10 - L.length) := ⟨_, Lib.hid rfl⟩
      have ha2 : a < 10 := by have := ha.out; have := HH.out.2.2.1; omega
      have hs := slice10 w.heap.size a ha2
      rw [← ha.out] at ht ⊢
      have HB := Lib.hid HH.out.2.2.2.2.2
      have hz : v = 0 := by omega
      subst hz
      go_wp2
      go_ret
      exact ⟨rfl, HB.out⟩
end Go.Proofs.YtllabnhgiojmmaaDoor
