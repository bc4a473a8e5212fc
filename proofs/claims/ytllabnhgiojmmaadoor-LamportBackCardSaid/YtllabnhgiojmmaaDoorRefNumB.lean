/-
  The walks of the document's number's bytes (layer 3): ahead, Num; what the calls make is new memory, nothing that was there changes. Condition: the number has 64 bits.
-/
import Derived.Test.YtllabnhgiojmmaaDoorNumWalk
import Derived.Test.YtllabnhgiojmmaaDoorPut
import Derived.Test.YtllabnhgiojmmaaDoorText
import Derived.Deep.RegionWith
namespace Go.Proofs.YtllabnhgiojmmaaDoor
open Go.RowKit
set_option linter.unusedVariables false

theorem texts_app (a b : List Int) : strOfNums a ++ strOfNums b = strOfNums (a ++ b) := by
  simp only [strOfNums]
  rw [ByteArray.mk_append_mk]
  simp
theorem join_text (a b : ByteArray) (h : a.size + b.size ≤ 9223372036854775807) (w : World) : (Op.stringOp .add a b).run Tryd.prog w = .ok (.string (a ++ b)) w :=
  run_string_add_sum (P := Tryd.prog) (w := w) a b (by omega)
/-- A text of one byte, out of a slice of one. -/
theorem conv_one (W : World) (g : Nat) (x : Int) (h : W.cell? ⟨g, 0, none⟩ = some (.int .u8 x)) : (convert 41 9 (.slice (some ⟨g, 0, none⟩) 1 1)).run Tryd.prog W = .ok (.string (strOfNums [x])) W :=
  run_convert_bytes_arg W 41 5 Tryd.underlying41 Tryd.underlying5 g 0 1 1 [x] rfl (fun i hi => by
    obtain rfl : i = 0 := by omega
    simpa using h) 9 Tryd.underlying9
theorem conv_new (W : World) (x : Int) : (convert 41 9 (.slice (some ⟨W.heap.size, 0, none⟩) 1 1)).run Tryd.prog (W.alloc (.cells #[.int .u8 x] 5)) = .ok (.string (strOfNums [x])) (W.alloc (.cells #[.int .u8 x] 5)) :=
  conv_one _ _ x (by simp [World.cell?_alloc_new])
theorem conv_newd (W : World) (x : Int) : (convert 41 9 (.slice (some ⟨W.heap.size, 0, none⟩) 1 1)).run Tryd.prog (W.alloc (.cells #[.int .u8 x] 5)).drew = .ok (.string (strOfNums [x])) (W.alloc (.cells #[.int .u8 x] 5)).drew :=
  conv_one _ _ x (by simp [World.cell?_alloc_new])
theorem conv_next (W w1 : World) (x : Int) (hb : Below (W.alloc (.cells #[.int .u8 x] 5)).drew.heap.size (W.alloc (.cells #[.int .u8 x] 5)).drew w1) : (convert 41 9 (.slice (some ⟨W.heap.size, 0, none⟩) 1 1)).run Tryd.prog w1 = .ok (.string (strOfNums [x])) w1 :=
  conv_one _ _ x (by rw [hb.cell (p := ⟨W.heap.size, 0, none⟩) (by simp)]; simp [World.cell?_alloc_new])
set_option maxHeartbeats 1000000 in
set_option maxRecDepth 100000 in
theorem ahead_any (k : Nat) : ∀ (n : Nat) (w : World), 0 < n → n < 128 ^ k → n < 18446744073709551616 →
    Calls Tryd.prog 43 #[.int .u64 (n : Int)] w fun e w' => e = .returned (.string (strOfNums (Codec.upN n))) ∧ Below w.heap.size w w' := by
  induction k with
  | zero => intro n w h0 h1; simp at h1; omega
  | succ k ih =>
    intro n w h0 h1 hn
    have hU := Lib.hid (Codec.upN_pos n h0 (by omega))
    by_cases hlt : n < 128
    · have h1 : Hid (n / 128 = 0) := Lib.hid (by omega)
      have hi : (n : Int) < 128 := by omega
      have hi2 : decide ((n : Int) < 128) = true := decide_eq_true hi
      have hc := conv_new w ((n : Int) % 128 + 128)
      clear ih
      go_enter Tryd.func43, Tryd.ntmps43
      go_wp2_with fail
      go_ret
      refine ⟨?_, (Below.refl _ _).alloc (Nat.le_refl _) _⟩
      rw [hU.out, h1.out, Codec.upN_zero]
      rfl
    · have hc := conv_new w ((n : Int) % 128 + 128)
      have hd := ih (n / 128) (w.alloc (.cells #[.int .u8 ((n : Int) % 128 + 128)] 5)) (by omega) (by rw [Nat.pow_succ] at h1; omega) (by omega)
      have ha := join_text (strOfNums (Codec.upN (n / 128))) (strOfNums [(n : Int) % 128 + 128]) (by
        rw [strOfNums_size, strOfNums_size]
        have := Codec.upN_length 10 (n / 128) (by omega)
        simp; omega)
      rw [show ((n / 128 : Nat) : Int) = (n : Int) / 128 by omega] at hd
      have hi2 : decide ((n : Int) < 128) = false := decide_eq_false (by omega)
      clear ih
      go_enter Tryd.func43, Tryd.ntmps43
      go_wp2_with (go_at_call 43; (with_reducible refine hd.mono ?_); rintro e w1 ⟨rfl, hb⟩)
      go_ret
      refine ⟨?_, ((Below.refl _ _).alloc (Nat.le_refl _) _).trans (hb.mono (by simp))⟩
      rw [hU.out, ← texts_app]
      rfl
set_option maxHeartbeats 1000000 in
set_option maxRecDepth 100000 in
theorem refNum_any (n : Nat) (hn : n < 18446744073709551616) (w : World) :
    Calls Tryd.prog 39 #[.int .u64 (n : Int)] w fun e w' => e = .returned (.string (numS n)) ∧ Below w.heap.size w w' := by
  by_cases hlt : n < 128
  · have hU := Lib.hid (Codec.numL_small n hlt)
    have hi : (n : Int) < 128 := by omega
    have hi2 : decide ((n : Int) < 128) = true := decide_eq_true hi
    have hc := conv_new w (n : Int)
    go_enter Tryd.func39, Tryd.ntmps39
    go_wp2_with fail
    go_ret
    refine ⟨?_, (Below.refl _ _).alloc (Nat.le_refl _) _⟩
    unfold numS; rw [hU.out]; rfl
  · have hd : ∀ W, Calls Tryd.prog 43 #[.int .u64 ((n : Int) / 128)] W fun e w' => e = .returned (.string (strOfNums (Codec.upN (n / 128)))) ∧ Below W.heap.size W w' :=
      fun W => ahead_any 10 (n / 128) W (by omega) (by omega) (by omega)
    have HD := Lib.hid hd
    have hc1 := fun W => conv_new W ((n : Int) % 128)
    have hc2 := conv_newd w ((n : Int) % 128)
    have ha := join_text (strOfNums (Codec.upN (n / 128))) (strOfNums [(n : Int) % 128]) (by
      rw [strOfNums_size, strOfNums_size]
      have := Codec.upN_length 10 (n / 128) (by omega)
      simp; omega)
    clear hd
    have hR : Hid (numS n = strOfNums (Codec.upN (n / 128)) ++ strOfNums [(n : Int) % 128]) := Lib.hid (by rw [texts_app]; rfl)
    have ht : (n : Int).tmod 128 = (n : Int) % 128 := Int.tmod_eq_emod_of_nonneg (by omega)
    have hw1 : IntKind.u64.wrap ((n : Int) / 128) = (n : Int) / 128 := by rw [IntKind.wrap_u64]; omega
    have hw2 : IntKind.u8.wrap ((n : Int) % 128) = (n : Int) % 128 := by rw [IntKind.wrap_u8]; omega
    have hi2 : decide ((n : Int) < 128) = false := decide_eq_false (by omega)
    go_enter Tryd.func39, Tryd.ntmps39
    go_wp2_with fail
    go_region_with (go_at_call 43; (with_reducible refine (HD.out _).mono ?_); rintro e w1 ⟨rfl, hb⟩; (try have hc3 := conv_next _ _ _ hb); have HB := Lib.hid hb; clear hb)
    all_goals
      go_wp2
      go_ret
      refine ⟨ret_str hR.out.symm, ?_⟩
      first
      | exact (below_new (Below.refl _ _).drew HB.out).alloc (below_new (Below.refl _ _).drew HB.out).size _
      | exact below_new ((Below.refl _ _).alloc (Nat.le_refl _) _).drew HB.out
#print axioms refNum_any
end Go.Proofs.YtllabnhgiojmmaaDoor
