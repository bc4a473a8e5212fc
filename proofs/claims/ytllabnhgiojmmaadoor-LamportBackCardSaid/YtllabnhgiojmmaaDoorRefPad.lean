/-
  The walk of the document's pad (layer 2), for a text of at most 1000000 bytes: its bytes, one more, zeros, and its length in eight bytes. What it makes is new memory; nothing that was there changes.
-/
import Derived.Test.YtllabnhgiojmmaaDoorShaMath
import Derived.Test.YtllabnhgiojmmaaDoorGot
namespace Go.Proofs.YtllabnhgiojmmaaDoor
open Go.RowKit
set_option linter.unusedVariables false

/-- How many zeros. -/
def zerosN (n : Nat) : Nat := (119 - n % 64) % 64
theorem zerosN_lt (n : Nat) : zerosN n < 64 := by unfold zerosN; omega
theorem zerosN_is (n : Nat) : (n + 1 + zerosN n) % 64 = 56 := by unfold zerosN; omega
theorem zerosN_le (n z : Nat) (h : (n + 1 + z) % 64 = 56) (hz : z ≤ zerosN n) : z = zerosN n := by unfold zerosN at *; omega
/-- The first q of the eight bytes of a number. -/
def beL (N : Int) : Nat → List Int
  | 0 => []
  | q + 1 => beL N q ++ [N / 2 ^ (8 * (7 - q)) % 256]
def padL (s : ByteArray) : List Int := textL s ++ [128] ++ List.replicate (zerosN s.size) 0 ++ beL ((s.size : Int) * 8) 8
def lenV : Value → Nat
  | .slice _ n _ => n
  | _ => 0
set_option maxHeartbeats 4000000 in
set_option maxRecDepth 100000 in
theorem pad_any (s : ByteArray) (hs : s.size ≤ 1000000) (w : World) :
    Calls Tryd.prog 37 #[.string s] w fun ev w' => ∃ g cap, ev = .returned (.slice (some ⟨g, 0, none⟩) (s.size + 1 + zerosN s.size + 8) cap) ∧ Got w' w.heap.size g cap (padL s) (s.size + 1 + zerosN s.size + 8) ∧ Below w.heap.size w w' := by
  obtain ⟨wb, cap0, hcv, G0, B0⟩ := conv_text w s
  have hzl := zerosN_lt s.size
  go_enter Tryd.func37, Tryd.ntmps37
  go_wp2_with (at_builtin; refine wpList_append_got _ rfl (.tmp 7) (.tmp 8) rfl w.heap.size w.heap.size cap0 s.size (textL s) rfl (G0.out.alloc _) ?hB1 wb.heap.size 1 1 5 [128] rfl (by omega) rfl (Row.made wb _ _) (by omega) ?kont1)
  case hB1 => have := B0.out.size; simp; omega
  case kont1 =>
    intro g1 cap1 w1 G1 B1
    have GH : Hid (Got w1 w.heap.size g1 cap1 (textL s ++ [128] ++ List.replicate 0 0) (s.size + 1)) := Lib.hid (by simpa using G1)
    have BH : Hid (Below w.heap.size w w1) := Lib.hid ((B0.out.alloc B0.out.size _).trans B1)
    clear hcv G0 B0 G1 B1
    go_wp2
    go_loopw [3] (fun v wr => ∃ g cap m z, v = .slice (some ⟨g, 0, none⟩) m cap ∧ m = s.size + 1 + z ∧ z ≤ zerosN s.size ∧ Hid (Got wr w.heap.size g cap (textL s ++ [128] ++ List.replicate z 0) m) ∧ Hid (Below w.heap.size w wr)) (fun v _ => 1000100 - lenV v)
    case atStart => exact ⟨g1, cap1, _, 0, rfl, rfl, Nat.zero_le _, GH, BH⟩
    case round =>
      clear GH BH
      obtain ⟨g, cap, m, z, rfl, hm, hz, HG, HB⟩ := hrel
      by_cases h56 : m % 64 = 56
      · have ez : z = zerosN s.size := zerosN_le _ _ (by rw [← hm]; exact h56) hz
        have HM : Hid (m = s.size + 1 + zerosN s.size) := Lib.hid (by omega)
        obtain ⟨L, HL⟩ : ∃ L, Hid (L = textL s ++ [128] ++ List.replicate (zerosN s.size) 0) := ⟨_, Lib.hid rfl⟩
        rw [ez, ← HL.out] at HG
        have hmb : m ≤ 1000070 := by omega
        clear hm hz ez hzl
        have et : (m : Int).tmod 64 = 56 := by
          rw [Int.tmod_eq_emod_of_nonneg (by omega)]; omega
        clear h56
        go_wp2
        go_loopw [3, 5] (fun v i wr => ∃ g cap q x, v = .slice (some ⟨g, 0, none⟩) (m + q) cap ∧ i = .int .i64 x ∧ x = 7 - (q : Int) ∧ q ≤ 8 ∧ Hid (Got wr w.heap.size g cap (L ++ beL ((s.size : Int) * 8) q) (m + q)) ∧ Hid (Below w.heap.size w wr)) (fun _ i _ => (intOf i + 1).toNat)
        case atStart => exact ⟨g, cap, 0, 7, rfl, rfl, by omega, by omega, Lib.hid (by simpa [beL] using HG.out), HB⟩
        case round =>
          clear HG HB et
          obtain ⟨g, cap, q, x, rfl, rfl, hx, hq, HG, HB⟩ := hrel
          by_cases h0 : x < 0
          · have hq8 : q = 8 := by omega
            have HQ : Hid (q = 8) := Lib.hid hq8
            clear hx hq hq8
            go_wp2
            go_ret
            refine ⟨g, cap, by rw [HM.out, HQ.out]; rfl, ?_, HB.out⟩
            have := HG.out
            rw [HQ.out, HL.out, HM.out] at this
            exact this
          · obtain ⟨r, rfl⟩ : ∃ r : Nat, x = r := ⟨x.toNat, by omega⟩
            have hr : r ≤ 7 := by omega
            have HX : Hid (7 - q = r ∧ q < 8) := Lib.hid (by omega)
            clear hx hq h0
            go_wp2_with (at_builtin; refine wpList_append_got _ rfl (.tmp 25) (.tmp 31) rfl w.heap.size g cap (m + q) _ rfl (HG.out.alloc _) ?hB2 _ 1 1 5 [_] rfl (by omega) rfl (Row.made _ _ _) (by have := HX.out; omega) ?kont2)
            case hB2 => have := HB.out.size; simp; omega
            case kont2 =>
              intro g2 cap2 w2 G2 B2
              go_wp2
              go_roundw
              case rel =>
                have hX := HX.out
                exact ⟨g2, cap2, q + 1, _, rfl, rfl, by omega, by omega, Lib.hid (by simp only [beL, hX.1]; exact G2), Lib.hid ((HB.out.alloc HB.out.size _).trans B2)⟩
              case measure => first | (simp [intOf]; done) | (simp [intOf]; omega)
      · have hzz : z < zerosN s.size := by
          rcases Nat.lt_or_ge z (zerosN s.size) with h | h
          · exact h
          · exfalso; apply h56; rw [hm, show z = zerosN s.size by omega]; exact zerosN_is s.size
        have et : ((m : Int).tmod 64 != 56) = true := by
          rw [Int.tmod_eq_emod_of_nonneg (by omega)]; simp; omega
        have et2 : ¬ ((m : Int).tmod 64 = 56) := by simpa using et
        go_wp2_with (at_builtin; refine wpList_append_got _ rfl (.tmp 14) (.tmp 15) rfl w.heap.size g cap m _ rfl (HG.out.alloc _) ?hB3 _ 1 1 5 [0] rfl (by omega) rfl (Row.made _ _ _) (by omega) ?kont3)
        case hB3 => have := HB.out.size; simp; omega
        case kont3 =>
          intro g2 cap2 w2 G2 B2
          go_wp2
          go_roundw
          case rel => exact ⟨g2, cap2, _, z + 1, rfl, by omega, by omega, Lib.hid (by rw [List.replicate_succ']; simpa using G2), Lib.hid ((HB.out.alloc HB.out.size _).trans B2)⟩
          case measure => simp [lenV]; omega
#print axioms pad_any
end Go.Proofs.YtllabnhgiojmmaaDoor
