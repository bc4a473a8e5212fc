/-
  The walks of sha.Hex and of the document's Hex (layer 2): a hash's letters. Condition: 32 numbers of 8 bits. What they make is new memory; nothing that was there changes.
-/
import Derived.Test.YthagpnakcffjeaaDoorHexMath
import Derived.BigRegion
import Derived.Laws.BytesArg
namespace Go.Proofs.YthagpnakcffjeaaDoor
open Go.RowKit
set_option linter.unusedVariables false

theorem size32h (l : List Int) (h : l.length = 32) : (Tryd.prog.info? 24).map (·.size) = some (nums .u8 l).size := by rw [nums_size, h]; kernel_rfl
theorem and15 (b : Int) (h : 0 ≤ b ∧ b < 256) : bits .and .u8 b 15 = b % 16 := by
  rw [u8_and b 15 h.1 h.2 (by omega) (by omega)]
  have : b.toNat &&& (15 : Int).toNat = b.toNat % 16 := Nat.and_two_pow_sub_one_eq_mod b.toNat 4
  rw [this]; omega
def HexHead (w wr : World) (l : List Int) : Prop := Row wr (w.heap.size + 1) 57 (nums .u8 l) ∧ Below w.heap.size w wr
theorem HexHead.next {w wr : World} {l : List Int} {k : Nat} (H : HexHead w wr (hexRow l k)) (hl : l.length = 32) (hk : k < 32) :
    HexHead w (((wr.setCell ⟨w.heap.size + 1, 2 * k, none⟩ (.int .u8 (hexd (l.getD k 0 / 16)))).setCell ⟨w.heap.size + 1, 2 * k + 1, none⟩ (.int .u8 (hexd (l.getD k 0 % 16)))).drew) (hexRow l (k + 1)) := by
  have h1 := (H.1.numPut (2 * k) (hexd (l.getD k 0 / 16))).numPut (2 * k + 1) (hexd (l.getD k 0 % 16))
  rw [hexRow_step l hl k hk] at h1
  exact ⟨h1.drew, Below.drew ((H.2.setCell (by simp) _).setCell (by simp) _)⟩
theorem HexHead.text {w wr : World} {l : List Int} (H : HexHead w wr (hexL l)) (hl : l.length = 32) :
    (convert 32 9 (.slice (some ⟨w.heap.size + 1, 0, none⟩) 64 64)).run Tryd.prog wr = .ok (.string (hexS l)) wr :=
  run_convert_bytes_arg wr 32 5 Tryd.underlying32 Tryd.underlying5 (w.heap.size + 1) 0 64 64 (hexL l) (by rw [hexL_length]; omega) (fun i hi => by
    rw [Nat.zero_add]
    exact H.1.num (by rw [hexL_length]; omega)) 9 Tryd.underlying9
set_option maxHeartbeats 2000000 in
set_option maxRecDepth 100000 in
theorem hex_any (l : List Int) (hl : l.length = 32) (hb : bytes l) (w : World) :
    Calls Tryd.prog 15 #[.agg (nums .u8 l)] w fun ev w' => ev = .returned (.string (hexS l)) ∧ Below w.heap.size w w' := by
  have HL := Lib.hid hl
  have HB := Lib.hid hb
  have hbox : Hid (Row (w.alloc (.cells (nums .u8 l) 24)) w.heap.size 24 (nums .u8 l)) := Lib.hid (Row.made _ _ _)
  have H0 : Hid (HexHead w ((w.alloc (.cells (nums .u8 l) 24)).alloc (.cells (nums .u8 (List.replicate 64 0)) 57)) (hexRow l 0)) :=
    Lib.hid ⟨Row.made2 _ _ _ _, ((Below.refl _ _).alloc (Nat.le_refl _) _).alloc (by simp) _⟩
  have h6 := Lib.hid (size32h l hl)
  clear hl hb
  go_enter Tryd.func15, Tryd.ntmps15
  go_wp2_with (refine wpList_load_row rfl 24 _ rfl w.heap.size rfl 24 _ (0, 0) _ (hbox.out.alloc _) Tryd.underlying24 rfl h6.out ?_)
  go_loopw [4, 5, 7] (fun _ _ i wr => ∃ k : Nat, k ≤ 32 ∧ i = .int .i64 k ∧ Hid (HexHead w wr (hexRow l k))) (fun _ _ i _ => (32 - intOf i).toNat)
  case atStart => exact ⟨0, by omega, rfl, H0⟩
  case round =>
    clear H0 hbox
    obtain ⟨k, hk, rfl, HH⟩ := hrel
    by_cases hlt : k < 32
    · obtain ⟨b, hbk⟩ : ∃ b, Hid (b = l.getD k 0) := ⟨_, Lib.hid rfl⟩
      have hbb : 0 ≤ b ∧ b < 256 := by rw [hbk.out]; exact getD_bytes l HB.out k (by rw [HL.out]; exact hlt)
      have hi := fun w => index_hash l HL.out k hlt w
      rw [← hbk.out] at hi
      have d1 := digit_run (b / 16) (by omega)
      have d2 := digit_run (b % 16) (by omega)
      have e15 := and15 b hbb
      have r1 := HH.out.1.num (i := 2 * k) (by rw [hexRow_length l HL.out k hk]; omega)
      have r2 := HH.out.1.num (i := 2 * k + 1) (by rw [hexRow_length l HL.out k hk]; omega)
      have f1 := HH.out.1.free (2 * k)
      have f2 := HH.out.1.free (2 * k + 1)
      have g1 : (0 : Int) ≤ 2 * (k : Int) := by omega
      have g2 : 2 * (k : Int) + 1 < 64 := by omega
      have wr1 : IntKind.i64.wrap (2 * (k : Int)) = 2 * (k : Int) := by rw [IntKind.wrap_i64]; omega
      have wr2 : IntKind.i64.wrap (2 * (k : Int) + 1) = 2 * (k : Int) + 1 := by rw [IntKind.wrap_i64]; omega
      go_wp2
      go_region
      go_wp2
      go_roundw
      case rel => exact ⟨k + 1, by omega, by go_num, Lib.hid (by have h := HH.out.next HL.out hlt; rw [← hbk.out] at h; exact h)⟩
      case measure => simp [intOf]; omega
    · have hk9 : Hid (k = 32) := Lib.hid (by omega)
      have ht := (HexHead.text (l := l) (w := w) (wr := wr) (by have h := HH.out; rw [hk9.out, hexRow_all l HL.out] at h; exact h) HL.out)
      go_wp2
      go_ret
      exact ⟨rfl, HH.out.2⟩
end Go.Proofs.YthagpnakcffjeaaDoor
