/-
  Several texts in one (a claim has room for 60 files): HashesB, RefNumB, Texts, BitOnly, LampMath.
-/
import Derived.Test.YtpndccoikhejgaaDoorPk05
import Derived.Test.YtpndccoikhejgaaDoorPk04
import Derived.Test.YtpndccoikhejgaaDoorPk02
import Derived.Deep.RegionWith
import Derived.Test.YtpndccoikhejgaaDoorPk00
namespace Go.Proofs.YtpndccoikhejgaaDoor
open Go.RowKit
set_option linter.unusedVariables false
set_option maxRecDepth 100000

/-- A list's bytes. -/
def listL (ls : List (List Int)) : List Int := Codec.numL ls.length ++ ls.flatten
def listS (ls : List (List Int)) : ByteArray := if 64 < ls.length then ⟨#[]⟩ else strOfNums (listL ls)
def partS (n : Nat) (ls : List (List Int)) (k : Nat) : List Int := Codec.numL n ++ (ls.take k).flatten
theorem partS_next (n : Nat) (ls : List (List Int)) (k : Nat) (hk : k < ls.length) : partS n ls (k + 1) = partS n ls k ++ ls.getD k [] := by
  unfold partS; rw [flat_next ls k hk, List.append_assoc]
theorem textNum (n : Nat) : textL (numS n) = Codec.numL n := textL_nums _ (Codec.numL_bytes n)
theorem Got.text {w : World} {B g cap m : Nat} {l : List Int} (h : Got w B g cap l m) : (convert 48 9 (.slice (some ⟨g, 0, none⟩) m cap)).run Tryd.prog w = .ok (.string (strOfNums l)) w :=
  run_convert_bytes_arg w 48 5 Tryd.underlying48 Tryd.underlying5 g 0 m cap l h.1 (fun i hi => by rw [Nat.zero_add]; exact h.cell i hi) 9 Tryd.underlying9
theorem ret_txt {a b : ByteArray} (h : b = a) : Ending.returned (.string a) = .returned (.string b) := by rw [h]
attribute [local go_sem ↓ high] read_at
set_option maxHeartbeats 1000000 in
set_option maxRecDepth 100000 in
theorem hashes_any (ls : List (List Int)) (hs : hashes ls) (A : Option Addr) (c : Nat) (w : World) (hA : HL w w.heap.size A ls) (hn : ls.length ≤ maxLen) :
    Calls Tryd.prog 31 #[.slice A ls.length c] w fun e w' => e = .returned (.string (listS ls)) ∧ Below w.heap.size w w' := by
  unfold maxLen at hn
  obtain ⟨n, hN⟩ : ∃ n, Hid (n = ls.length) := ⟨_, Lib.hid rfl⟩
  have HA := Lib.hid hA
  rw [← hN.out] at hn ⊢
  clear hA
  by_cases hbig : 64 < n
  · have hS : Hid (listS ls = ⟨#[]⟩) := Lib.hid (by unfold listS; rw [if_pos (by rw [← hN.out]; exact hbig)])
    have hd : decide (64 < (n : Int)) = true := decide_eq_true (by omega)
    go_enter Tryd.func31, Tryd.ntmps31
    go_wp2
    go_ret
    exact ⟨by rw [hS.out]; rfl, Below.refl _ _⟩
  · have hS : Hid (listS ls = strOfNums (partS n ls n)) := Lib.hid (by unfold listS partS listL; rw [if_neg (by rw [← hN.out]; exact hbig), hN.out, List.take_length])
    have hd : decide (64 < (n : Int)) = false := decide_eq_false (by omega)
    have hn64 : n ≤ 64 := by omega
    have hL0 := Codec.numL_length n (by omega)
    obtain ⟨q, hq⟩ : ∃ q, Hid (q = (Codec.numL n).length) := ⟨_, Lib.hid rfl⟩
    rw [← hq.out] at hL0
    have hc := num_any n (by omega) w
    have hq2 : Hid ((numS n).size = q) := Lib.hid (by rw [hq.out]; unfold numS; rw [strOfNums_size])
    clear hbig
    go_enter Tryd.func31, Tryd.ntmps31
    go_wp2_with (go_at_call 28; (with_reducible refine hc.mono ?_); rintro e w1 ⟨rfl, hb⟩; obtain ⟨wb, cap0, hcv, G0, B0⟩ := conv_text w1 (numS n); rw [hq2.out] at hcv)
    have H0 : Hid (Got wb w1.heap.size w1.heap.size cap0 (partS n ls 0) q) := Lib.hid (by have := G0.out; rw [textNum, hq2.out] at this; simpa [partS] using this)
    have HB : Hid (Below w.heap.size w wb ∧ w.heap.size ≤ w1.heap.size) := Lib.hid ⟨below_new hb B0.out, hb.size⟩
    clear hcv G0 B0 hb
    go_loopw [3, 5, 16] (fun s3 s5 s16 wr => ∃ k g cap m : Nat, k ≤ n ∧ s16 = .int .i64 (k : Int) ∧ s3 = .slice (some ⟨g, 0, none⟩) m cap ∧ m = q + 32 * k ∧ Hid (Got wr w.heap.size g cap (partS n ls k) m) ∧ Hid (Below w.heap.size w wr)) (fun _ _ s16 _ => (n - intOf s16).toNat)
    case atStart => exact ⟨0, _, _, _, by omega, rfl, rfl, by omega, Lib.hid (by obtain ⟨a, b, r⟩ := H0.out; exact ⟨a, by have := HB.out.2; omega, r⟩), Lib.hid HB.out.1⟩
    case round =>
      clear H0 HB
      obtain ⟨k, g, cap, m, hk, rfl, rfl, hm, HG, HB⟩ := hrel
      by_cases hlt : k < n
      · obtain ⟨ad, rfl⟩ := HA.out.some k (by rw [← hN.out]; exact hlt)
        have s1 := (HA.out.next HB.out (Nat.le_refl _)).read hs k (by rw [← hN.out]; exact hlt)
        obtain ⟨l, hl⟩ : ∃ l, Hid (l = ls.getD k []) := ⟨_, Lib.hid rfl⟩
        rw [← hl.out] at s1
        have hll : Hid (l.length = 32) := Lib.hid (by rw [hl.out]; exact (hashes_at hs k (by rw [← hN.out]; exact hlt)).1)
        have hmb : m ≤ 3000 := by omega
        have hM := Lib.hid hm
        clear hm
        go_wp2_with (first
          | (refine wpList_store_fresh rfl 23 _ _ rfl (nums .u8 l) rfl rfl 23 _ (sizeHash l hll.out) (by rw [nums_size, hll.out]; rfl) (nums_one _ _) ?_; intro w2 hS2 hb2; have HS2 := Lib.hid hS2; have HB2 := Lib.hid hb2; clear hS2 hb2)
          | (at_builtin; refine wpList_append_got _ rfl (.tmp 20) (.tmp 21) rfl w.heap.size g cap m _ rfl (HG.out.same (HB2.out.block g HG.out.lt)) ?hBase wr.heap.size 32 32 23 l rfl (by omega) hll.out HS2.out (by omega) ?kont))
        case hBase => have := HB.out.size; have := HB2.out.size; omega
        case kont =>
          intro g' cap' w3 G3 B3
          go_wp2
          go_roundw
          case rel =>
            have := hM.out
            exact ⟨k + 1, g', cap', _, by omega, by go_num, rfl, by omega, Lib.hid (by rw [partS_next n ls k (by rw [← hN.out]; exact hlt), ← hl.out]; exact G3), Lib.hid ((below_new HB.out HB2.out).trans B3)⟩
          case measure => simp [intOf]; omega
      · have hk9 : Hid (k = n) := Lib.hid (by omega)
        have ht := HG.out.text
        clear hm
        go_wp2
        go_ret
        exact ⟨ret_txt (by rw [hS.out, hk9.out]), HB.out⟩
end Go.Proofs.YtpndccoikhejgaaDoor
namespace Go.Proofs.YtpndccoikhejgaaDoor
open Go.RowKit
set_option linter.unusedVariables false

theorem texts_app (a b : List Int) : strOfNums a ++ strOfNums b = strOfNums (a ++ b) := by
  simp only [strOfNums]
  rw [ByteArray.mk_append_mk]
  simp
theorem join_text (a b : ByteArray) (h : a.size + b.size ≤ 9223372036854775807) (w : World) : (Op.stringOp .add a b).run Tryd.prog w = .ok (.string (a ++ b)) w :=
  run_string_add_sum (P := Tryd.prog) (w := w) a b (by omega)
/-- A text of one byte, out of a slice of one. -/
theorem conv_one (W : World) (g : Nat) (x : Int) (h : W.cell? ⟨g, 0, none⟩ = some (.int .u8 x)) : (convert 48 9 (.slice (some ⟨g, 0, none⟩) 1 1)).run Tryd.prog W = .ok (.string (strOfNums [x])) W :=
  run_convert_bytes_arg W 48 5 Tryd.underlying48 Tryd.underlying5 g 0 1 1 [x] rfl (fun i hi => by
    obtain rfl : i = 0 := by omega
    simpa using h) 9 Tryd.underlying9
theorem conv_new (W : World) (x : Int) : (convert 48 9 (.slice (some ⟨W.heap.size, 0, none⟩) 1 1)).run Tryd.prog (W.alloc (.cells #[.int .u8 x] 5)) = .ok (.string (strOfNums [x])) (W.alloc (.cells #[.int .u8 x] 5)) :=
  conv_one _ _ x (by simp [World.cell?_alloc_new])
theorem conv_newd (W : World) (x : Int) : (convert 48 9 (.slice (some ⟨W.heap.size, 0, none⟩) 1 1)).run Tryd.prog (W.alloc (.cells #[.int .u8 x] 5)).drew = .ok (.string (strOfNums [x])) (W.alloc (.cells #[.int .u8 x] 5)).drew :=
  conv_one _ _ x (by simp [World.cell?_alloc_new])
theorem conv_next (W w1 : World) (x : Int) (hb : Below (W.alloc (.cells #[.int .u8 x] 5)).drew.heap.size (W.alloc (.cells #[.int .u8 x] 5)).drew w1) : (convert 48 9 (.slice (some ⟨W.heap.size, 0, none⟩) 1 1)).run Tryd.prog w1 = .ok (.string (strOfNums [x])) w1 :=
  conv_one _ _ x (by rw [hb.cell (p := ⟨W.heap.size, 0, none⟩) (by simp)]; simp [World.cell?_alloc_new])
set_option maxHeartbeats 1000000 in
set_option maxRecDepth 100000 in
theorem ahead_any (k : Nat) : ∀ (n : Nat) (w : World), 0 < n → n < 128 ^ k → n < 18446744073709551616 →
    Calls Tryd.prog 57 #[.int .u64 (n : Int)] w fun e w' => e = .returned (.string (strOfNums (Codec.upN n))) ∧ Below w.heap.size w w' := by
  induction k with
  | zero => intro n w h0 h1; simp at h1; omega
  | succ k ih =>
    intro n w h0 h1 hn
    have hU := Lib.hid (Codec.upN_pos n h0 (by omega))
    by_cases hlt : n < 128
    · have h1 : Hid (n / 128 = 0) := Lib.hid (by omega)
      have hi : (n : Int) < 128 := by omega
      have hi2 : decide ((n : Int) < 128) = true := decide_eq_true hi
      have hc := conv_new w ((n : Int) % 128 + 128)
      clear ih
      go_enter Tryd.func57, Tryd.ntmps57
      go_wp2_with fail
      go_ret
      refine ⟨?_, (Below.refl _ _).alloc (Nat.le_refl _) _⟩
      rw [hU.out, h1.out, Codec.upN_zero]
      rfl
    · have hc := conv_new w ((n : Int) % 128 + 128)
      have hd := ih (n / 128) (w.alloc (.cells #[.int .u8 ((n : Int) % 128 + 128)] 5)) (by omega) (by rw [Nat.pow_succ] at h1; omega) (by omega)
      have ha := join_text (strOfNums (Codec.upN (n / 128))) (strOfNums [(n : Int) % 128 + 128]) (by
        rw [strOfNums_size, strOfNums_size]
        have := Codec.upN_length 10 (n / 128) (by omega)
        simp; omega)
      rw [show ((n / 128 : Nat) : Int) = (n : Int) / 128 by omega] at hd
      have hi2 : decide ((n : Int) < 128) = false := decide_eq_false (by omega)
      clear ih
      go_enter Tryd.func57, Tryd.ntmps57
      go_wp2_with (go_at_call 57; (with_reducible refine hd.mono ?_); rintro e w1 ⟨rfl, hb⟩)
      go_ret
      refine ⟨?_, ((Below.refl _ _).alloc (Nat.le_refl _) _).trans (hb.mono (by simp))⟩
      rw [hU.out, ← texts_app]
      rfl
set_option maxHeartbeats 1000000 in
set_option maxRecDepth 100000 in
theorem refNum_any (n : Nat) (hn : n < 18446744073709551616) (w : World) :
    Calls Tryd.prog 32 #[.int .u64 (n : Int)] w fun e w' => e = .returned (.string (numS n)) ∧ Below w.heap.size w w' := by
  by_cases hlt : n < 128
  · have hU := Lib.hid (Codec.numL_small n hlt)
    have hi : (n : Int) < 128 := by omega
    have hi2 : decide ((n : Int) < 128) = true := decide_eq_true hi
    have hc := conv_new w (n : Int)
    go_enter Tryd.func32, Tryd.ntmps32
    go_wp2_with fail
    go_ret
    refine ⟨?_, (Below.refl _ _).alloc (Nat.le_refl _) _⟩
    unfold numS; rw [hU.out]; rfl
  · have hd : ∀ W, Calls Tryd.prog 57 #[.int .u64 ((n : Int) / 128)] W fun e w' => e = .returned (.string (strOfNums (Codec.upN (n / 128)))) ∧ Below W.heap.size W w' :=
      fun W => ahead_any 10 (n / 128) W (by omega) (by omega) (by omega)
    have HD := Lib.hid hd
    have hc1 := fun W => conv_new W ((n : Int) % 128)
    have hc2 := conv_newd w ((n : Int) % 128)
    have ha := join_text (strOfNums (Codec.upN (n / 128))) (strOfNums [(n : Int) % 128]) (by
      rw [strOfNums_size, strOfNums_size]
      have := Codec.upN_length 10 (n / 128) (by omega)
      simp; omega)
    clear hd
    have hR : Hid (numS n = strOfNums (Codec.upN (n / 128)) ++ strOfNums [(n : Int) % 128]) := Lib.hid (by rw [texts_app]; rfl)
    have ht : (n : Int).tmod 128 = (n : Int) % 128 := Int.tmod_eq_emod_of_nonneg (by omega)
    have hw1 : IntKind.u64.wrap ((n : Int) / 128) = (n : Int) / 128 := by rw [IntKind.wrap_u64]; omega
    have hw2 : IntKind.u8.wrap ((n : Int) % 128) = (n : Int) % 128 := by rw [IntKind.wrap_u8]; omega
    have hi2 : decide ((n : Int) < 128) = false := decide_eq_false (by omega)
    go_enter Tryd.func32, Tryd.ntmps32
    go_wp2_with fail
    go_region_with (go_at_call 57; (with_reducible refine (HD.out _).mono ?_); rintro e w1 ⟨rfl, hb⟩; (try have hc3 := conv_next _ _ _ hb); have HB := Lib.hid hb; clear hb)
    all_goals
      go_wp2
      go_ret
      refine ⟨ret_str hR.out.symm, ?_⟩
      first
      | exact (below_new (Below.refl _ _).drew HB.out).alloc (below_new (Below.refl _ _).drew HB.out).size _
      | exact below_new ((Below.refl _ _).alloc (Nat.le_refl _) _).drew HB.out
#print axioms refNum_any
end Go.Proofs.YtpndccoikhejgaaDoor
namespace Go.Proofs.YtpndccoikhejgaaDoor
open Go.RowKit
set_option linter.unusedVariables false
set_option maxRecDepth 100000

/-- A text with its length ahead. -/
def textS (s : ByteArray) : ByteArray := numS s.size ++ s
set_option maxHeartbeats 1000000 in
set_option maxRecDepth 100000 in
theorem text_any (s : ByteArray) (hs : s.size ≤ 4611686018427387904) (w : World) :
    Calls Tryd.prog 30 #[.string s] w fun e w' => e = .returned (.string (textS s)) ∧ Below w.heap.size w w' := by
  have hc := num_any s.size (by omega) w
  have ha := join_text (numS s.size) s (by have := numS_size s.size (by omega); omega)
  go_enter Tryd.func30, Tryd.ntmps30
  go_wp2_with (go_at_call 28; (with_reducible refine hc.mono ?_); rintro e w1 ⟨rfl, hb⟩)
  go_ret
  exact ⟨rfl, hb⟩
set_option maxHeartbeats 1000000 in
set_option maxRecDepth 100000 in
theorem refText_any (s : ByteArray) (hs : s.size ≤ 4611686018427387904) (w : World) :
    Calls Tryd.prog 34 #[.string s] w fun e w' => e = .returned (.string (textS s)) ∧ Below w.heap.size w w' := by
  have hc := refNum_any s.size (by omega) w
  have ha := join_text (numS s.size) s (by have := numS_size s.size (by omega); omega)
  go_enter Tryd.func34, Tryd.ntmps34
  go_wp2_with (go_at_call 32; (with_reducible refine hc.mono ?_); rintro e w1 ⟨rfl, hb⟩)
  go_ret
  exact ⟨rfl, hb⟩
end Go.Proofs.YtpndccoikhejgaaDoor
namespace Go.Proofs.YtpndccoikhejgaaDoor
open Go.RowKit
set_option linter.unusedVariables false
set_option maxRecDepth 100000

theorem and_one (v : Nat) (h : v < 256) : bits .and .i64 (wrap64 (v : Int)) 1 = ((v % 2 : Nat) : Int) := by
  have e : wrap64 (v : Int) = v := by unfold wrap64; omega
  have m := bits_mask .i64 62 (by decide) (fun n h0 h1 => by rw [IntKind.wrap_i64]; omega) 1 (by omega) (v : Int) (by omega) (by omega)
  rw [e]
  exact m.trans (by omega)
theorem byte_shift (c : UInt8) (k : Nat) : ((c.toNat : Int) / 2 ^ k) = ((c.toNat / 2 ^ k : Nat) : Int) := by rw [Int.natCast_ediv, Int.natCast_pow]; rfl
theorem shifted_lt (c : UInt8) (k : Nat) : c.toNat / 2 ^ k < 256 := Nat.lt_of_le_of_lt (Nat.div_le_self _ _) (byte_lt c)

/-- The bit of bytes, as a number. -/
def bitAt (s : ByteArray) (i : Int) : Int := if h : 0 ≤ i ∧ (i / 8).toNat < s.size then ((s[(i / 8).toNat]'h.2).toNat / 2 ^ (7 - i % 8).toNat % 2 : Nat) else 0
theorem bitAt_bd (s : ByteArray) (i : Int) : 0 ≤ bitAt s i ∧ bitAt s i ≤ 1 := by unfold bitAt; split <;> omega
set_option maxHeartbeats 400000 in
theorem bit_any (s : ByteArray) (i : Int) (w : World) (hs : s.size ≤ maxLen) (h : -9223372036854775808 ≤ i ∧ i ≤ 9223372036854775807) :
    Calls Tryd.prog 89 #[.string s, .int .i64 i] w fun e w' => e = .returned (.int .i64 (bitAt s i)) ∧ w = w' := by
  unfold maxLen at hs
  by_cases hneg : i < 0
  · have HZ := Lib.hid (show bitAt s i = 0 by unfold bitAt; rw [dif_neg (by omega)])
    go_enter Tryd.func89, Tryd.ntmps89
    go_wp2
    go_ret
    exact ⟨ret_i64 HZ.out.symm, rfl⟩
  · by_cases hbig : (s.size : Int) ≤ i / 8
    · have HZ := Lib.hid (show bitAt s i = 0 by unfold bitAt; rw [dif_neg (by omega)])
      go_enter Tryd.func89, Tryd.ntmps89
      go_wp2
      go_ret
      exact ⟨ret_i64 HZ.out.symm, rfl⟩
    · have hlt : (i / 8).toNat < s.size := by omega
      go_enter Tryd.func89, Tryd.ntmps89
      go_wp2
      go_ret
      refine ⟨ret_i64 ?_, rfl⟩
      unfold bitAt
      rw [dif_pos ⟨by omega, hlt⟩, byte_shift, and_one _ (shifted_lt _ _)]
/-- A byte, moved down. -/
def sh (c : UInt8) (j : Nat) : Nat := c.toNat / 2 ^ j
theorem sh_lt (c : UInt8) (j : Nat) : sh c j < 256 := shifted_lt c j
theorem halved (c : UInt8) (j : Nat) : ((sh c j : Nat) : Int) / 2 = ((sh c (j + 1) : Nat) : Int) := by
  unfold sh; rw [Nat.pow_succ, ← Nat.div_div_eq_div_mul]; omega
set_option maxHeartbeats 400000 in
theorem refBit_any (s : ByteArray) (i : Int) (w : World) (hs : s.size ≤ maxLen) (h : -9223372036854775808 ≤ i ∧ i ≤ 9223372036854775807) :
    Calls Tryd.prog 85 #[.string s, .int .i64 i] w fun e w' => e = .returned (.int .i64 (bitAt s i)) ∧ w = w' := by
  unfold maxLen at hs
  by_cases hneg : i < 0
  · have HZ := Lib.hid (show bitAt s i = 0 by unfold bitAt; rw [dif_neg (by omega)])
    go_enter Tryd.func85, Tryd.ntmps85
    go_wp2
    go_ret
    exact ⟨ret_i64 HZ.out.symm, rfl⟩
  · by_cases hbig : (s.size : Int) ≤ i / 8
    · have HZ := Lib.hid (show bitAt s i = 0 by unfold bitAt; rw [dif_neg (by omega)])
      go_enter Tryd.func85, Tryd.ntmps85
      go_wp2
      go_ret
      exact ⟨ret_i64 HZ.out.symm, rfl⟩
    · have hlt : (i / 8).toNat < s.size := by omega
      obtain ⟨c, hc⟩ : ∃ c : UInt8, c = s[(i / 8).toNat] := ⟨_, rfl⟩
      have HB := Lib.hid (show bitAt s i = (sh c (7 - i % 8).toNat % 2 : Nat) by unfold bitAt sh; rw [dif_pos ⟨by omega, hlt⟩, hc])
      have HC := Lib.hid hc
      clear hc
      go_enter Tryd.func85, Tryd.ntmps85
      go_wp2
      go_loop [5, 6] (fun t k => ∃ j : Nat, j ≤ (7 - i % 8).toNat ∧ k = .int .i64 (i % 8 + j) ∧ t = .int .u8 (sh c j : Nat)) (fun _ k => (7 - intOf k).toNat)
      case atStart => exact ⟨0, by omega, by simp, by rw [← HC.out]; simp [sh]⟩
      case round =>
        obtain ⟨j, hj, rfl, rfl⟩ := hrel
        have hl := sh_lt c j
        by_cases hlt2 : j < (7 - i % 8).toNat
        · have HH := Lib.hid (halved c j)
          go_wp2
          go_round
          case rel => exact ⟨j + 1, by omega, by first | go_num | (congr 1; omega), by rw [← HH.out]⟩
          case measure => simp [intOf]; omega
        · obtain rfl : j = (7 - i % 8).toNat := by omega
          go_wp2
          go_ret
          exact ⟨ret_i64 (by rw [HB.out]; omega), rfl⟩
end Go.Proofs.YtpndccoikhejgaaDoor
namespace Go.Proofs.YtpndccoikhejgaaDoor
open Go.RowKit
set_option linter.unusedVariables false
set_option maxRecDepth 100000

def zeroL : List Int := List.replicate 32 0
theorem zeroL_is : zeroL.length = 32 ∧ bytes zeroL := ⟨rfl, fun x hx => by have := List.eq_of_mem_replicate hx; omega⟩
/-- What is hashed of a secret. -/
def secS (seed : ByteArray) (index i bit : Int) : ByteArray := ⟨#[2]⟩ ++ textS seed ++ putS index 4 ++ putS (2 * i + bit) 2
def secL (seed : ByteArray) (index i bit : Nat) : List Int := sumL (secS seed index i bit)
/-- A secret; zero, if there is none. -/
def secF (seed : ByteArray) (index i bit : Int) : List Int := if index < 0 ∨ 2147483647 < index ∨ i < 0 ∨ 255 < i ∨ (bit ≠ 0 ∧ bit ≠ 1) then zeroL else sumL (secS seed index i bit)
theorem secF_no {seed : ByteArray} {index i bit : Int} (h : index < 0 ∨ 2147483647 < index ∨ i < 0 ∨ 255 < i ∨ (bit ≠ 0 ∧ bit ≠ 1)) : secF seed index i bit = zeroL := by unfold secF; rw [if_pos h]
theorem secF_ok {seed : ByteArray} {index i bit : Nat} (h1 : index ≤ 2147483647) (h2 : i ≤ 255) (h3 : bit ≤ 1) : secF seed index i bit = secL seed index i bit := by unfold secF; rw [if_neg (by omega)]; rfl
theorem secL_is (seed : ByteArray) (index i bit : Nat) : (secL seed index i bit).length = 32 ∧ bytes (secL seed index i bit) := ⟨sumL_length _, sumL_bytes _⟩
theorem secF_is (seed : ByteArray) (index i bit : Int) : (secF seed index i bit).length = 32 ∧ bytes (secF seed index i bit) := by
  unfold secF
  split
  · exact zeroL_is
  · exact ⟨sumL_length _, sumL_bytes _⟩
/-- A secret's hash. -/
def pubH (h : List Int) : List Int := sumL (⟨#[3]⟩ ++ strOfNums h)
theorem pubH_is (h : List Int) : (pubH h).length = 32 ∧ bytes (pubH h) := ⟨sumL_length _, sumL_bytes _⟩
def pubAt (seed : ByteArray) (index k : Nat) : List Int := pubH (secL seed index (k / 2) (k % 2))
/-- The first n of a key's public hashes. -/
def pubN (seed : ByteArray) (index n : Nat) : List (List Int) := (List.range n).map (pubAt seed index)
theorem pubN_length (seed : ByteArray) (index n : Nat) : (pubN seed index n).length = n := by simp [pubN]
theorem pubN_next (seed : ByteArray) (index n : Nat) : pubN seed index (n + 1) = pubN seed index n ++ [pubAt seed index n] := by unfold pubN; rw [List.range_succ, List.map_append]; rfl
theorem pubN_get (seed : ByteArray) (index n k : Nat) (h : k < n) : (pubN seed index n).getD k [] = pubAt seed index k := by simp [pubN, List.getD, h]
theorem pubN_hashes (seed : ByteArray) (index n : Nat) : hashes (pubN seed index n) := fun l hl => by
  obtain ⟨k, _, rfl⟩ := List.mem_map.1 hl
  exact pubH_is _
/-- A key's public hashes; none, if there is no such key. -/
def pubF (seed : ByteArray) (index : Int) : List (List Int) := if index < 0 ∨ 2147483647 < index then [] else pubN seed index.toNat 512
theorem pubF_no {seed : ByteArray} {index : Int} (h : index < 0 ∨ 2147483647 < index) : pubF seed index = [] := by unfold pubF; rw [if_pos h]
theorem pubF_ok {seed : ByteArray} {index : Nat} (h : index ≤ 2147483647) : pubF seed index = pubN seed index 512 := by unfold pubF; rw [if_neg (by omega)]; rfl
theorem pubF_hashes (seed : ByteArray) (index : Int) : hashes (pubF seed index) := by
  unfold pubF
  split
  · intro l hl; cases hl
  · exact pubN_hashes _ _ _
/-- What stands for a key with these hashes. -/
def keyS (ls : List (List Int)) : ByteArray := ⟨#[4]⟩ ++ strOfNums ls.flatten
def keyF (ls : List (List Int)) : List Int := if ls.length = 512 then sumL (keyS ls) else zeroL
theorem keyF_no {ls : List (List Int)} (h : ¬ ls.length = 512) : keyF ls = zeroL := by unfold keyF; rw [if_neg h]
theorem keyF_ok {ls : List (List Int)} (h : ls.length = 512) : keyF ls = sumL (keyS ls) := by unfold keyF; rw [if_pos h]
theorem keyF_is (ls : List (List Int)) : (keyF ls).length = 32 ∧ bytes (keyF ls) := by
  unfold keyF
  split
  · exact ⟨sumL_length _, sumL_bytes _⟩
  · exact zeroL_is
/-- A digest's bit. -/
def bitN (d : List Int) (i : Nat) : Nat := (bitAt (strOfNums d) i).toNat
theorem bitN_le (d : List Int) (i : Nat) : bitN d i ≤ 1 := by have := bitAt_bd (strOfNums d) i; unfold bitN; omega
theorem bitN_is (d : List Int) (i : Nat) : bitAt (strOfNums d) (i : Int) = (bitN d i : Int) := by have := bitAt_bd (strOfNums d) i; unfold bitN; omega
/-- The first n parts of a signature's front, and of what is behind it. -/
def sigA (seed : ByteArray) (index : Nat) (d : List Int) (n : Nat) : List (List Int) := (List.range n).map fun i => secL seed index i (bitN d i)
def sigB (seed : ByteArray) (index : Nat) (d : List Int) (n : Nat) : List (List Int) := (List.range n).map fun i => pubH (secL seed index i (1 - bitN d i))
theorem sigA_length (seed : ByteArray) (index : Nat) (d : List Int) (n : Nat) : (sigA seed index d n).length = n := by simp [sigA]
theorem sigB_length (seed : ByteArray) (index : Nat) (d : List Int) (n : Nat) : (sigB seed index d n).length = n := by simp [sigB]
theorem sigA_next (seed : ByteArray) (index : Nat) (d : List Int) (n : Nat) : sigA seed index d (n + 1) = sigA seed index d n ++ [secL seed index n (bitN d n)] := by unfold sigA; rw [List.range_succ, List.map_append]; rfl
theorem sigB_next (seed : ByteArray) (index : Nat) (d : List Int) (n : Nat) : sigB seed index d (n + 1) = sigB seed index d n ++ [pubH (secL seed index n (1 - bitN d n))] := by unfold sigB; rw [List.range_succ, List.map_append]; rfl
theorem sigA_get (seed : ByteArray) (index : Nat) (d : List Int) (n i : Nat) (h : i < n) : (sigA seed index d n).getD i [] = secL seed index i (bitN d i) := by simp [sigA, List.getD, h]
theorem sigB_get (seed : ByteArray) (index : Nat) (d : List Int) (n i : Nat) (h : i < n) : (sigB seed index d n).getD i [] = pubH (secL seed index i (1 - bitN d i)) := by simp [sigB, List.getD, h]
theorem sigA_hashes (seed : ByteArray) (index : Nat) (d : List Int) (n : Nat) : hashes (sigA seed index d n) := fun l hl => by
  obtain ⟨k, _, rfl⟩ := List.mem_map.1 hl
  exact secL_is _ _ _ _
theorem sigB_hashes (seed : ByteArray) (index : Nat) (d : List Int) (n : Nat) : hashes (sigB seed index d n) := fun l hl => by
  obtain ⟨k, _, rfl⟩ := List.mem_map.1 hl
  exact pubH_is _
theorem flat_size {ls : List (List Int)} (h : hashes ls) : ls.flatten.length = 32 * ls.length := by
  induction ls with
  | nil => rfl
  | cons l r ih =>
    rw [List.flatten_cons, List.length_append, ih (fun x hx => h x (by simp [hx])), (h l (by simp)).1, List.length_cons]
    omega
theorem flat_bytes {ls : List (List Int)} (h : hashes ls) : bytes ls.flatten := fun x hx => by
  obtain ⟨l, hl, hx⟩ := List.mem_flatten.1 hx
  exact (h l hl).2 x hx
theorem flat_part (ls : List (List Int)) : hashes ls → ∀ i, i < ls.length → (ls.flatten.drop (32 * i)).take 32 = ls.getD i [] := by
  induction ls with
  | nil => intro _ i h; simp at h
  | cons l r ih =>
    intro hs i hi
    have hl := (hs l (by simp)).1
    cases i with
    | zero =>
      rw [List.flatten_cons, Nat.mul_zero, List.drop_zero, List.take_append_of_le_length (by omega), List.take_of_length_le (by omega)]
      rfl
    | succ i =>
      have := ih (fun x hx => hs x (by simp [hx])) i (by simpa using hi)
      rw [List.flatten_cons, List.drop_append, List.drop_of_length_le (by omega), List.nil_append, show 32 * (i + 1) - l.length = 32 * i by omega, this]
      rfl
/-- A signature's bytes; nothing, if there is no such key. -/
def sigL (seed : ByteArray) (index : Nat) (d : List Int) : List Int := (sigA seed index d 256).flatten ++ (sigB seed index d 256).flatten
def sigF (seed : ByteArray) (index : Int) (d : List Int) : ByteArray := if index < 0 ∨ 2147483647 < index then ⟨#[]⟩ else strOfNums (sigL seed index.toNat d)
theorem sigF_no {seed : ByteArray} {index : Int} {d : List Int} (h : index < 0 ∨ 2147483647 < index) : sigF seed index d = ⟨#[]⟩ := by unfold sigF; rw [if_pos h]
theorem sigF_ok {seed : ByteArray} {index : Nat} {d : List Int} (h : index ≤ 2147483647) : sigF seed index d = strOfNums (sigL seed index d) := by unfold sigF; rw [if_neg (by omega)]; rfl
theorem sigL_length (seed : ByteArray) (index : Nat) (d : List Int) : (sigL seed index d).length = 16384 := by
  unfold sigL
  rw [List.length_append, flat_size (sigA_hashes _ _ _ _), flat_size (sigB_hashes _ _ _ _), sigA_length, sigB_length]
theorem sigL_bytes (seed : ByteArray) (index : Nat) (d : List Int) : bytes (sigL seed index d) := fun x hx => by
  rcases List.mem_append.1 hx with h | h
  · exact flat_bytes (sigA_hashes _ _ _ _) x h
  · exact flat_bytes (sigB_hashes _ _ _ _) x h
theorem sigL_front (seed : ByteArray) (index : Nat) (d : List Int) (i : Nat) (h : i < 256) : ((sigL seed index d).drop (32 * i)).take 32 = secL seed index i (bitN d i) := by
  have hl := flat_size (sigA_hashes seed index d 256)
  rw [sigA_length] at hl
  unfold sigL
  rw [List.drop_append_of_le_length (by omega), List.take_append_of_le_length (by rw [List.length_drop]; omega), flat_part _ (sigA_hashes _ _ _ _) i (by rw [sigA_length]; exact h), sigA_get _ _ _ _ _ h]
theorem sigL_back (seed : ByteArray) (index : Nat) (d : List Int) (i : Nat) (h : i < 256) : ((sigL seed index d).drop (8192 + 32 * i)).take 32 = pubH (secL seed index i (1 - bitN d i)) := by
  have hl := flat_size (sigA_hashes seed index d 256)
  rw [sigA_length] at hl
  unfold sigL
  rw [List.drop_append, List.drop_of_length_le (by omega), List.nil_append, show 8192 + 32 * i - ((sigA seed index d 256).flatten).length = 32 * i by omega, flat_part _ (sigB_hashes _ _ _ _) i (by rw [sigB_length]; exact h), sigB_get _ _ _ _ _ h]
/-- The public hashes that bytes and a digest say. -/
def recAt (T d : List Int) (k : Nat) : List Int := if k % 2 = bitN d (k / 2) then pubH ((T.drop (32 * (k / 2))).take 32) else (T.drop (8192 + 32 * (k / 2))).take 32
def recL (T d : List Int) : List (List Int) := (List.range 512).map (recAt T d)
theorem recL_length (T d : List Int) : (recL T d).length = 512 := by simp [recL]
theorem recL_get (T d : List Int) (k : Nat) (h : k < 512) : (recL T d).getD k [] = recAt T d k := by simp [recL, List.getD, h]
theorem recAt_is (T d : List Int) (hT : bytes T) (hl : T.length = 16384) (k : Nat) (hk : k < 512) : (recAt T d k).length = 32 ∧ bytes (recAt T d k) := by
  unfold recAt
  split
  · exact pubH_is _
  · refine ⟨by rw [List.length_take, List.length_drop]; omega, fun x hx => hT x (List.mem_of_mem_drop (List.mem_of_mem_take hx))⟩
theorem recL_hashes (T d : List Int) (hT : bytes T) (hl : T.length = 16384) : hashes (recL T d) := fun l h => by
  obtain ⟨k, hk, rfl⟩ := List.mem_map.1 h
  exact recAt_is T d hT hl k (by simpa using hk)
/-- What is recovered, and the error. -/
def recF (s : ByteArray) (d : List Int) : List Int × Int := if s.size = 16384 then (keyF (recL (textL s) d), 0) else (zeroL, 10)
theorem recF_no {s : ByteArray} {d : List Int} (h : ¬ s.size = 16384) : recF s d = (zeroL, 10) := by unfold recF; rw [if_neg h]
theorem recF_ok {s : ByteArray} {d : List Int} (h : s.size = 16384) : recF s d = (keyF (recL (textL s) d), 0) := by unfold recF; rw [if_pos h]
theorem recF_is (s : ByteArray) (d : List Int) : (recF s d).1.length = 32 ∧ bytes (recF s d).1 := by
  unfold recF
  split
  · exact keyF_is (recL (textL s) d)
  · exact zeroL_is
/-- Of a signature its key's public hashes are told. -/
theorem recL_sig (seed : ByteArray) (index : Nat) (d : List Int) : recL (sigL seed index d) d = pubN seed index 512 := by
  unfold recL pubN
  refine List.map_congr_left (fun k hk => ?_)
  have hk : k < 512 := by simpa using hk
  have hb := bitN_le d (k / 2)
  unfold recAt pubAt
  split
  · rename_i h
    rw [sigL_front _ _ _ _ (by omega), h]
  · rename_i h
    rw [sigL_back _ _ _ _ (by omega), show 1 - bitN d (k / 2) = k % 2 by omega]
theorem sigF_size (seed : ByteArray) (index : Nat) (d : List Int) (h : index ≤ 2147483647) : (sigF seed index d).size = 16384 := by rw [sigF_ok h, strOfNums_size, sigL_length]
theorem recF_sig (seed : ByteArray) (index : Nat) (d : List Int) (h : index ≤ 2147483647) : recF (sigF seed index d) d = (keyF (pubN seed index 512), 0) := by
  rw [recF_ok (sigF_size seed index d h), sigF_ok h, textL_nums _ (sigL_bytes seed index d), recL_sig]
end Go.Proofs.YtpndccoikhejgaaDoor
